package archive

import (
	"maps"
	"slices"
	"strings"

	"stow/sums"
)

// draft is what is to be written for a snapshot (P10).
type draft struct {
	there objects // those that are not to be written again
	added objects
	data  strings.Builder // the sectors of what is added
	end   tail            // behind that
}

func newDraft(there objects, end tail) *draft {
	return &draft{there: there, added: newObjects(), end: end}
}

// directory puts in a directory of the tree, behind all that is below it.
func (w *draft) directory(dir *node) sums.Sum {
	var list []named
	for _, name := range slices.Sorted(maps.Keys(dir.names)) {
		below := dir.names[name]
		there := named{name: name, isDirectory: below.isDirectory()}
		if there.isDirectory {
			there.sum = w.directory(below)
		} else {
			there.sum = w.file(below.data)
		}
		list = append(list, there)
	}
	return w.object(directoryKind, directoryText(list))
}

// file puts in a file behind its chunks.
func (w *draft) file(data string) sums.Sum {
	file := fileText{size: len(data)}
	for from := 0; from < len(data); from += chunkSize {
		chunk := data[from:min(from+chunkSize, len(data))]
		file.chunks = append(file.chunks, w.object(chunkKind, chunk))
	}
	return w.object(fileKind, file.text())
}

// object puts in a text, if it is not there already, and tells its Sum.
func (w *draft) object(kind kind, text string) sums.Sum {
	sum := sums.Of(text)
	if !w.there.has(kind, sum) && !w.added.has(kind, sum) {
		w.added.put(kind, sum, object{at: w.end.at, size: len(text)})
		data, behind := w.end.with(kind, text)
		w.data.WriteString(data)
		w.end = behind
	}
	return sum
}

// lay writes sectors, from one on, and makes them safe.
func lay(d *Disk, from int, data string) error {
	for at := from; data != ""; at++ {
		if err := d.Write(at, data[:sectorSize]); err != nil {
			return err
		}
		data = data[sectorSize:]
	}
	return d.Flush()
}
