package archive

import (
	"strings"

	"stow/sums"
)

// text reads an object's text from the disk: ErrCorrupt: it has not its Sum any more.
func (a *Archive) text(kind kind, sum sums.Sum) (string, error) {
	there := a.objects[kind][sum]
	data, err := stretch(a.disk, there.at, sectorsOf(there.size))
	if err != nil {
		return "", err
	}
	text := data[textAt : textAt+there.size]
	if sums.Of(text) != sum {
		return "", &Fault{At: there.at, Err: ErrCorrupt}
	}
	return text, nil
}

// directory reads what stands in a directory from the disk.
func (a *Archive) directory(sum sums.Sum) ([]named, error) {
	text, err := a.text(directoryKind, sum)
	if err != nil {
		return nil, err
	}
	list, _ := directoryOf(text) // it was one when it was taken in, and has its Sum still
	return list, nil
}

// file reads a file's text, but no chunk, from the disk.
func (a *Archive) file(sum sums.Sum) (fileText, error) {
	text, err := a.text(fileKind, sum)
	if err != nil {
		return fileText{}, err
	}
	file, _ := fileOf(text) // as with a directory's
	return file, nil
}

// contents reads a file and its chunks from the disk.
func (a *Archive) contents(sum sums.Sum) (string, error) {
	file, err := a.file(sum)
	if err != nil {
		return "", err
	}
	var data strings.Builder
	for _, sum := range file.chunks {
		chunk, err := a.text(chunkKind, sum)
		if err != nil {
			return "", err
		}
		data.WriteString(chunk)
	}
	return data.String(), nil
}

// findKept goes through the names of a path of a snapshot, one by one (P5), and reads the directories on the way.
func (a *Archive) findKept(n int, names []string) (named, error) {
	if n < 1 || n > len(a.snapshots) {
		return named{}, ErrNone
	}
	at := named{isDirectory: true, sum: a.snapshots[n-1].root}
way:
	for _, name := range names {
		if !at.isDirectory {
			return named{}, ErrKind
		}
		list, err := a.directory(at.sum)
		if err != nil {
			return named{}, err
		}
		for _, there := range list {
			if there.name == name {
				at = there
				continue way
			}
		}
		return named{}, ErrNone
	}
	return at, nil
}

// readKept tells a file of a snapshot (P11).
func (a *Archive) readKept(n int, names []string) (string, error) {
	there, err := a.findKept(n, names)
	if err != nil {
		return "", err
	}
	if there.isDirectory {
		return "", ErrKind
	}
	return a.contents(there.sum)
}

// listKept tells what stands in a directory of a snapshot (P11): it reads that, then its files.
func (a *Archive) listKept(n int, names []string) ([]Entry, error) {
	dir, err := a.findKept(n, names)
	if err != nil {
		return nil, err
	}
	if !dir.isDirectory {
		return nil, ErrKind
	}
	list, err := a.directory(dir.sum)
	if err != nil {
		return nil, err
	}
	var entries []Entry
	for _, there := range list {
		entry := Entry{Name: there.name, Dir: there.isDirectory}
		if !there.isDirectory {
			file, err := a.file(there.sum)
			if err != nil {
				return nil, err
			}
			entry.Size = file.size
		}
		entries = append(entries, entry)
	}
	return entries, nil
}

// lastTree is the tree as the last snapshot has it, or an empty one.
func (a *Archive) lastTree() (*node, error) {
	if len(a.snapshots) == 0 {
		return newDirectory(), nil
	}
	return a.grown(a.snapshots[len(a.snapshots)-1].root)
}

// grown makes a directory of a snapshot, with all below, into one of a tree.
func (a *Archive) grown(sum sums.Sum) (*node, error) {
	list, err := a.directory(sum)
	if err != nil {
		return nil, err
	}
	dir := newDirectory()
	for _, there := range list {
		below, err := a.grownBelow(there)
		if err != nil {
			return nil, err
		}
		dir.put(there.name, below)
	}
	return dir, nil
}

func (a *Archive) grownBelow(there named) (*node, error) {
	if there.isDirectory {
		return a.grown(there.sum)
	}
	data, err := a.contents(there.sum)
	if err != nil {
		return nil, err
	}
	return newFile(data), nil
}
