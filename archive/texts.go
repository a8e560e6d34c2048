package archive

import (
	"strings"

	"stow/sums"
)

const (
	chunkSize    = 96 // of each chunk of a file but the last
	longestLabel = 20
	wordSize     = 4
	sumSize      = len(sums.Sum{})
	rootSize     = wordSize + sumSize // of a snapshot's text, without its label
	nameAt       = 2                  // where, in what a directory says of a name, that begins
)

// In a directory's text: what a name is the name of.
const (
	fileMark = iota + 1
	directoryMark
)

// fileText is what a file's text says (P7).
type fileText struct {
	size   int
	chunks []sums.Sum
}

// named is what a directory's text says of one name (P7).
type named struct {
	name        string
	isDirectory bool
	sum         sums.Sum
}

// snapshotText is what a snapshot's text says (P7).
type snapshotText struct {
	number uint32
	root   sums.Sum
	label  string
}

func isChunk(text string) bool { return len(text) >= 1 && len(text) <= chunkSize }

// sizeOfChunk tells how many bytes of a file of that size stand in its i-th chunk.
func sizeOfChunk(size, i int) int { return min(size-i*chunkSize, chunkSize) }

func (f fileText) text() string {
	text := word(uint32(f.size))
	for _, sum := range f.chunks {
		text += string(sum[:])
	}
	return text
}

// fileOf takes a file's text apart; false: it is none.
func fileOf(text string) (fileText, bool) {
	if len(text) < wordSize || numberOf(text) > mostBytes {
		return fileText{}, false
	}
	file := fileText{size: int(numberOf(text))}
	chunks := (file.size + chunkSize - 1) / chunkSize
	if len(text) != wordSize+chunks*sumSize {
		return fileText{}, false
	}
	for i := range chunks {
		file.chunks = append(file.chunks, sumOf(text[wordSize+i*sumSize:]))
	}
	return file, true
}

func (n named) text() string {
	mark := byte(fileMark)
	if n.isDirectory {
		mark = directoryMark
	}
	return string([]byte{mark, byte(len(n.name))}) + n.name + string(n.sum[:])
}

// kind tells which kind of text a name's Sum is that of.
func (n named) kind() kind {
	if n.isDirectory {
		return directoryKind
	}
	return fileKind
}

func directoryText(list []named) string {
	text := ""
	for _, there := range list {
		text += there.text()
	}
	return text
}

// directoryOf takes a directory's text apart; false: it is none.
func directoryOf(text string) ([]named, bool) {
	var list []named
	last := "" // ahead of every name
	for text != "" {
		there, rest, ok := cutNamed(text)
		if !ok || there.name <= last || len(list) == mostInDirectory {
			return nil, false
		}
		list = append(list, there)
		last, text = there.name, rest
	}
	return list, true
}

// cutNamed takes the first name, and what is said of it, from a directory's text; false: no name stands there.
func cutNamed(text string) (named, string, bool) {
	if len(text) < nameAt {
		return named{}, "", false
	}
	mark, end := text[0], nameAt+int(text[1])
	if mark != fileMark && mark != directoryMark || len(text) < end+sumSize {
		return named{}, "", false
	}
	name := text[nameAt:end]
	return named{name: name, isDirectory: mark == directoryMark, sum: sumOf(text[end:])}, text[end+sumSize:], isName(name)
}

func (s snapshotText) text() string { return word(s.number) + string(s.root[:]) + s.label }

// snapshotOf takes a snapshot's text apart; false: it is none.
func snapshotOf(text string) (snapshotText, bool) {
	if len(text) < rootSize || len(text) > rootSize+longestLabel {
		return snapshotText{}, false
	}
	label := strings.Clone(text[rootSize:]) // it is kept, and the text not
	return snapshotText{number: numberOf(text), root: sumOf(text[wordSize:]), label: label}, true
}

// numberOf tells the number with which a text begins, the high byte first.
func numberOf(text string) uint32 {
	var n uint32
	for i := range wordSize {
		n = n<<8 | uint32(text[i])
	}
	return n
}

// sumOf tells the Sum with which a text begins.
func sumOf(text string) sums.Sum {
	var sum sums.Sum
	copy(sum[:], text)
	return sum
}

// word is a number in four bytes, the high byte first.
func word(n uint32) string {
	return string([]byte{byte(n >> 24), byte(n >> 16), byte(n >> 8), byte(n)})
}

// half is a number in two bytes, the high byte first.
func half(n uint16) string { return string([]byte{byte(n >> 8), byte(n)}) }
