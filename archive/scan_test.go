package archive

import (
	"slices"
	"strconv"
	"testing"

	"stow/sums"
)

// No two texts with one SHA-256 are known: so what takes records in is asked with Sums that are told, not reckoned.

// shared is the Sum that several texts are told to have.
var shared = sums.Sum{1, 2, 3}

// told is a record, and the Sum that its text is told to have.
type told struct {
	kind kind
	text string
	sum  sums.Sum
}

// right tells the Sum that the text has.
func right(kind kind, text string) told { return told{kind, text, sums.Of(text)} }

func firstSnapshot(root sums.Sum) told {
	return right(snapshotKind, snapshotText{number: 1, root: root}.text())
}

// taken lays records on a disk and has them taken in; it tells how many were.
func taken(t *testing.T, list ...told) (*scan, int) {
	t.Helper()
	d := NewDisk(200)
	end := start(d.Sectors())
	var starts []int
	for _, r := range list {
		data, behind := end.with(r.kind, r.text)
		if err := lay(d, end.at, data); err != nil {
			t.Fatal(err)
		}
		starts = append(starts, end.at)
		end = behind
	}
	starts = append(starts, end.at)
	s, next := newScan(), 0
	end = records(d, func(r record) bool {
		sum := list[next].sum
		next++
		if r.kind == snapshotKind {
			return s.take(r)
		}
		return s.takeObject(sum, r)
	})
	return s, slices.Index(starts, end.at)
}

// ground is what the directories here hang on: an empty file, an empty directory, and directories of one name and of 16.
func ground() []told {
	return []told{
		right(fileKind, fileText{}.text()), right(directoryKind, ""),
		right(directoryKind, directoryText(files(1))), right(directoryKind, directoryText(files(16))),
	}
}

func files(n int) []named {
	var list []named
	for i := range n {
		list = append(list, named{name: "f" + strconv.Itoa(10+i), sum: sums.Of(fileText{}.text())})
	}
	return list
}

// holding is the text of a directory in which one of that Sum stands alone.
func holding(sum sums.Sum) string {
	return directoryText([]named{{name: "d", isDirectory: true, sum: sum}})
}

// deep tells directories of 0, 1 .. names behind one another, the deepest last.
func deep(names int) []told {
	list := []told{right(directoryKind, "")}
	for range names {
		list = append(list, right(directoryKind, holding(list[len(list)-1].sum)))
	}
	return list
}

// wide is the text of a directory with 255 names in all, and more.
func wide(more ...named) string {
	var list []named
	for i := range 15 {
		list = append(list, named{name: "d" + strconv.Itoa(10+i), isDirectory: true, sum: sums.Of(directoryText(files(16)))})
	}
	return directoryText(append(list, more...))
}

// pair: of two directories with one Sum a snapshot may have the one, but not the other.
type pair struct {
	within, beyond string
	root           []told // what is the snapshot's, if it is not the directory itself, but holds it
}

func pairs() map[string]pair {
	outer := []told{right(directoryKind, holding(shared))}
	eight := deep(8)
	of256, of257 := wide(files(1)...), wide(named{name: "e", isDirectory: true, sum: sums.Of(directoryText(files(1)))})
	return map[string]pair{
		"8 or 9 deep":         {eight[8].text, holding(eight[8].sum), nil},
		"0 or 9 deep":         {"", holding(eight[8].sum), nil},
		"7 or 8 deep, in one": {eight[7].text, eight[8].text, outer},
		"256 or 257 names":    {of256, of257, nil},
		"0 or 257 names":      {"", of257, nil},
		"255 or 256, in one":  {wide(), of256, outer},
		"256 names or 9 deep": {of256, holding(eight[8].sum), nil},
	}
}

// records lays out two directories with one Sum, and the snapshot.
func (p pair) records(first, second string) []told {
	list := append(ground(), deep(8)...)
	list = append(list, told{directoryKind, first, shared}, told{directoryKind, second, shared})
	list = append(list, p.root...)
	return append(list, firstSnapshot(list[len(list)-1].sum))
}

func TestOfDirectoriesWithOneSumTheFirstIsMeant(t *testing.T) {
	for what, p := range pairs() {
		fine := p.records(p.within, p.beyond)
		if s, got := taken(t, fine...); got != len(fine) || len(s.snapshots) != 1 {
			t.Errorf("P7: %s: the first is within: of %d records %d are taken", what, len(fine), got)
		}
		wrong := p.records(p.beyond, p.within)
		if s, got := taken(t, wrong...); got != len(wrong)-1 || len(s.snapshots) != 0 {
			t.Errorf("P7: %s: the first is beyond: of %d records %d are taken, want all but the snapshot", what, len(wrong), got)
		}
	}
}

// TestADirectoryThatHoldsItsOwnSum: what it holds is the first with that Sum, not itself.
func TestADirectoryThatHoldsItsOwnSum(t *testing.T) {
	list := ground()
	for _, text := range []string{"", holding(shared), holding(shared), holding(shared)} {
		list = append(list, told{directoryKind, text, shared})
	}
	list = append(list, firstSnapshot(shared))
	s, got := taken(t, list...)
	if got != len(list) || s.extents[shared] != (extent{}) {
		t.Errorf("P7: of %d records %d are taken; the directory goes to %v, want none", len(list), got, s.extents[shared])
	}
	if _, got := taken(t, told{directoryKind, holding(shared), shared}); got != 0 {
		t.Error("P7: a directory that holds its own Sum alone is taken")
	}
}

// TestTheFirstAloneIsKept: whatever the kind, and however many follow; those of other kinds are others.
func TestTheFirstAloneIsKept(t *testing.T) {
	list := []told{
		{chunkKind, "a", shared}, {chunkKind, "bb", shared},
		{fileKind, fileText{size: 1, chunks: []sums.Sum{shared}}.text(), shared}, {fileKind, fileText{}.text(), shared},
		{directoryKind, directoryText([]named{{name: "f", sum: shared}}), shared}, {directoryKind, "", shared}, {directoryKind, holding(shared), shared},
	}
	s, got := taken(t, list...)
	if got != len(list) {
		t.Fatalf("P7: of %d records %d are taken", len(list), got)
	}
	want := [snapshotKind]object{chunkKind: {at: 1, size: 1}, fileKind: {at: 3, size: 36}, directoryKind: {at: 5, size: 35}}
	for _, kind := range []kind{chunkKind, fileKind, directoryKind} {
		if there := s.objects[kind][shared]; there != want[kind] || len(s.objects[kind]) != 1 {
			t.Errorf("P7: of kind %d %v is kept, want %v alone", kind, there, want[kind])
		}
	}
	if got := s.extents[shared]; got != (extent{deep: 1, names: 1}) {
		t.Errorf("P7: the directory goes to %v, want the first one's one name", got)
	}
}

// TestOfChunksWithOneSumTheFirstHasTheSize: a later one of the size that is meant does not help.
func TestOfChunksWithOneSumTheFirstHasTheSize(t *testing.T) {
	for size, want := range map[int]int{1: 3, 2: 2} {
		_, got := taken(t, told{chunkKind, "a", shared}, told{chunkKind, "bb", shared}, right(fileKind, fileText{size: size, chunks: []sums.Sum{shared}}.text()))
		if got != want {
			t.Errorf("P7: a file of %d: %d records are taken, want %d", size, got, want)
		}
	}
}

// TestALaterOneMustBeRightToo: that its Sum is there already does not make a text one of its kind.
func TestALaterOneMustBeRightToo(t *testing.T) {
	for _, wrong := range []told{
		{chunkKind, "", shared}, {fileKind, "\x00", shared}, {directoryKind, "\x01", shared}, {directoryKind, holding(sums.Sum{9}), shared},
	} {
		list := append(ground(), told{chunkKind, "a", shared}, told{fileKind, fileText{}.text(), shared}, told{directoryKind, "", shared})
		want := len(list)
		s, got := taken(t, append(list, wrong, firstSnapshot(shared))...)
		if got != want || s.extents[shared] != (extent{}) {
			t.Errorf("P9: a text %q of kind %d: %d records are taken, want %d", wrong.text, wrong.kind, got, want)
		}
	}
}
