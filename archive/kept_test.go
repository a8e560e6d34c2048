package archive_test

import (
	"errors"
	"fmt"
	"math/rand"
	"slices"
	"strings"
	"testing"

	"stow/archive"
)

// corrupt: an error is ErrCorrupt, and tells that sector.
func corrupt(t *testing.T, what string, err error, at int) {
	t.Helper()
	is(t, what, err, archive.ErrCorrupt)
	var fault *archive.Fault
	if !errors.As(err, &fault) || fault == nil {
		t.Errorf("%s: %v is no Fault", what, err)
		return
	}
	if fault.At != at {
		t.Errorf("%s: damage at %d, want %d", what, fault.At, at)
	}
}

// damaged: Read, or List, of a path of a snapshot tells damage at a sector, and nothing else.
func damaged(t *testing.T, a *archive.Archive, n int, path string, at int) {
	t.Helper()
	data, err := a.Read(n, path)
	corrupt(t, fmt.Sprintf("P11: Read(%d, %q)", n, path), err, at)
	if data != "" {
		t.Errorf("P1: Read(%d, %q) tells %q beside an error", n, path, data)
	}
}

func damagedList(t *testing.T, a *archive.Archive, n int, path string, at int) {
	t.Helper()
	list, err := told(t, a, n, path)
	corrupt(t, fmt.Sprintf("P11: List(%d, %q)", n, path), err, at)
	if len(list) > 0 {
		t.Errorf("P11: List(%d, %q) tells %v beside an error", n, path, list)
	}
}

// turn turns a bit of a byte of a disk.
func turn(t *testing.T, d *archive.Disk, at, place int) {
	t.Helper()
	data, err := d.Read(at)
	is(t, "P4: Read", err, nil)
	list := []byte(data)
	list[place] ^= 1 << (place % 8)
	is(t, "P4: Write", d.Write(at, string(list)), nil)
}

func TestExample10(t *testing.T) {
	a, d := opened(t, 30)
	is(t, "P6: Write", a.Write("f", full96), nil)
	is(t, "P6: Write", a.Write("g", "yy"), nil)
	snaps(t, a, "", 1, nil)
	is(t, "P6: Write", a.Write("h", "z"), nil)
	snaps(t, a, "", 2, nil)
	turn(t, d, 4, 12) // the chunk of g
	damaged(t, a, 1, "g", 4)
	damaged(t, a, 2, "g", 4)
	corrupt(t, "P12: Verify", a.Verify(), 4)
	reads(t, a, 1, "f", full96, nil)
	reads(t, a, 2, "h", "z", nil)
	reads(t, a, 0, "g", "yy", nil)
	lists(t, a, 1, "", []archive.Entry{{Name: "f", Size: 96}, {Name: "g", Size: 2}}, nil)
	b := again(t, d)
	infos(t, b)
	shows(t, "P9: Mount ends ahead of the damage", d, of(30, rec{chunk, full96}, rec{file, fileOf(96, full96)})...)
	is(t, "P12: Verify", b.Verify(), nil)
}

// deepArchive: its records begin at 1 and 3 (the chunks of d/e/f), 4 (that file), 6 (d/e), 7 (the file d/n), 8 (d), 10 (the chunk of g), 11 (that file), 12 (the root), 14 (the snapshot).
func deepArchive(t *testing.T) (*archive.Archive, *archive.Disk) {
	t.Helper()
	a, d := opened(t, 30)
	is(t, "P6: Mkdir", a.Mkdir("d"), nil)
	is(t, "P6: Mkdir", a.Mkdir("d/e"), nil)
	is(t, "P6: Write", a.Write("d/e/f", full96+one), nil)
	is(t, "P6: Write", a.Write("d/n", ""), nil)
	is(t, "P6: Write", a.Write("g", "g"), nil)
	snaps(t, a, "", 1, nil)
	x, e := fileOf(97, full96, one), entry(1, "f", fileOf(97, full96, one))
	in := entry(2, "e", e) + entry(1, "n", nothing)
	root := entry(2, "d", in) + entry(1, "g", fileOf(1, "g"))
	l := newLayer(30)
	for i, r := range []rec{{chunk, full96}, {chunk, one}, {file, x}, {dir, e}, {file, nothing}, {dir, in}, {chunk, "g"}, {file, fileOf(1, "g")}, {dir, root}, {snap, snapOf(1, root, "")}} {
		if at := l.add(r.kind, r.text); at != []int{1, 3, 4, 6, 7, 8, 10, 11, 12, 14}[i] {
			t.Fatal("record", i, "stands at", at)
		}
	}
	shows(t, "P10: Snapshot", d, l.image(30)...)
	return a, d
}

// TestWhatIsNeededIsRead: one record is damaged; what needs it is ErrCorrupt, all else is as ever.
func TestWhatIsNeededIsRead(t *testing.T) {
	rootList := []archive.Entry{{Name: "d", Dir: true}, {Name: "g", Size: 1}}
	dList := []archive.Entry{{Name: "e", Dir: true}, {Name: "n"}}
	eList := []archive.Entry{{Name: "f", Size: 97}}
	for _, c := range []struct {
		at, sector  int
		reads       string // of which paths Read needs it
		listsOf     string // of which paths List does
		readsOfNone string // of which paths that are not there, or are of the other kind, both do
	}{
		{1, 1, "d/e/f", "", ""},
		{1, 2, "d/e/f", "", ""},
		{3, 3, "d/e/f", "", ""},
		{4, 4, "d/e/f", "d/e", ""},
		{4, 5, "d/e/f", "d/e", ""},
		{6, 6, "d/e/f", "d/e", "d/e/x d/e/f/x d/e/x/y"},
		{7, 7, "d/n", "d", ""},
		{8, 8, "d/e/f d/n", "d d/e", "d/x d/e/x d/e/f/x d/e/x/y d/n/x"},
		{8, 9, "d/e/f d/n", "d d/e", "d/x d/e/x d/e/f/x d/e/x/y d/n/x"},
		{10, 10, "g", "", ""},
		{11, 11, "g", "-", ""},
		{12, 12, "d/e/f d/n g", "- d d/e", "x d/x d/e/x d/e/f/x d/e/x/y d/n/x x/y g/x"},
		{12, 13, "d/e/f d/n g", "- d d/e", "x d/x d/e/x d/e/f/x d/e/x/y d/n/x x/y g/x"},
		{14, 14, "", "", ""},
	} {
		a, d := deepArchive(t)
		turn(t, d, c.sector, 11)
		within := func(list, path string) bool { return slices.Contains(strings.Fields(list), path) }
		for path, data := range map[string]string{"d/e/f": full96 + one, "d/n": "", "g": "g"} {
			if within(c.reads, path) {
				damaged(t, a, 1, path, c.at)
			} else {
				reads(t, a, 1, path, data, nil)
			}
			reads(t, a, 0, path, data, nil)
		}
		for path, list := range map[string][]archive.Entry{"-": rootList, "d": dList, "d/e": eList} {
			if within(c.listsOf, path) {
				damagedList(t, a, 1, strings.Trim(path, "-"), c.at)
			} else {
				lists(t, a, 1, strings.Trim(path, "-"), list, nil)
			}
			lists(t, a, 0, strings.Trim(path, "-"), list, nil)
		}
		for path, why := range map[string]error{"x": archive.ErrNone, "d/x": archive.ErrNone, "d/e/x": archive.ErrNone, "x/y": archive.ErrNone, "d/e/x/y": archive.ErrNone, "d/e/f/x": archive.ErrKind, "g/x": archive.ErrKind, "d/n/x": archive.ErrKind} {
			if within(c.readsOfNone, path) {
				damaged(t, a, 1, path, c.at)
				damagedList(t, a, 1, path, c.at)
			} else {
				reads(t, a, 1, path, "", why)
				lists(t, a, 1, path, nil, why)
			}
		}
		reads(t, a, 1, "A", "", archive.ErrPath)
		reads(t, a, 2, "g", "", archive.ErrNone)
		reads(t, a, 1, "", "", archive.ErrKind) // of the root not even its text is needed
		if c.at == 14 {
			is(t, "P12: Verify of a damaged snapshot's record", a.Verify(), nil)
		} else {
			corrupt(t, "P12: Verify", a.Verify(), c.at)
		}
	}
}

// TestKindsAreToldByTheDirectoryAbove: what stands at a path's end is not read if it is of the other kind.
func TestKindsAreToldByTheDirectoryAbove(t *testing.T) {
	a, d := deepArchive(t)
	turn(t, d, 6, 13)
	turn(t, d, 11, 13)
	reads(t, a, 1, "d/e", "", archive.ErrKind)
	lists(t, a, 1, "g", nil, archive.ErrKind)
	turn(t, d, 8, 13)
	reads(t, a, 1, "d", "", archive.ErrKind)
	damaged(t, a, 1, "d/e", 8)
}

// TestTheFirstDamageIsTold: of several, in the order in which they are needed; Verify: in that of the disk.
func TestTheFirstDamageIsTold(t *testing.T) {
	a, d := deepArchive(t)
	for _, c := range []struct{ sector, read, list, verify int }{
		{3, 3, 0, 3}, {2, 1, 0, 1}, {5, 4, 4, 1}, {6, 6, 6, 1}, {9, 8, 8, 1}, {13, 12, 12, 1},
	} {
		turn(t, d, c.sector, 11)
		damaged(t, a, 1, "d/e/f", c.read)
		if c.list > 0 {
			damagedList(t, a, 1, "d/e", c.list)
		}
		corrupt(t, "P12: Verify", a.Verify(), c.verify)
	}
	for _, sector := range []int{2, 3, 5, 6, 9} { // what is mended is as it was
		corrupt(t, "P12: Verify", a.Verify(), map[int]int{2: 1, 3: 3, 5: 4, 6: 6, 9: 8}[sector])
		turn(t, d, sector, 11)
	}
	corrupt(t, "P12: Verify", a.Verify(), 12)
	turn(t, d, 13, 11)
	is(t, "P12: Verify", a.Verify(), nil)
	reads(t, a, 1, "d/e/f", full96+one, nil)
}

// TestFilesAreReadInOrder: List tells the first damaged file of a directory; a damaged chunk, or directory in it, is not read.
func TestFilesAreReadInOrder(t *testing.T) {
	a, d := opened(t, 60)
	for _, name := range []string{"c", "a", "d", "b"} {
		is(t, "P6: Write", a.Write(name, name), nil)
	}
	is(t, "P6: Mkdir", a.Mkdir("aa"), nil)
	snaps(t, a, "", 1, nil) // chunks and files from sector 1 on: a, a, aa, b, b, c, c, d, d
	for _, sector := range []int{1, 3, 4, 6, 8} {
		turn(t, d, sector, 11)
	}
	want := []archive.Entry{{Name: "a", Size: 1}, {Name: "aa", Dir: true}, {Name: "b", Size: 1}, {Name: "c", Size: 1}, {Name: "d", Size: 1}}
	turn(t, d, 3, 11) // an empty directory's: there is no text to damage
	lists(t, a, 1, "", want, nil)
	turn(t, d, 9, 14)
	damagedList(t, a, 1, "", 9)
	turn(t, d, 5, 14)
	damagedList(t, a, 1, "", 5)
	turn(t, d, 7, 14)
	damagedList(t, a, 1, "", 5)
	turn(t, d, 2, 14)
	damagedList(t, a, 1, "", 2)
	for _, more := range []bool{true, false} {
		times := 0
		a.List(1, "")(func(archive.Entry, error) bool { times++; return more })
		if times != 1 {
			t.Errorf("P11: damage is told %d times", times)
		}
	}
	a.List(1, "")(nil)
}

// TestOnlyTextsHaveSums: what is ahead of a text, or behind it, is no part of it.
func TestOnlyTextsHaveSums(t *testing.T) {
	a, d := deepArchive(t)
	for _, at := range []int{1, 3, 4, 6, 7, 8, 10, 11, 12, 14} {
		for place := range 11 {
			turn(t, d, at, place)
		}
	}
	for sector, end := range map[int]int{2: 43, 3: 12, 5: 15, 6: 46, 7: 15, 9: 17, 10: 12, 11: 47, 13: 17} {
		for place := end; place < 64; place++ {
			turn(t, d, sector, place)
		}
	}
	is(t, "P12: Verify", a.Verify(), nil)
	reads(t, a, 1, "d/e/f", full96+one, nil)
	lists(t, a, 1, "d", []archive.Entry{{Name: "e", Dir: true}, {Name: "n"}}, nil)
	for sector, end := range map[int]int{2: 43, 3: 12, 5: 15, 6: 46, 7: 15, 9: 17, 10: 12, 11: 47, 13: 17} {
		turn(t, d, sector, end-1)
		corrupt(t, "P12: Verify", a.Verify(), sector-map[int]int{2: 1, 5: 1, 9: 1, 13: 1}[sector])
		turn(t, d, sector, end-1)
	}
	infos(t, again(t, d))
}

// TestTheFirstOfSeveralIsMeant: objects that stand there twice, as Snapshot never writes them.
func TestTheFirstOfSeveralIsMeant(t *testing.T) {
	list := []rec{{chunk, one}, {chunk, one}, {file, little}, {file, little}, {dir, inner}, {dir, inner}, {snap, snapOf(1, inner, "")}}
	a, d := mounted(t, list...)
	shows(t, "P9: Mount", d, of(100, list...)...)
	reads(t, a, 0, "f", one, nil)
	for _, sector := range []int{2, 4, 6} {
		turn(t, d, sector, 11)
	}
	is(t, "P12: Verify of what is not meant", a.Verify(), nil)
	reads(t, a, 1, "f", one, nil)
	lists(t, a, 1, "", []archive.Entry{{Name: "f", Size: 1}}, nil)
	for i, sector := range []int{1, 3, 5} {
		turn(t, d, sector, 11)
		corrupt(t, "P12: Verify", a.Verify(), 1)
		damaged(t, a, 1, "f", sector)
		if i == 0 {
			lists(t, a, 1, "", []archive.Entry{{Name: "f", Size: 1}}, nil)
		} else {
			damagedList(t, a, 1, "", sector)
		}
	}
	d.Crash()
	is(t, "P12: Verify behind a crash", a.Verify(), nil)
}

// TestVerifyOfWhatNoSnapshotHas: what was read counts, and be it of no snapshot.
func TestVerifyOfWhatNoSnapshotHas(t *testing.T) {
	a, d := mounted(t, rec{dir, ""}, rec{snap, snapOf(1, "", "")}, rec{chunk, one}, rec{file, little})
	is(t, "P12: Verify", a.Verify(), nil)
	turn(t, d, 4, 11)
	corrupt(t, "P12: Verify", a.Verify(), 4)
	turn(t, d, 3, 11)
	corrupt(t, "P12: Verify", a.Verify(), 3)
	lists(t, a, 1, "", nil, nil)
	turn(t, d, 3, 11)
	turn(t, d, 4, 11)
	is(t, "P12: Verify", a.Verify(), nil)
}

// TestDamagedObjectsAreNotWrittenAgain: P10 asks for kind and Sum alone.
func TestDamagedObjectsAreNotWrittenAgain(t *testing.T) {
	a, d := opened(t, 30)
	is(t, "P6: Write", a.Write("f", one), nil)
	snaps(t, a, "", 1, nil)
	turn(t, d, 1, 11)
	snaps(t, a, "", 2, nil)
	damaged(t, a, 2, "f", 1)
	turn(t, d, 1, 11)
	shows(t, "P10: Snapshot", d, of(30, rec{chunk, one}, rec{file, little}, rec{dir, inner}, rec{snap, snapOf(1, inner, "")}, rec{snap, snapOf(2, inner, "")})...)
	reads(t, a, 2, "f", one, nil)
}

// TestADiskThatIsWrittenOver: all is damage then, but nothing ends badly.
func TestADiskThatIsWrittenOver(t *testing.T) {
	for _, data := range []string{empty, full("\xff"), full("z"), first("archive1", 30)} {
		a, d := deepArchive(t)
		for at := range 30 {
			is(t, "P4: Write", d.Write(at, data), nil)
		}
		damaged(t, a, 1, "d/e/f", 12)
		damagedList(t, a, 1, "", 12)
		corrupt(t, "P12: Verify", a.Verify(), 1)
		infos(t, a, archive.Info{Number: 1, Root: a.Snapshots()[0].Root})
		snaps(t, a, "", 2, nil)
		reads(t, a, 0, "g", "g", nil)
	}
}

func TestReadingNeedsNoDiskThatIsUp(t *testing.T) {
	a, d := deepArchive(t)
	d.Fuse(1)
	is(t, "P4: Flush", d.Flush(), archive.ErrDown)
	reads(t, a, 1, "d/e/f", full96+one, nil)
	lists(t, a, 1, "d/e", []archive.Entry{{Name: "f", Size: 97}}, nil)
	is(t, "P12: Verify", a.Verify(), nil)
	snaps(t, a, "", 0, archive.ErrDown)
	d.Crash()
	snaps(t, a, "", 0, archive.ErrDown)
	b := again(t, d)
	snaps(t, b, "", 2, nil)
}

// TestListOfASnapshot: gone over twice, ended early, while the tree and the archive change.
func TestListOfASnapshot(t *testing.T) {
	a, d := opened(t, 200)
	for _, r := range letters {
		is(t, "P6: Write", a.Write(string(r), strings.Repeat("x", int(r-'a'))), nil)
	}
	snaps(t, a, "", 1, nil)
	list := a.List(1, "")
	for most := 1; most <= 17; most++ {
		told := ""
		list(func(entry archive.Entry, err error) bool {
			is(t, "P11: List", err, nil)
			if entry.Dir || entry.Size != len(told) {
				t.Errorf("P11: List tells %v", entry)
			}
			told += entry.Name
			return len(told) != most
		})
		if want := letters[:min(most, 16)]; told != want {
			t.Errorf("P11: of %d wanted List tells %q, want %q", most, told, want)
		}
	}
	seen := ""
	for entry, err := range list {
		is(t, "P11: List", err, nil)
		is(t, "P6: Remove", a.Remove(entry.Name), nil)
		snaps(t, a, entry.Name, len(seen)+2, nil)
		seen += entry.Name
	}
	if seen != letters {
		t.Errorf("P11: List tells %q, want %q", seen, letters)
	}
	lists(t, a, 17, "", nil, nil)
	lists(t, again(t, d), 16, "", []archive.Entry{{Name: "p", Size: 15}}, nil)
}

// needed tells, in order, what Read of a file or List of a directory of a snapshot needs (P11).
func (p paths) needed(path string) []rec {
	var list []rec
	last := func(path string) rec { all := p.texts(path); return all[len(all)-1] }
	list = append(list, last(""))
	for i, r := range path + "/" {
		if r == '/' && i > 0 {
			list = append(list, last(path[:i]))
		}
	}
	if data, ok := p.there[path]; ok && data != "/" {
		all := p.texts(path)
		return append(list, all[:len(all)-1]...)
	}
	dir := path + "/"
	if path == "" {
		dir = ""
	}
	for _, e := range p.entries(dir) {
		if !e.Dir {
			list = append(list, last(dir+e.Name))
		}
	}
	return list
}

// TestDamageIsAsItsModel: some texts are damaged; what is told of it, of every file and directory of every snapshot.
func TestDamageIsAsItsModel(t *testing.T) {
	r := rand.New(rand.NewSource(12))
	for round := range 40 {
		a, d := opened(t, 600)
		k := newKeeper(600)
		for range 3 {
			for range 20 {
				change(t, r, a, k.tree)
			}
			is(t, "P10: Snapshot", k.keep(""), nil)
			snaps(t, a, "", len(k.kept), nil)
		}
		if round%2 == 0 {
			a = again(t, d)
		}
		hurt := map[rec]bool{}
		first := 600
		for object, at := range k.there {
			if object.text == "" || r.Intn(8) > 0 {
				continue
			}
			place := 11 + r.Intn(len(object.text))
			turn(t, d, at+place/64, place%64)
			hurt[object] = true
			first = min(first, at)
		}
		if len(hurt) == 0 {
			is(t, "P12: Verify", a.Verify(), nil)
		} else {
			corrupt(t, "P12: Verify", a.Verify(), first)
		}
		for i, p := range k.kept {
			holdsDamaged(t, a, i+1, p, "", "/", k, hurt)
			for path, data := range p.there {
				holdsDamaged(t, a, i+1, p, path, data, k, hurt)
			}
		}
		if t.Failed() {
			t.Fatal("in round", round)
		}
	}
}

func holdsDamaged(t *testing.T, a *archive.Archive, n int, p paths, path, data string, k *keeper, hurt map[rec]bool) {
	t.Helper()
	needed := p.needed(path)
	i := slices.IndexFunc(needed, func(r rec) bool { return hurt[r] })
	switch {
	case i >= 0 && data == "/":
		damagedList(t, a, n, path, k.there[needed[i]])
	case i >= 0:
		damaged(t, a, n, path, k.there[needed[i]])
	case data != "/":
		reads(t, a, n, path, data, nil)
	case path == "":
		lists(t, a, n, "", p.entries(""), nil)
	default:
		lists(t, a, n, path, p.entries(path+"/"), nil)
	}
}
