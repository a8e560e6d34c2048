package archive_test

import (
	"fmt"
	"maps"
	"math"
	"math/rand"
	"slices"
	"strings"
	"testing"

	"stow/archive"
)

// opened is a new archive, and its disk.
func opened(t *testing.T, sectors int) (*archive.Archive, *archive.Disk) {
	t.Helper()
	d := archive.NewDisk(sectors)
	is(t, "P8: Format", archive.Format(d), nil)
	return again(t, d), d
}

// again mounts a disk once more.
func again(t *testing.T, d *archive.Disk) *archive.Archive {
	t.Helper()
	a, err := archive.Mount(d)
	is(t, "P9: Mount", err, nil)
	if a == nil {
		t.FailNow()
	}
	return a
}

// snaps: a snapshot is taken, and has that number; or it is refused.
func snaps(t *testing.T, a *archive.Archive, label string, number int, want error) {
	t.Helper()
	got, err := a.Snapshot(label)
	is(t, fmt.Sprintf("P10: Snapshot(%q)", label), err, want)
	if got != number {
		t.Errorf("P10: Snapshot(%q) tells %d, want %d", label, got, number)
	}
}

func infos(t *testing.T, a *archive.Archive, want ...archive.Info) {
	t.Helper()
	if got := a.Snapshots(); !slices.Equal(got, want) {
		t.Errorf("P10: Snapshots: %v, want %v", got, want)
	}
}

// of lays out these records, on a disk of so many sectors.
func of(sectors int, list ...rec) []string {
	l := newLayer(sectors)
	for _, r := range list {
		l.add(r.kind, r.text)
	}
	return l.image(sectors)
}

func TestExample6(t *testing.T) {
	a, d := opened(t, 5)
	snaps(t, a, "x", 1, nil)
	list := []rec{{dir, ""}, {snap, snapOf(1, "", "x")}}
	shows(t, "P10: a snapshot of an empty tree", d, of(5, list...)...)
	waits(t, d, 0)
	snaps(t, a, "x", 2, nil)
	list = append(list, rec{snap, snapOf(2, "", "x")})
	shows(t, "P10: once more", d, of(5, list...)...)
	infos(t, a, archive.Info{Number: 1, Label: "x", Root: sum("")}, archive.Info{Number: 2, Label: "x", Root: sum("")})
	waits(t, d, 0)
	infos(t, again(t, d), a.Snapshots()...)
}

func TestExample7(t *testing.T) {
	a, d := opened(t, 30)
	is(t, "P6: Write", a.Write("a", full96), nil)
	is(t, "P6: Write", a.Write("b", full96+one), nil)
	snaps(t, a, "", 1, nil)
	x, y := fileOf(96, full96), fileOf(97, full96, one)
	root := entry(1, "a", x) + entry(1, "b", y)
	shows(t, "P10: a chunk of two files", d, of(30, rec{chunk, full96}, rec{file, x}, rec{chunk, one}, rec{file, y}, rec{dir, root}, rec{snap, snapOf(1, root, "")})...)
}

func TestExample8(t *testing.T) {
	a, d := opened(t, 4)
	is(t, "P6: Write", a.Write("f", "x"), nil)
	d.Fuse(1)
	snaps(t, a, "", 0, archive.ErrFull)
	infos(t, a)
	shows(t, "P10: behind ErrFull", d, of(4)...)
	is(t, "P10: ErrFull comes ahead of every operation", d.Flush(), archive.ErrDown)
	snaps(t, a, "", 0, archive.ErrFull)
	d.Crash()
	is(t, "P6: Remove", a.Remove("f"), nil)
	snaps(t, a, "", 1, nil)
	snaps(t, a, "", 2, nil)
	snaps(t, a, "", 0, archive.ErrFull)
	infos(t, a, archive.Info{Number: 1, Root: sum("")}, archive.Info{Number: 2, Root: sum("")})
	shows(t, "P10: a full disk", d, of(4, rec{dir, ""}, rec{snap, snapOf(1, "", "")}, rec{snap, snapOf(2, "", "")})...)
}

func TestTheOrderOfRecords(t *testing.T) {
	a, d := opened(t, 60)
	for _, path := range []string{"m", "m/z", "e"} {
		is(t, "P6: Mkdir", a.Mkdir(path), nil)
	}
	for path, data := range map[string]string{"m/z/f": "one", "m/a": strings.Repeat("a", 96) + strings.Repeat("b", 96) + "c", "z": "", "a": "two"} {
		is(t, "P6: Write", a.Write(path, data), nil)
	}
	snaps(t, a, "label", 1, nil)
	as, bs := strings.Repeat("a", 96), strings.Repeat("b", 96)
	z := entry(1, "f", fileOf(3, "one"))
	m := entry(1, "a", fileOf(193, as, bs, "c")) + entry(2, "z", z)
	root := entry(1, "a", fileOf(3, "two")) + entry(2, "e", "") + entry(2, "m", m) + entry(1, "z", fileOf(0))
	shows(t, "P10: the records of a tree", d, of(60, rec{chunk, "two"}, rec{file, fileOf(3, "two")}, rec{dir, ""},
		rec{chunk, as}, rec{chunk, bs}, rec{chunk, "c"}, rec{file, fileOf(193, as, bs, "c")}, rec{chunk, "one"}, rec{file, fileOf(3, "one")},
		rec{dir, z}, rec{dir, m}, rec{file, fileOf(0)}, rec{dir, root}, rec{snap, snapOf(1, root, "label")})...)
}

// TestOfEachKindAnObjectOfItsOwn: a chunk, a file and a directory that say the same bytes are all written.
func TestOfEachKindAnObjectOfItsOwn(t *testing.T) {
	a, d := opened(t, 30)
	is(t, "P6: Write", a.Write("a", fileOf(0)), nil)
	is(t, "P6: Write", a.Write("b", ""), nil)
	snaps(t, a, "", 1, nil)
	x := fileOf(4, fileOf(0))
	root := entry(1, "a", x) + entry(1, "b", fileOf(0))
	list := []rec{{chunk, fileOf(0)}, {file, x}, {file, fileOf(0)}, {dir, root}, {snap, snapOf(1, root, "")}}
	shows(t, "P7: a chunk that says what a file says", d, of(30, list...)...)

	is(t, "P6: Remove", a.Remove("b"), nil)
	is(t, "P6: Write", a.Write("a", entry(1, "f", "")), nil) // no file has that Sum: it is bytes alone
	is(t, "P6: Write", a.Write("b", root[:35]), nil)
	is(t, "P6: Write", a.Write("c", x), nil)
	snaps(t, a, "", 2, nil)
	b := again(t, d)
	reads(t, b, 2, "a", entry(1, "f", ""), nil)
	reads(t, b, 2, "b", root[:35], nil)
	reads(t, b, 2, "c", x, nil)
	reads(t, b, 1, "a", fileOf(0), nil)
	is(t, "P12: Verify", b.Verify(), nil)
}

func TestLabels(t *testing.T) {
	a, d := opened(t, 30)
	label := strings.Repeat("l", 20)
	d.Fuse(1)
	for _, wrong := range []string{label + "l", strings.Repeat("é", 11), strings.Repeat("x", 100000)} {
		snaps(t, a, wrong, 0, archive.ErrBig)
	}
	is(t, "P10: ErrBig comes ahead of every operation", d.Flush(), archive.ErrDown)
	d.Crash()
	shows(t, "P10: behind ErrBig", d, of(30)...)
	list := []rec{{dir, ""}}
	var want []archive.Info
	for i, right := range []string{label, "", "\x00", strings.Repeat("é", 10), "\xff/ \n"} {
		snaps(t, a, right, i+1, nil)
		list = append(list, rec{snap, snapOf(i+1, "", right)})
		want = append(want, archive.Info{Number: i + 1, Label: right, Root: sum("")})
	}
	shows(t, "P10: labels", d, of(30, list...)...)
	infos(t, a, want...)
	infos(t, again(t, d), want...)
}

func TestErrBigAheadOfErrFull(t *testing.T) {
	a, d := opened(t, 4)
	is(t, "P6: Write", a.Write("f", "x"), nil)
	snaps(t, a, strings.Repeat("l", 21), 0, archive.ErrBig)
	snaps(t, a, strings.Repeat("l", 20), 0, archive.ErrFull)
	shows(t, "P10: behind errors", d, of(4)...)
}

// TestNothingFitsButWhatFits: disks with too little room, just enough, and more than that.
func TestNothingFitsButWhatFits(t *testing.T) {
	for sectors := 4; sectors <= 13; sectors++ {
		a, d := opened(t, sectors)
		is(t, "P6: Write", a.Write("f", full96+full96+one), nil)
		is(t, "P6: Mkdir", a.Mkdir("d"), nil)
		x := fileOf(193, full96, full96, one)
		root := entry(2, "d", "") + entry(1, "f", x)
		list := []rec{{dir, ""}, {chunk, full96}, {chunk, one}, {file, x}, {dir, root}, {snap, snapOf(1, root, "l")}} // 1, 2, 1, 2, 2, 1
		if sectors < 10 {
			snaps(t, a, "l", 0, archive.ErrFull)
			shows(t, "P10: behind ErrFull", d, of(sectors)...)
			waits(t, d, 0)
			lists(t, a, 0, "", []archive.Entry{{Name: "d", Dir: true}, {Name: "f", Size: 193}}, nil)
			reads(t, a, 1, "f", "", archive.ErrNone)
			is(t, "P12: Verify", a.Verify(), nil)
			continue
		}
		snaps(t, a, "l", 1, nil)
		shows(t, "P10: a snapshot that fits", d, of(sectors, list...)...)
		if sectors == 10 {
			snaps(t, a, "", 0, archive.ErrFull)
			continue
		}
		snaps(t, a, strings.Repeat("l", 18), map[bool]int{true: 2}[sectors > 11], map[bool]error{true: archive.ErrFull}[sectors == 11]) // its record has two sectors
	}
}

func TestErrFullLeavesNothingBehind(t *testing.T) {
	a, d := opened(t, 7)
	is(t, "P6: Write", a.Write("f", full96+one), nil)
	snaps(t, a, "", 0, archive.ErrFull)
	is(t, "P6: Write", a.Write("f", one), nil) // its chunk was to be written, but was not
	snaps(t, a, "", 1, nil)
	shows(t, "P10: behind ErrFull", d, of(7, rec{chunk, one}, rec{file, little}, rec{dir, inner}, rec{snap, snapOf(1, inner, "")})...)
}

// TestWhatMountReadIsNotWrittenAgain: nor is what no snapshot has.
func TestWhatMountReadIsNotWrittenAgain(t *testing.T) {
	list := []rec{{chunk, one}, {file, little}, {dir, inner}, {dir, ""}}
	a, d := mounted(t, list...)
	infos(t, a)
	lists(t, a, 0, "", nil, nil)
	is(t, "P6: Write", a.Write("f", one), nil)
	is(t, "P6: Mkdir", a.Mkdir("d"), nil)
	d.Fuse(6) // two writes, Flush, one write, Flush
	snaps(t, a, "", 1, nil)
	is(t, "P10: the sixth operation", d.Flush(), archive.ErrDown)
	d.Crash()
	root := entry(2, "d", "") + inner
	list = append(list, rec{dir, root}, rec{snap, snapOf(1, root, "")})
	shows(t, "P10: what was read is not written again", d, of(100, list...)...)

	b := again(t, d)
	lists(t, b, 0, "", []archive.Entry{{Name: "d", Dir: true}, {Name: "f", Size: 1}}, nil)
	is(t, "P6: Remove", b.Remove("d"), nil)
	d.Fuse(3) // one write, Flush: nothing else is to be written
	snaps(t, b, "", 2, nil)
	is(t, "P10: the third operation", d.Flush(), archive.ErrDown)
	d.Crash()
	shows(t, "P10: a directory that was read is not written again", d, of(100, append(list, rec{snap, snapOf(2, inner, "")})...)...)
}

func TestSnapshotsAreTheCallers(t *testing.T) {
	a, _ := opened(t, 20)
	if list := a.Snapshots(); len(list) != 0 {
		t.Errorf("P10: snapshots of a new archive: %v", list)
	}
	for i := range 5 {
		snaps(t, a, fmt.Sprint(i), i+1, nil)
	}
	want := slices.Clone(a.Snapshots())
	list := a.Snapshots()
	list = append(list, archive.Info{Number: 99})
	for i := range list[:cap(list)] {
		list[:cap(list)][i] = archive.Info{Label: "mine"}
	}
	infos(t, a, want...)
	snaps(t, a, "more", 6, nil)
	if got := a.Snapshots(); !slices.Equal(got[:5], want) || got[5].Label != "more" {
		t.Errorf("P2: Snapshots: %v", got)
	}
}

func TestDisksAndArchivesAreApart(t *testing.T) {
	a, d := opened(t, 20)
	b, e := opened(t, 20)
	is(t, "P6: Write", a.Write("f", one), nil)
	snaps(t, a, "a", 1, nil)
	infos(t, b)
	shows(t, "P2: another disk", e, of(20)...)
	snaps(t, b, "b", 1, nil)
	lists(t, b, 1, "", nil, nil)
	lists(t, a, 1, "", []archive.Entry{{Name: "f", Size: 1}}, nil)
	c := again(t, d)
	is(t, "P6: Remove", c.Remove("f"), nil)
	lists(t, a, 0, "", []archive.Entry{{Name: "f", Size: 1}}, nil)
	lists(t, c, 1, "", []archive.Entry{{Name: "f", Size: 1}}, nil)
}

func TestTheTreeGoesOnBehindASnapshot(t *testing.T) {
	a, d := opened(t, 60)
	is(t, "P6: Mkdir", a.Mkdir("d"), nil)
	is(t, "P6: Write", a.Write("d/f", "old"), nil)
	snaps(t, a, "", 1, nil)
	is(t, "P6: Write", a.Write("d/f", "new"), nil)
	is(t, "P6: Write", a.Write("d/g", "more"), nil)
	for _, b := range []*archive.Archive{a, again(t, d)} {
		reads(t, b, 1, "d/f", "old", nil)
		reads(t, b, 1, "d/g", "", archive.ErrNone)
		lists(t, b, 1, "d", []archive.Entry{{Name: "f", Size: 3}}, nil)
	}
	reads(t, a, 0, "d/f", "new", nil)
	snaps(t, a, "", 2, nil)
	is(t, "P6: Remove", a.Remove("d/f"), nil)
	is(t, "P6: Remove", a.Remove("d/g"), nil)
	is(t, "P6: Remove", a.Remove("d"), nil)
	b := again(t, d)
	reads(t, b, 0, "d/f", "new", nil)
	is(t, "P6: a tree that was read can be written to", b.Write("d/f", "newest"), nil)
	reads(t, b, 0, "d/f", "newest", nil)
	reads(t, b, 2, "d/f", "new", nil)
	reads(t, b, 1, "d/f", "old", nil)
}

// TestTheGreatestTree: as many names as may be, as deep, kept and read again; the tree has its bounds then, too.
func TestTheGreatestTree(t *testing.T) {
	a, d := opened(t, 4096)
	deep := "a"
	for range 6 {
		is(t, "P6: Mkdir", a.Mkdir(deep), nil)
		deep += "/a"
	}
	for _, r := range letters {
		is(t, "P6: Write", a.Write("a/a/a/a/a/a/"+string(r), string(r)), nil)
	}
	is(t, "P6: Remove", a.Remove("a/a/a/a/a/a/a"), nil)
	is(t, "P6: Mkdir", a.Mkdir("a/a/a/a/a/a/a"), nil)
	is(t, "P6: Write", a.Write("a/a/a/a/a/a/a/a", strings.Repeat("q", 1536)), nil)
	left := 256 - 6 - 16 - 1
	for i := 1; left > 0; i++ {
		top := string(letters[i])
		is(t, "P6: Mkdir", a.Mkdir(top), nil)
		left--
		for j := 0; j < 16 && left > 0; j++ {
			is(t, "P6: Write", a.Write(top+"/"+strings.Repeat(string(letters[j]), 16), top), nil)
			left--
		}
	}
	snaps(t, a, "all", 1, nil)
	b := again(t, d)
	infos(t, b, a.Snapshots()...)
	for _, x := range []*archive.Archive{a, b} {
		for n := range 2 {
			reads(t, x, n, "a/a/a/a/a/a/a/a", strings.Repeat("q", 1536), nil)
			reads(t, x, n, "b/"+strings.Repeat("p", 16), "b", nil)
			reads(t, x, n, "a/a/a/a/a/a/p", "p", nil)
		}
		is(t, "P6: Write of one of 257", x.Write("p", ""), archive.ErrMany)
	}
	is(t, "P6: Remove", b.Remove("a/a/a/a/a/a/p"), nil)
	is(t, "P6: Write of one of 256", b.Write("p", ""), nil)
	snaps(t, b, "more", 2, nil)
	is(t, "P12: Verify", b.Verify(), nil)
}

// keeper is an archive as P7 and P10 word it.
type keeper struct {
	*layer
	sectors int
	there   map[rec]int // where each object stands
	tree    paths
	kept    []paths
	infos   []archive.Info
}

func newKeeper(sectors int) *keeper {
	return &keeper{layer: newLayer(sectors), sectors: sectors, there: map[rec]int{}, tree: paths{map[string]string{}}}
}

// texts tells all objects of a file or directory, those below it first.
func (p paths) texts(path string) []rec {
	data, ok := p.there[path]
	if ok && data != "/" {
		var list []rec
		var chunks []string
		for rest := data; rest != ""; rest = rest[min(96, len(rest)):] {
			chunks = append(chunks, rest[:min(96, len(rest))])
			list = append(list, rec{chunk, chunks[len(chunks)-1]})
		}
		return append(list, rec{file, fileOf(len(data), chunks...)})
	}
	if path != "" {
		path += "/"
	}
	var list []rec
	text := ""
	for _, e := range p.entries(path) {
		below := p.texts(path + e.Name)
		list = append(list, below...)
		last := below[len(below)-1]
		text += entry(last.kind-1, e.Name, last.text)
	}
	return append(list, rec{dir, text})
}

func (k *keeper) keep(label string) error {
	old := *k.layer
	added := map[rec]int{}
	list := k.tree.texts("")
	for _, r := range list {
		if _, ok := k.there[r]; ok {
			continue
		}
		if _, ok := added[r]; !ok {
			added[r] = k.add(r.kind, r.text)
		}
	}
	root := list[len(list)-1].text
	k.add(snap, snapOf(len(k.kept)+1, root, label))
	if len(k.layer.sectors) > k.sectors {
		*k.layer = old
		return archive.ErrFull
	}
	maps.Copy(k.there, added)
	k.kept = append(k.kept, paths{maps.Clone(k.tree.there)})
	k.infos = append(k.infos, archive.Info{Number: len(k.kept), Label: label, Root: sum(root)})
	return nil
}

// holdsTree: an archive's tree or snapshot is as a model has it.
func holdsTree(t *testing.T, a *archive.Archive, n int, p paths) {
	t.Helper()
	lists(t, a, n, "", p.entries(""), nil)
	reads(t, a, n, "", "", archive.ErrKind)
	for path, data := range p.there {
		if data == "/" {
			lists(t, a, n, path, p.entries(path+"/"), nil)
			reads(t, a, n, path, "", archive.ErrKind)
		} else {
			reads(t, a, n, path, data, nil)
			lists(t, a, n, path, nil, archive.ErrKind)
		}
	}
}

// somePath is one of few, so that much is met again.
func somePath(r *rand.Rand) string {
	list := make([]string, 1+r.Intn(3))
	for i := range list {
		list[i] = string(rune('a' + r.Intn(4)))
	}
	return strings.Join(list, "/")
}

// someData is made of few pieces, so that chunks are met again.
func someData(r *rand.Rand) string {
	data := ""
	for range r.Intn(5) {
		data += strings.Repeat(string(rune('a'+r.Intn(3))), 96)
	}
	return data + strings.Repeat(string(rune('a'+r.Intn(3))), r.Intn(3))
}

// change does something to a tree and to its model.
func change(t *testing.T, r *rand.Rand, a *archive.Archive, p paths) {
	t.Helper()
	path := somePath(r)
	switch k := r.Intn(10); {
	case k < 2:
		is(t, "P6: Remove", a.Remove(path), p.remove(path))
	case k < 5:
		is(t, "P6: Mkdir", a.Mkdir(path), p.put(path, "/"))
	default:
		data := someData(r)
		is(t, "P6: Write", a.Write(path, data), p.put(path, data))
	}
}

func TestSnapshotsAreAsTheirModel(t *testing.T) {
	r := rand.New(rand.NewSource(9))
	for round := range 60 {
		sectors := 4 + r.Intn(300)
		a, d := opened(t, sectors)
		k := newKeeper(sectors)
		for range 60 + r.Intn(200) {
			switch r.Intn(12) {
			case 0:
				label := strings.Repeat("l", r.Intn(21))
				want := k.keep(label)
				snaps(t, a, label, map[bool]int{true: len(k.kept)}[want == nil], want)
				shows(t, "P10: Snapshot", d, k.image(sectors)...)
			case 1:
				if r.Intn(3) > 0 {
					continue
				}
				a = again(t, d)
				k.tree = paths{map[string]string{}}
				if n := len(k.kept); n > 0 {
					k.tree = paths{maps.Clone(k.kept[n-1].there)}
				}
			default:
				change(t, r, a, k.tree)
			}
		}
		infos(t, a, k.infos...)
		holdsTree(t, a, 0, k.tree)
		for i, p := range k.kept {
			holdsTree(t, a, i+1, p)
		}
		for _, n := range []int{-1, len(k.kept) + 1, math.MaxInt, math.MinInt} {
			reads(t, a, n, "", "", archive.ErrNone)
			lists(t, a, n, "", nil, archive.ErrNone)
			reads(t, a, n, "A", "", archive.ErrPath)
			lists(t, a, n, "A", nil, archive.ErrPath)
		}
		is(t, "P12: Verify", a.Verify(), nil)
		shows(t, "P11, P12: reading changes nothing", d, k.image(sectors)...)
		if t.Failed() {
			t.Fatal("in round", round)
		}
	}
}
