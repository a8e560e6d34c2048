package archive_test

import (
	"fmt"
	"maps"
	"math/rand"
	"slices"
	"strings"
	"testing"

	"stow/archive"
)

// TestOperationsOfASnapshot lets the disk go down at each of them.
func TestOperationsOfASnapshot(t *testing.T) {
	objects := []rec{{chunk, one}, {file, little}, {dir, inner}}
	all := of(8, append(objects, rec{snap, snapOf(1, inner, "l")})...)
	for fuse := 1; fuse <= 7; fuse++ { // three writes, Flush, one write, Flush
		a, d := opened(t, 8)
		is(t, "P6: Write", a.Write("f", one), nil)
		d.Fuse(fuse)
		if fuse == 7 {
			snaps(t, a, "l", 1, nil)
			is(t, "P10: the seventh operation", d.Flush(), archive.ErrDown)
			d.Crash()
			shows(t, "P10: a snapshot is safe", d, all...)
			continue
		}
		snaps(t, a, "l", 0, archive.ErrDown)
		waits(t, d, []int{0, 1, 2, 3, 0, 1}[fuse-1])
		done := slices.Clone(of(8))
		copy(done, all[:[]int{1, 2, 3, 4, 4, 5}[fuse-1]])
		shows(t, "P10: what was done is done", d, done...)
		infos(t, a)
		reads(t, a, 1, "f", "", archive.ErrNone)
		reads(t, a, 0, "f", one, nil)
		d.Crash()
		is(t, "P12: Verify, when nothing counts", a.Verify(), nil)
		snaps(t, a, "l", 0, archive.ErrDown)
		snaps(t, a, strings.Repeat("l", 21), 0, archive.ErrDown)
		shows(t, "P10: behind ErrDown nothing is written", d, of(8, objects[:min(3, fuse/5*3)]...)...)
		b := again(t, d)
		infos(t, b)
		lists(t, b, 0, "", nil, nil)
		is(t, "P6: Write", b.Write("f", one), nil)
		snaps(t, b, "l", 1, nil)
		shows(t, "P10: once more", d, all...)
		snaps(t, a, "l", 0, archive.ErrDown)
	}
}

func TestExample9(t *testing.T) {
	for _, c := range []struct {
		fuse  int
		keep  []int
		there bool
	}{{2, nil, false}, {2, []int{0}, false}, {5, nil, false}, {5, []int{0}, true}} {
		a, d := opened(t, 8)
		is(t, "P6: Mkdir", a.Mkdir("d"), nil) // two directories, each of one sector
		d.Fuse(c.fuse)
		snaps(t, a, "x", 0, archive.ErrDown)
		d.Crash(c.keep...)
		b := again(t, d)
		if !c.there {
			infos(t, b)
			lists(t, b, 0, "", nil, nil)
			continue
		}
		infos(t, b, archive.Info{Number: 1, Label: "x", Root: sum(entry(2, "d", ""))})
		lists(t, b, 0, "", []archive.Entry{{Name: "d", Dir: true}}, nil)
		lists(t, b, 1, "d", nil, nil)
	}
}

// TestOldSnapshotsBehindADisaster: a snapshot that goes down leaves those ahead as they were.
func TestOldSnapshotsBehindADisaster(t *testing.T) {
	a, d := opened(t, 60)
	is(t, "P6: Write", a.Write("f", one), nil)
	snaps(t, a, "one", 1, nil)
	is(t, "P6: Write", a.Write("g", full96+"z"), nil)
	d.Fuse(3)
	snaps(t, a, "two", 0, archive.ErrDown)
	infos(t, a, archive.Info{Number: 1, Label: "one", Root: sum(inner)})
	reads(t, a, 1, "f", one, nil)
	reads(t, a, 2, "g", "", archive.ErrNone)
	reads(t, a, 0, "g", full96+"z", nil)
	d.Crash(1, 0)
	is(t, "P12: Verify", a.Verify(), nil)
	b := again(t, d)
	infos(t, b, a.Snapshots()...)
	lists(t, b, 0, "", []archive.Entry{{Name: "f", Size: 1}}, nil)
	is(t, "P6: Write", b.Write("g", full96), nil) // its chunk stands there, whole
	snaps(t, b, "two", 2, nil)
	root := inner + entry(1, "g", fileOf(96, full96))
	shows(t, "P10: a chunk that was read is not written again", d, of(60, rec{chunk, one}, rec{file, little}, rec{dir, inner}, rec{snap, snapOf(1, inner, "one")},
		rec{chunk, full96}, rec{file, fileOf(96, full96)}, rec{dir, root}, rec{snap, snapOf(2, root, "two")})...)
}

// subsets tells every choice of the numbers from 0 up to n.
func subsets(n int) [][]int {
	list := [][]int{nil}
	for i := range n {
		for _, fewer := range list[:1<<i] {
			list = append(list, append(slices.Clone(fewer), i))
		}
	}
	return list
}

// standing tells how many records of a list stand wholly on a disk, from the first on.
func standing(list []rec, sectors []string) int {
	l := newLayer(len(sectors))
	for i, r := range list {
		from := l.add(r.kind, r.text)
		if len(l.sectors) > len(sectors) || !slices.Equal(l.sectors[from:], sectors[from:len(l.sectors)]) {
			return i
		}
	}
	return len(list)
}

// history is what the crashes below come upon: a disk of 16 with one snapshot, and a second one, whose record, as most others, has two sectors.
func history() (before, after []rec) {
	x := fileOf(97, full96, "z")
	root := inner + entry(1, "g", x)
	before = []rec{{chunk, one}, {file, little}, {dir, inner}, {snap, snapOf(1, inner, "one")}}
	after = append(before, rec{chunk, full96}, rec{chunk, "z"}, rec{file, x}, rec{dir, root}, rec{snap, snapOf(2, root, strings.Repeat("l", 20))})
	return before, after
}

// holdsHistory: an archive has one snapshot of the history, or both, and the last one's tree.
func holdsHistory(t *testing.T, a *archive.Archive, both bool) {
	t.Helper()
	_, after := history()
	want := []archive.Info{{Number: 1, Label: "one", Root: sum(inner)}, {Number: 2, Label: strings.Repeat("l", 20), Root: sum(after[7].text)}}
	old, now := paths{map[string]string{"f": one}}, paths{map[string]string{"f": one, "g": full96 + "z"}}
	holdsTree(t, a, 1, old)
	if both {
		infos(t, a, want...)
		holdsTree(t, a, 2, now)
		holdsTree(t, a, 0, now)
	} else {
		infos(t, a, want[0])
		holdsTree(t, a, 0, old)
		reads(t, a, 2, "f", "", archive.ErrNone)
	}
	is(t, "P12: Verify", a.Verify(), nil)
}

// TestEveryCrashOfASnapshot: whichever operation goes down, and whichever of the writes that wait are kept.
func TestEveryCrashOfASnapshot(t *testing.T) {
	before, after := history()
	all := of(16, after...)
	there := 0
	for fuse := 1; fuse <= 11; fuse++ { // seven writes, Flush, two writes, Flush
		waiting, safe := fuse-1, 5
		if fuse > 8 {
			waiting, safe = fuse-9, 12
		}
		for _, keep := range subsets(waiting) {
			d := laid(t, of(16, before...)...)
			a := again(t, d)
			is(t, "P6: Write", a.Write("g", full96+"z"), nil)
			d.Fuse(fuse)
			snaps(t, a, strings.Repeat("l", 20), 0, archive.ErrDown)
			waits(t, d, waiting)
			d.Crash(keep...)
			want := (&layer{sectors: all[:safe]}).image(16)
			for _, place := range keep {
				want[safe+place] = all[safe+place]
			}
			shows(t, fmt.Sprintf("P10: down at operation %d, kept are %v", fuse, keep), d, want...)
			n := standing(after, want)
			both := n == len(after)
			if both {
				there++
			}
			b := again(t, d)
			shows(t, fmt.Sprintf("P9: down at operation %d, kept are %v", fuse, keep), d, of(16, after[:n]...)...)
			holdsHistory(t, b, both)
			if !both {
				is(t, "P6: Write", b.Write("g", full96+"z"), nil)
				snaps(t, b, strings.Repeat("l", 20), 2, nil)
				shows(t, "P10: a snapshot once more", d, all...)
				holdsHistory(t, b, true)
			}
		}
	}
	if there != 1 {
		t.Errorf("P10: the snapshot is there behind %d crashes, want 1: of the last Flush, when both sectors are kept", there)
	}
}

// TestEveryCrashOfAMount: what it wipes comes back, or not, and is none of the archive's either way.
func TestEveryCrashOfAMount(t *testing.T) {
	before, after := history()
	dirty := of(16, after...)
	dirty[6] = empty // of a chunk: all others from there on are to be wiped
	dirty[14], dirty[15] = full("a"), full("b")
	wiped := []int{5, 7, 8, 9, 10, 11, 12, 13, 14, 15}
	for fuse := 1; fuse <= len(wiped)+1; fuse++ {
		for _, keep := range subsets(fuse - 1) {
			d := laid(t, dirty...)
			d.Fuse(fuse)
			refused(t, "P9: Mount of a disk that goes down", d, archive.ErrDown)
			waits(t, d, fuse-1)
			refused(t, "P9: Mount of a disk that is down", d, archive.ErrDown)
			waits(t, d, fuse-1)
			d.Crash(keep...)
			want := slices.Clone(dirty)
			for _, place := range keep {
				want[wiped[place]] = empty
			}
			shows(t, fmt.Sprintf("P9: down at operation %d, kept are %v", fuse, keep), d, want...)
			holdsHistory(t, again(t, d), false)
			shows(t, "P9: Mount once more", d, of(16, before...)...)
			waits(t, d, 0)
		}
	}
}

// TestEveryCrashOfAFormat: an old archive is there still, or as much of it as its head and first records say, or none.
func TestEveryCrashOfAFormat(t *testing.T) {
	list := []rec{{dir, ""}, {snap, snapOf(1, "", "one")}, {snap, snapOf(2, "", "two")}}
	old := of(6, list...)
	blank := slices.Repeat([]string{empty}, 6)
	for fuse := 1; fuse <= 7; fuse++ { // four writes, Flush, one write, Flush
		waiting, safe := fuse-1, old
		if fuse > 5 {
			waiting, safe = fuse-6, blank
		}
		for _, keep := range subsets(waiting) {
			d := laid(t, old...)
			d.Fuse(fuse)
			is(t, "P8: Format of a disk that goes down", archive.Format(d), archive.ErrDown)
			waits(t, d, waiting)
			is(t, "P8: Format of a disk that is down", archive.Format(d), archive.ErrDown)
			waits(t, d, waiting)
			d.Crash(keep...)
			want := slices.Clone(safe)
			for _, place := range keep {
				want[place] = empty
				if fuse > 5 {
					want[place] = old[place]
				}
			}
			what := fmt.Sprintf("P8: down at operation %d, kept are %v", fuse, keep)
			shows(t, what, d, want...)
			if want[0] == empty {
				refused(t, what, d, archive.ErrFormat)
			} else {
				n := standing(list, want)
				if got := again(t, d).Snapshots(); len(got) != max(0, n-1) {
					t.Errorf("%s: %d snapshots, want %d", what, len(got), max(0, n-1))
				}
				shows(t, what, d, of(6, list[:n]...)...)
			}
			is(t, "P8: Format once more", archive.Format(d), nil)
			shows(t, "P8: Format once more", d, of(6)...)
			infos(t, again(t, d))
		}
	}
}

// machine is a disk and the archive on it, in every operation as P4 and P7 to P10 word them.
type machine struct {
	model
	list  []rec // of the records that were laid out last, whether they stand or not
	there int   // how many of them count
	tree  paths
	kept  []paths // of each snapshot in the list
	ended bool    // was a Snapshot ErrDown since Mount?
}

func newMachine(sectors int) *machine {
	blank := slices.Repeat([]string{empty}, sectors)
	return &machine{model: model{safe: blank, seen: slices.Clone(blank)}}
}

func (m *machine) wipe(from int) error {
	for at := from; at < len(m.seen); at++ {
		if m.seen[at] == empty {
			continue
		}
		if err := m.write(at, empty); err != nil {
			return err
		}
	}
	return m.flush()
}

func (m *machine) format() error {
	if err := m.wipe(0); err != nil {
		return err
	}
	if err := m.write(0, first("archive1", len(m.seen))); err != nil {
		return err
	}
	return m.flush()
}

func (m *machine) mount() error {
	if m.seen[0] != first("archive1", len(m.seen)) {
		return archive.ErrFormat
	}
	n := standing(m.list, m.seen)
	if err := m.wipe(len(m.laid(m.list[:n]))); err != nil {
		return err
	}
	m.list, m.there, m.ended = m.list[:n], n, false
	m.tree = paths{map[string]string{}}
	snapshots := 0
	for _, r := range m.list {
		if r.kind == snap {
			snapshots++
		}
	}
	m.kept = m.kept[:snapshots]
	if snapshots > 0 {
		m.tree = paths{maps.Clone(m.kept[snapshots-1].there)}
	}
	return nil
}

// laid tells the sectors of records, with sector 0.
func (m *machine) laid(list []rec) []string {
	l := newLayer(len(m.seen))
	for _, r := range list {
		l.add(r.kind, r.text)
	}
	return l.sectors
}

func (m *machine) snapshot(label string) (int, error) {
	if m.ended {
		return 0, archive.ErrDown
	}
	number := 1
	for _, r := range m.list[:m.there] {
		if r.kind == snap {
			number++
		}
	}
	list := slices.Clone(m.list[:m.there])
	texts := m.tree.texts("")
	for _, r := range texts {
		if !slices.Contains(list, r) {
			list = append(list, r)
		}
	}
	objects := m.laid(list)
	list = append(list, rec{snap, snapOf(number, texts[len(texts)-1].text, label)})
	all := m.laid(list)
	if len(all) > len(m.seen) {
		return 0, archive.ErrFull
	}
	from := len(m.laid(m.list[:m.there]))
	m.list = list
	m.kept = append(m.kept[:number-1], paths{maps.Clone(m.tree.there)})
	for _, to := range []int{len(objects), len(all)} {
		if from == to {
			continue
		}
		if m.lay(from, all[from:to]) != nil {
			m.ended = true
			return 0, archive.ErrDown
		}
		from = to
	}
	m.there = len(list)
	return number, nil
}

func (m *machine) lay(from int, sectors []string) error {
	for i, data := range sectors {
		if err := m.write(from+i, data); err != nil {
			return err
		}
	}
	return m.flush()
}

// counted tells the snapshots that count, and their trees.
func (m *machine) counted() ([]archive.Info, []paths) {
	var list []archive.Info
	for _, r := range m.list[:m.there] {
		if r.kind == snap {
			list = append(list, archive.Info{Number: len(list) + 1, Label: r.text[36:], Root: r.text[4:36]})
		}
	}
	return list, m.kept[:len(list)]
}

// holds: a disk and its archive, if there is one, are as the machine's.
func (m *machine) holds(t *testing.T, d *archive.Disk, a *archive.Archive) {
	t.Helper()
	shows(t, "P8 to P10: the disk", d, m.seen...)
	waits(t, d, len(m.ats))
	if a == nil {
		return
	}
	list, kept := m.counted()
	infos(t, a, list...)
	holdsTree(t, a, 0, m.tree)
	for i, p := range kept {
		holdsTree(t, a, i+1, p)
	}
	is(t, "P12: Verify", a.Verify(), nil)
}

// step does something to a disk, its archive and their machine; it tells the archive, if there is one then, and what was met.
func (m *machine) step(t *testing.T, r *rand.Rand, d *archive.Disk, a *archive.Archive) (*archive.Archive, string) {
	t.Helper()
	k := r.Intn(60)
	if a == nil {
		k = r.Intn(20)
	}
	switch {
	case k < 1 || k < 6 && m.seen[0] == empty:
		want := m.format()
		is(t, "P8: Format", archive.Format(d), want)
		return nil, fmt.Sprint("Format: ", want)
	case k < 10:
		want := m.mount()
		a, err := archive.Mount(d)
		is(t, "P9: Mount", err, want)
		return a, fmt.Sprint("Mount: ", want)
	case k < 15:
		m.fuse = r.Intn(20)
		d.Fuse(m.fuse)
	case k < 20 || k < 25 && m.down:
		keep := r.Perm(d.Waiting() + 2)[:r.Intn(d.Waiting()+3)]
		d.Crash(keep...)
		m.crash(keep)
	case k < 30:
		label := strings.Repeat("l", r.Intn(21))
		number, want := m.snapshot(label)
		snaps(t, a, label, number, want)
		return a, fmt.Sprint("Snapshot: ", want)
	default:
		change(t, r, a, m.tree)
	}
	return a, ""
}

// TestArchivesAreAsTheirMachine: whatever is done, wherever the disk goes down, and whatever a crash keeps.
func TestArchivesAreAsTheirMachine(t *testing.T) {
	r := rand.New(rand.NewSource(12))
	met := map[string]int{}
	for round := range 60 {
		sectors := 4 + r.Intn(120)
		d, m := archive.NewDisk(sectors), newMachine(sectors)
		var a *archive.Archive
		for range 250 {
			told, _ := m.counted()
			next, what := m.step(t, r, d, a)
			met[what]++
			if found, _ := m.counted(); what == "Mount: <nil>" && len(found) > len(told) {
				met["more than was told"]++
			}
			a = next
			m.holds(t, d, a)
			if t.Failed() {
				t.Fatalf("in round %d, behind %q", round, what)
			}
		}
	}
	for what, least := range map[string]int{"Format: the disk is down": 100, "Mount: the disk is down": 100, "Mount: no archive is there": 50, "Snapshot: <nil>": 500, "Snapshot: the disk is down": 100, "Snapshot: the disk is full": 50, "more than was told": 5} {
		if met[what] < least {
			t.Errorf("%q was met %d times, want %d at least", what, met[what], least)
		}
	}
}
