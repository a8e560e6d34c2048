package archive_test

import (
	"errors"
	"math"
	"math/rand"
	"slices"
	"strings"
	"sync"
	"testing"

	"stow/archive"
)

// full is a sector of one letter.
func full(letter string) string { return strings.Repeat(letter, 64) }

var empty = full("\x00")

func holds(t *testing.T, d *archive.Disk, at int, want string) {
	t.Helper()
	if got, err := d.Read(at); err != nil || got != want {
		t.Errorf("P4: Read(%d): %q, %v, want %q", at, got, err, want)
	}
}

func waits(t *testing.T, d *archive.Disk, want int) {
	t.Helper()
	if got := d.Waiting(); got != want {
		t.Errorf("P4: Waiting: %d, want %d", got, want)
	}
}

// answers holds what a call answered against a reason (nil: none).
func answers(t *testing.T, what string, got, want error) {
	t.Helper()
	if !errors.Is(got, want) || want == nil && got != nil {
		t.Errorf("P4: %s: %v, want %v", what, got, want)
	}
}

func TestNewDiskIsEmptyAndWithinBounds(t *testing.T) {
	for n, want := range map[int]int{math.MinInt: 1, -7: 1, 0: 1, 1: 1, 2: 2, 64: 64, 4095: 4095, 4096: 4096, 4097: 4096, math.MaxInt: 4096} {
		d := archive.NewDisk(n)
		if got := d.Sectors(); got != want {
			t.Errorf("P4: NewDisk(%d) has %d sectors, want %d", n, got, want)
		}
		waits(t, d, 0)
		for at := range want {
			holds(t, d, at, empty)
		}
	}
}

func TestWrongArgumentsChangeNothing(t *testing.T) {
	d := archive.NewDisk(4)
	answers(t, "Write(1, b)", d.Write(1, full("b")), nil)
	for _, at := range []int{math.MinInt, -1, 4, 5, 4096, math.MaxInt} {
		got, err := d.Read(at)
		answers(t, "Read of no sector", err, archive.ErrArg)
		if got != "" {
			t.Errorf("P1: Read(%d) tells %q beside an error", at, got)
		}
		answers(t, "Write of no sector", d.Write(at, full("a")), archive.ErrArg)
	}
	for _, n := range []int{0, 1, 63, 65, 128} {
		answers(t, "Write of a wrong size", d.Write(1, strings.Repeat("a", n)), archive.ErrArg)
	}
	waits(t, d, 1)
	holds(t, d, 1, full("b"))
}

func TestWriteIsSeenAtOnceAndWaits(t *testing.T) {
	d := archive.NewDisk(2)
	for i, letter := range []string{"a", "b", "a"} {
		answers(t, "Write", d.Write(1, full(letter)), nil)
		holds(t, d, 1, full(letter))
		waits(t, d, i+1)
	}
	holds(t, d, 0, empty)
	d.Crash()
	holds(t, d, 1, empty)
	waits(t, d, 0)
}

func TestFlushMakesSafe(t *testing.T) {
	d := archive.NewDisk(3)
	answers(t, "Flush of nothing", d.Flush(), nil)
	answers(t, "Write", d.Write(0, full("a")), nil)
	answers(t, "Write", d.Write(0, full("b")), nil)
	answers(t, "Flush", d.Flush(), nil)
	waits(t, d, 0)
	answers(t, "Write", d.Write(0, full("c")), nil)
	holds(t, d, 0, full("c"))
	d.Crash()
	holds(t, d, 0, full("b"))
}

func TestExample2(t *testing.T) {
	d := archive.NewDisk(4)
	answers(t, "Write", d.Write(1, full("x")), nil)
	answers(t, "Write", d.Write(1, full("y")), nil)
	answers(t, "Write", d.Write(2, full("z")), nil)
	waits(t, d, 3)
	d.Crash(1, 0)
	holds(t, d, 1, full("x"))
	holds(t, d, 2, empty)
	waits(t, d, 0)
}

func TestCrashKeepsInKeepsOrder(t *testing.T) {
	for _, c := range []struct {
		keep        []int
		first, next string
	}{
		{nil, full("s"), empty},
		{[]int{0}, full("a"), empty},
		{[]int{1, 2}, full("b"), full("c")},
		{[]int{2, 1, 0}, full("a"), full("c")},
		{[]int{0, 1, 0}, full("a"), empty},
		{[]int{0, 0, 1, 1}, full("b"), empty},
		{[]int{math.MinInt, -1, 3, 1, math.MaxInt}, full("b"), empty},
		{[]int{-1, 3}, full("s"), empty},
	} {
		d := archive.NewDisk(2)
		answers(t, "Write", d.Write(0, full("s")), nil)
		answers(t, "Flush", d.Flush(), nil)
		answers(t, "Write", d.Write(0, full("a")), nil)
		answers(t, "Write", d.Write(0, full("b")), nil)
		answers(t, "Write", d.Write(1, full("c")), nil)
		given := slices.Clone(c.keep)
		for range 2 { // what was kept is safe: a second crash finds nothing that waits
			d.Crash(given...)
			holds(t, d, 0, c.first)
			holds(t, d, 1, c.next)
			waits(t, d, 0)
		}
		if !slices.Equal(given, c.keep) {
			t.Errorf("P2: Crash changed its list: %v, was %v", given, c.keep)
		}
	}
}

func TestExample3(t *testing.T) {
	d := archive.NewDisk(4)
	d.Fuse(2)
	answers(t, "Write ahead of the fuse's end", d.Write(0, full("a")), nil)
	answers(t, "Flush at the fuse's end", d.Flush(), archive.ErrDown)
	answers(t, "Write behind it", d.Write(1, full("b")), archive.ErrDown)
	answers(t, "Write of no sector behind it", d.Write(4, full("b")), archive.ErrArg)
	waits(t, d, 1)
	holds(t, d, 0, full("a"))
	holds(t, d, 1, empty)
	d.Crash()
	holds(t, d, 0, empty)
	answers(t, "Write behind the crash", d.Write(1, full("b")), nil)
	holds(t, d, 1, full("b"))
}

func TestDiskThatIsDownStaysDown(t *testing.T) {
	d := archive.NewDisk(1)
	d.Fuse(1)
	answers(t, "Flush", d.Flush(), archive.ErrDown)
	for _, n := range []int{5, 1, 0, -1, math.MaxInt, math.MinInt} {
		d.Fuse(n)
		answers(t, "Write", d.Write(0, full("a")), archive.ErrDown)
		answers(t, "Flush", d.Flush(), archive.ErrDown)
	}
	waits(t, d, 0)
	d.Fuse(1)
	d.Crash()
	answers(t, "Write behind the crash: its fuse is out", d.Write(0, full("a")), nil)
	answers(t, "Flush behind the crash", d.Flush(), nil)
	holds(t, d, 0, full("a"))
}

func TestFuseTakesThePlaceOfTheLast(t *testing.T) {
	d := archive.NewDisk(1)
	d.Fuse(1)
	d.Fuse(3)
	answers(t, "first", d.Flush(), nil)
	answers(t, "second", d.Flush(), nil)
	d.Fuse(2)
	answers(t, "third, first of a new fuse", d.Flush(), nil)
	answers(t, "fourth", d.Flush(), archive.ErrDown)
	for _, n := range []int{0, -1, math.MinInt} {
		d.Crash()
		d.Fuse(1)
		d.Fuse(n)
		answers(t, "Flush without a fuse", d.Flush(), nil)
	}
	d.Fuse(math.MaxInt)
	answers(t, "Flush with a long fuse", d.Flush(), nil)
}

func TestOnlyOperationsBurnTheFuse(t *testing.T) {
	d := archive.NewDisk(2)
	d.Fuse(2)
	for range 3 {
		holds(t, d, 0, empty)
		waits(t, d, 0)
		d.Sectors()
		answers(t, "Write of no sector", d.Write(2, full("a")), archive.ErrArg)
		answers(t, "Write of a wrong size", d.Write(0, "a"), archive.ErrArg)
	}
	answers(t, "first operation", d.Write(0, full("a")), nil)
	answers(t, "second operation", d.Write(1, full("b")), archive.ErrDown)
	waits(t, d, 1)
}

func TestDisksAreApart(t *testing.T) {
	d, e := archive.NewDisk(2), archive.NewDisk(2)
	answers(t, "Write", d.Write(0, full("a")), nil)
	d.Fuse(1)
	answers(t, "Flush of the other", e.Flush(), nil)
	answers(t, "Flush of the one", d.Flush(), archive.ErrDown)
	answers(t, "Write of the other", e.Write(1, full("b")), nil)
	e.Crash(0)
	holds(t, e, 0, empty)
	holds(t, e, 1, full("b"))
	holds(t, d, 0, full("a"))
	holds(t, d, 1, empty)
	waits(t, d, 1)
}

// model is a disk as P4 words it, without any thought of cost.
type model struct {
	safe, seen []string
	ats        []int
	texts      []string
	fuse       int
	down       bool
}

func (m *model) goesDown() bool {
	m.fuse--
	m.down = m.down || m.fuse == 0
	return m.down
}

func (m *model) write(at int, data string) error {
	if at < 0 || at >= len(m.safe) || len(data) != 64 {
		return archive.ErrArg
	}
	if m.goesDown() {
		return archive.ErrDown
	}
	m.seen[at] = data
	m.ats, m.texts = append(m.ats, at), append(m.texts, data)
	return nil
}

func (m *model) flush() error {
	if m.goesDown() {
		return archive.ErrDown
	}
	m.safe = slices.Clone(m.seen)
	m.ats, m.texts = nil, nil
	return nil
}

func (m *model) crash(keep []int) {
	for _, place := range keep {
		if place >= 0 && place < len(m.ats) {
			m.safe[m.ats[place]] = m.texts[place]
		}
	}
	m.seen = slices.Clone(m.safe)
	m.ats, m.texts, m.fuse, m.down = nil, nil, 0, false
}

func TestDiskIsAsItsModel(t *testing.T) {
	r := rand.New(rand.NewSource(4))
	for range 300 {
		n := 1 + r.Intn(5)
		d, m := archive.NewDisk(n), &model{safe: slices.Repeat([]string{empty}, n), seen: slices.Repeat([]string{empty}, n)}
		for range 60 {
			switch r.Intn(8) {
			case 0:
				answers(t, "Flush", d.Flush(), m.flush())
			case 1:
				m.fuse = r.Intn(12) - 3
				d.Fuse(m.fuse)
				m.fuse = max(m.fuse, 0)
			case 2:
				keep := make([]int, r.Intn(6))
				for i := range keep {
					keep[i] = r.Intn(8) - 1
				}
				d.Crash(keep...)
				m.crash(keep)
			default:
				at, data := r.Intn(n+2)-1, strings.Repeat(string(rune('a'+r.Intn(26))), 64-r.Intn(8)/7)
				answers(t, "Write", d.Write(at, data), m.write(at, data))
			}
			waits(t, d, len(m.ats))
			for at := range n {
				holds(t, d, at, m.seen[at])
			}
		}
		if t.Failed() {
			return
		}
	}
}

func TestDiskAskedByMany(t *testing.T) {
	d := archive.NewDisk(8)
	var group sync.WaitGroup
	for at := range 8 {
		group.Go(func() {
			for range 100 {
				if err := d.Write(at, full(string(rune('a'+at)))); err != nil {
					t.Error("P4: Write by one of many:", err)
				}
				if got, err := d.Read(at); err != nil || got != full(string(rune('a'+at))) {
					t.Error("P4: Read by one of many:", got, err)
				}
				d.Waiting()
			}
		})
	}
	group.Wait()
	waits(t, d, 800)
	answers(t, "Flush", d.Flush(), nil)
	for at := range 8 {
		holds(t, d, at, full(string(rune('a'+at))))
	}
}
