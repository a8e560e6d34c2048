package archive_test

import (
	"encoding/binary"
	"encoding/hex"
	"hash/crc32"
	"strings"
	"testing"

	"stow/archive"
)

// first is sector 0 as P7 words it.
func first(magic string, sectors int) string {
	text := binary.BigEndian.AppendUint32([]byte(magic), uint32(sectors))
	text = binary.BigEndian.AppendUint32(text, crc32.ChecksumIEEE(text))
	return string(text) + strings.Repeat("\x00", 64-len(text))
}

// image tells all sectors of a disk.
func image(t *testing.T, d *archive.Disk) []string {
	t.Helper()
	var list []string
	for at := range d.Sectors() {
		data, err := d.Read(at)
		if err != nil {
			t.Fatal("P4: Read:", err)
		}
		list = append(list, data)
	}
	return list
}

// laid is a disk on which these sectors are safe.
func laid(t *testing.T, sectors ...string) *archive.Disk {
	t.Helper()
	d := archive.NewDisk(len(sectors))
	for at, data := range sectors {
		is(t, "P4: Write", d.Write(at, data), nil)
	}
	is(t, "P4: Flush", d.Flush(), nil)
	return d
}

func shows(t *testing.T, what string, d *archive.Disk, want ...string) {
	t.Helper()
	got := image(t, d)
	if len(got) != len(want) {
		t.Errorf("%s: the disk has %d sectors, want %d", what, len(got), len(want))
		return
	}
	for at := range got {
		if got[at] != want[at] {
			t.Errorf("%s: sector %d is %q, want %q", what, at, got[at], want[at])
			return
		}
	}
}

// refused: Mount answers a reason and no archive.
func refused(t *testing.T, what string, d *archive.Disk, want error) {
	t.Helper()
	a, err := archive.Mount(d)
	is(t, what, err, want)
	if a != nil {
		t.Errorf("P1: %s: an archive beside an error", what)
	}
}

func TestExample4(t *testing.T) {
	d := archive.NewDisk(8)
	is(t, "P8: Format", archive.Format(d), nil)
	data, _ := d.Read(0)
	if got := hex.EncodeToString([]byte(data[:12])); got != "617263686976653100000008" {
		t.Errorf("P7: sector 0 begins with %s", got)
	}
	if got := binary.BigEndian.Uint32([]byte(data[12:16])); got != archive.CRC(data[:12]) {
		t.Errorf("P7: the CRC of sector 0: %08x", got)
	}
	if data[16:] != empty[16:] {
		t.Errorf("P7: sector 0 ends with %q", data[16:])
	}
	a, err := archive.Mount(d)
	is(t, "P9: Mount", err, nil)
	if list := a.Snapshots(); len(list) != 0 {
		t.Errorf("P9: snapshots of a new archive: %v", list)
	}
	lists(t, a, 0, "", nil, nil)
}

func TestFormatOfEachSize(t *testing.T) {
	for _, n := range []int{4, 5, 255, 256, 257, 4095, 4096} {
		d := archive.NewDisk(n)
		is(t, "P8: Format", archive.Format(d), nil)
		holds(t, d, 0, first("archive1", n))
		for at := 1; at < n; at++ {
			holds(t, d, at, empty)
		}
		waits(t, d, 0)
		_, err := archive.Mount(d)
		is(t, "P9: Mount", err, nil)
	}
}

func TestTooFewSectors(t *testing.T) {
	for n := 1; n < 4; n++ {
		sectors := []string{first("archive1", n), full("a"), full("b")}[:n]
		d := laid(t, sectors...)
		d.Fuse(1)
		is(t, "P8: Format of a small disk", archive.Format(d), archive.ErrArg)
		refused(t, "P9: Mount of a small disk", d, archive.ErrFormat)
		shows(t, "P1: behind an error", d, sectors...)
		is(t, "P8, P9: no operation was done", d.Flush(), archive.ErrDown)
		is(t, "P8: Format of a small disk that is down", archive.Format(d), archive.ErrArg)
		refused(t, "P9: Mount of a small disk that is down", d, archive.ErrFormat)
	}
}

// TestFormatDoesItsOperationsInOrder lets the disk go down at each of them; a crash keeps some of what waits.
func TestFormatDoesItsOperationsInOrder(t *testing.T) {
	old := []string{full("a"), empty, full("b"), full("c"), empty}
	for i, c := range []struct {
		waits, safe int
		seen        []string
	}{
		{0, 0, old},
		{1, 0, []string{empty, empty, full("b"), full("c"), empty}},
		{2, 0, []string{empty, empty, empty, full("c"), empty}},
		{3, 0, []string{empty, empty, empty, empty, empty}},
		{0, 1, []string{empty, empty, empty, empty, empty}},
		{1, 1, []string{first("archive1", 5), empty, empty, empty, empty}},
	} {
		d := laid(t, old...)
		d.Fuse(i + 1)
		is(t, "P8: Format of a disk that goes down", archive.Format(d), archive.ErrDown)
		waits(t, d, c.waits)
		shows(t, "P8: what was done is done", d, c.seen...)
		d.Crash()
		if c.safe == 0 {
			shows(t, "P8: nothing is safe ahead of the first Flush", d, old...)
		} else {
			shows(t, "P8: all is 0 behind the first Flush", d, empty, empty, empty, empty, empty)
		}
	}
	d := laid(t, old...)
	d.Fuse(7)
	is(t, "P8: Format in six operations", archive.Format(d), nil)
	is(t, "P8: the seventh operation", d.Flush(), archive.ErrDown)
	d.Crash()
	shows(t, "P8: Format is safe", d, first("archive1", 5), empty, empty, empty, empty)
}

func TestFormatLooksAtWhatIsSeen(t *testing.T) {
	d := laid(t, full("a"), full("b"), empty, empty)
	is(t, "P4: Write", d.Write(1, empty), nil)
	is(t, "P4: Write", d.Write(3, full("c")), nil)
	d.Fuse(6) // two writes, Flush, one write, Flush: sector 1 is all 0 already
	is(t, "P8: Format", archive.Format(d), nil)
	is(t, "P8: the sixth operation", d.Flush(), archive.ErrDown)
	d.Crash()
	shows(t, "P8: Format", d, first("archive1", 4), empty, empty, empty)
}

func TestFormatOnceMore(t *testing.T) {
	d := archive.NewDisk(4)
	is(t, "P8: Format of an empty disk", archive.Format(d), nil)
	d.Fuse(5) // one write, Flush, one write, Flush
	is(t, "P8: Format of a formatted disk", archive.Format(d), nil)
	is(t, "P8: the fifth operation", d.Flush(), archive.ErrDown)
	is(t, "P8: Format of a disk that is down", archive.Format(d), archive.ErrDown)
	shows(t, "P8: Format", d, first("archive1", 4), empty, empty, empty)
}

func TestMountOfNoArchive(t *testing.T) {
	right := first("archive1", 6)
	wrong := []string{empty, full("a"), first("archive1", 5), first("archive1", 7), first("archive1", 0), first("archive1", 6<<24), first("archive2", 6), first("Archive1", 6)}
	for at := range 64 {
		for bit := range 8 {
			data := []byte(right)
			data[at] ^= 1 << bit
			wrong = append(wrong, string(data))
		}
	}
	for _, data := range wrong {
		sectors := []string{data, full("b"), empty, empty, empty, empty}
		d := laid(t, sectors...)
		d.Fuse(1)
		refused(t, "P9: Mount of no archive", d, archive.ErrFormat)
		shows(t, "P1: behind an error", d, sectors...)
		is(t, "P9: no operation was done", d.Flush(), archive.ErrDown)
		refused(t, "P9: Mount of no archive, of a disk that is down", d, archive.ErrFormat)
	}
	_, err := archive.Mount(laid(t, right, empty, empty, empty, empty, empty))
	is(t, "P9: Mount", err, nil)
}

func TestMountWipesWhatIsNoRecord(t *testing.T) {
	head := first("archive1", 5)
	old := []string{head, full("b"), empty, empty, full("c")}
	for i, c := range []struct {
		waits int
		seen  []string
	}{
		{0, old},
		{1, []string{head, empty, empty, empty, full("c")}},
		{2, []string{head, empty, empty, empty, empty}},
	} {
		d := laid(t, old...)
		d.Fuse(i + 1)
		refused(t, "P9: Mount of a disk that goes down", d, archive.ErrDown)
		waits(t, d, c.waits)
		shows(t, "P9: what was done is done", d, c.seen...)
		d.Crash()
		shows(t, "P9: nothing is safe ahead of Flush", d, old...)
	}
	d := laid(t, old...)
	d.Fuse(4)
	a, err := archive.Mount(d)
	is(t, "P9: Mount in three operations", err, nil)
	lists(t, a, 0, "", nil, nil)
	is(t, "P9: the fourth operation", d.Flush(), archive.ErrDown)
	d.Crash()
	shows(t, "P9: Mount is safe", d, head, empty, empty, empty, empty)
}

func TestMountMakesAFormatSafe(t *testing.T) {
	d := archive.NewDisk(4)
	is(t, "P4: Write", d.Write(0, first("archive1", 4)), nil)
	d.Fuse(2)
	_, err := archive.Mount(d)
	is(t, "P9: Mount in one operation", err, nil)
	waits(t, d, 0)
	is(t, "P9: the second operation", d.Flush(), archive.ErrDown)
	refused(t, "P9: Mount of a disk that is down", d, archive.ErrDown)
	d.Crash()
	shows(t, "P9: Mount flushes", d, first("archive1", 4), empty, empty, empty)
}

func TestTreeOfADiskThatIsDown(t *testing.T) {
	d := archive.NewDisk(4)
	is(t, "P8: Format", archive.Format(d), nil)
	a, err := archive.Mount(d)
	is(t, "P9: Mount", err, nil)
	d.Fuse(1)
	is(t, "P4: Flush", d.Flush(), archive.ErrDown)
	is(t, "P6: Write into the tree is no operation", a.Write("f", "x"), nil)
	reads(t, a, 0, "f", "x", nil)
	is(t, "P6: Remove from the tree is no operation", a.Remove("f"), nil)
	d.Crash()
	lists(t, a, 0, "", nil, nil)
	again, err := archive.Mount(d)
	is(t, "P9: Mount", err, nil)
	lists(t, again, 0, "", nil, nil)
}
