package archive_test

import (
	"crypto/sha256"
	"encoding/binary"
	"fmt"
	"hash/crc32"
	"math"
	"slices"
	"strings"
	"testing"

	"stow/archive"
)

// The kinds of records (P7).
const (
	chunk = iota + 1
	file
	dir
	snap
)

// layer lays out records as P7 words it.
type layer struct {
	sectors []string
	number  uint32
	crc     uint32
}

func newLayer(sectors int) *layer {
	head := first("archive1", sectors)
	return &layer{sectors: []string{head}, crc: binary.BigEndian.Uint32([]byte(head[12:]))}
}

// add lays out one more record; it tells its first sector.
func (l *layer) add(kind int, text string) int {
	l.number++
	front := binary.BigEndian.AppendUint16(nil, uint16(len(text)))
	front = append(front, byte(kind))
	front = binary.BigEndian.AppendUint32(front, l.number)
	l.crc = crc32.ChecksumIEEE([]byte(word(int(l.crc)) + string(front) + text))
	data := string(front) + word(int(l.crc)) + text
	data += strings.Repeat("\x00", (64-len(data)%64)%64)
	at := len(l.sectors)
	for ; data != ""; data = data[64:] {
		l.sectors = append(l.sectors, data[:64])
	}
	return at
}

// image is what was laid out, on a disk of so many sectors.
func (l *layer) image(sectors int) []string {
	list := slices.Clone(l.sectors)
	for len(list) < sectors {
		list = append(list, empty)
	}
	return list
}

func word(n int) string { return string(binary.BigEndian.AppendUint32(nil, uint32(n))) }

func sum(text string) string {
	s := sha256.Sum256([]byte(text))
	return string(s[:])
}

// fileOf is the text of a file, with the Sums of these chunks.
func fileOf(size int, chunks ...string) string {
	text := word(size)
	for _, c := range chunks {
		text += sum(c)
	}
	return text
}

// entry is what a directory's text says of a name.
func entry(mark int, name, text string) string {
	return string([]byte{byte(mark), byte(len(name))}) + name + sum(text)
}

// snapOf is the text of a snapshot.
func snapOf(number int, root, label string) string { return word(number) + sum(root) + label }

type rec struct {
	kind int
	text string
}

// mounted lays out records on a disk of 100 sectors, and mounts it.
func mounted(t *testing.T, list ...rec) (*archive.Archive, *archive.Disk) {
	t.Helper()
	l := newLayer(100)
	for _, r := range list {
		l.add(r.kind, r.text)
	}
	d := laid(t, l.image(100)...)
	a, err := archive.Mount(d)
	is(t, "P9: Mount", err, nil)
	return a, d
}

// The texts on which those of the table hang.
var (
	full96  = strings.Repeat("s", 96)
	one     = "y"
	nothing = fileOf(0)
	little  = fileOf(1, one)
	inner   = entry(1, "f", little)
)

func base() []rec {
	return []rec{{chunk, full96}, {chunk, one}, {file, nothing}, {file, little}, {dir, ""}, {dir, inner}}
}

// names is a directory's text with so many names.
func names(n int) string {
	text := ""
	for i := range n {
		text += entry(1, fmt.Sprintf("n%02d", i), little)
	}
	return text
}

// textCase: is such a record one, behind those of base?
type textCase struct {
	rec
	fine bool
}

func filesAndChunks() map[string]textCase {
	many := slices.Repeat([]string{full96}, 16)
	return map[string]textCase{
		"a chunk of 1 byte":                  {rec{chunk, "z"}, true},
		"a chunk of 96":                      {rec{chunk, strings.Repeat("z", 96)}, true},
		"a chunk of bytes that are 0":        {rec{chunk, strings.Repeat("\x00", 96)}, true},
		"a chunk once more":                  {rec{chunk, full96}, true},
		"a chunk of none":                    {rec{chunk, ""}, false},
		"a chunk of 97":                      {rec{chunk, strings.Repeat("z", 97)}, false},
		"a chunk of 1000":                    {rec{chunk, strings.Repeat("z", 1000)}, false},
		"a file once more":                   {rec{file, little}, true},
		"a file of one chunk":                {rec{file, fileOf(96, full96)}, true},
		"a file of two":                      {rec{file, fileOf(97, full96, one)}, true},
		"a file of one chunk twice":          {rec{file, fileOf(192, full96, full96)}, true},
		"a file of 1536":                     {rec{file, fileOf(1536, many...)}, true},
		"a file of 1537":                     {rec{file, fileOf(1537, append(many, one)...)}, false},
		"a file of 1632":                     {rec{file, fileOf(1632, append(many, full96)...)}, false},
		"a file of 2^32-1":                   {rec{file, fileOf(math.MaxUint32)}, false},
		"a file of 2^31":                     {rec{file, fileOf(1 << 31)}, false},
		"a file of 2^24":                     {rec{file, fileOf(1<<24, one)}, false},
		"a file without a size":              {rec{file, ""}, false},
		"a file with half a size":            {rec{file, "\x00\x00\x00"}, false},
		"a file of none with a Sum":          {rec{file, fileOf(0, one)}, false},
		"a file without its Sum":             {rec{file, fileOf(1)}, false},
		"a file without its last Sum":        {rec{file, fileOf(97, full96)}, false},
		"a file with a Sum too many":         {rec{file, fileOf(96, full96, one)}, false},
		"a file with a byte too many":        {rec{file, little + "\x00"}, false},
		"a file with a byte too few":         {rec{file, little[:35]}, false},
		"a file of a chunk that is too long": {rec{file, fileOf(95, full96)}, false},
		"a file of one that is too short":    {rec{file, fileOf(2, one)}, false},
		"a file with a short one first":      {rec{file, fileOf(97, one, full96)}, false},
		"a file with two short ones":         {rec{file, fileOf(97, one, one)}, false},
		"a file of a chunk that is none":     {rec{file, fileOf(1, "n")}, false},
		"a file of a file":                   {rec{file, fileOf(4, nothing)}, false},
		"a text of 1001":                     {rec{chunk, strings.Repeat("z", 1001)}, false},
	}
}

func directories() map[string]textCase {
	return map[string]textCase{
		"a directory once more":            {rec{dir, inner}, true},
		"a directory of an empty file":     {rec{dir, entry(1, "e", nothing)}, true},
		"a directory of directories":       {rec{dir, entry(2, "a", "") + entry(2, "b", inner)}, true},
		"a name of 16":                     {rec{dir, entry(1, strings.Repeat("n", 16), little)}, true},
		"a name of 17":                     {rec{dir, entry(1, strings.Repeat("n", 17), little)}, false},
		"a name of none":                   {rec{dir, entry(1, "", little)}, false},
		"a name with A":                    {rec{dir, entry(1, "fA", little)}, false},
		"a name with /":                    {rec{dir, entry(1, "f/g", little)}, false},
		"a name with é":                    {rec{dir, entry(1, "é", little)}, false},
		"a name with 0":                    {rec{dir, entry(1, "f\x00", little)}, false},
		"a name with 255":                  {rec{dir, entry(1, "\xff", little)}, false},
		"16 names":                         {rec{dir, names(16)}, true},
		"17 names":                         {rec{dir, names(17)}, false},
		"names by bytes":                   {rec{dir, entry(1, "-", little) + entry(1, ".", little) + entry(1, "0", little) + entry(1, "_", little) + entry(1, "a", little) + entry(1, "a-", little) + entry(1, "aa", little) + entry(1, "b", little)}, true},
		"names that fall":                  {rec{dir, entry(1, "b", little) + entry(1, "a", little)}, false},
		"names that fall at last":          {rec{dir, entry(1, "a", little) + entry(1, "c", little) + entry(1, "b", little)}, false},
		"names by length":                  {rec{dir, entry(1, "b", little) + entry(1, "aa", little)}, false},
		"a name twice":                     {rec{dir, entry(1, "a", little) + entry(1, "a", little)}, false},
		"a name of both kinds":             {rec{dir, entry(1, "a", little) + entry(2, "a", "")}, false},
		"a mark of 0":                      {rec{dir, entry(0, "a", little)}, false},
		"a mark of 3":                      {rec{dir, entry(3, "a", little)}, false},
		"a mark of 255":                    {rec{dir, entry(255, "a", "")}, false},
		"a file that is a directory":       {rec{dir, entry(1, "a", inner)}, false},
		"a directory that is a file":       {rec{dir, entry(2, "a", little)}, false},
		"a directory of a chunk":           {rec{dir, entry(1, "a", full96)}, false},
		"a directory of what is none":      {rec{dir, entry(1, "a", "n")}, false},
		"a directory of a file, then none": {rec{dir, entry(1, "a", little) + entry(2, "b", "n")}, false},
		"a directory of none, then a file": {rec{dir, entry(2, "a", "n") + entry(1, "b", little)}, false},
		"a directory of itself":            {rec{dir, "\x02\x01a" + strings.Repeat("\x00", 32)}, false},
		"a directory with a byte too many": {rec{dir, inner + "\x01"}, false},
		"a directory with two too many":    {rec{dir, inner + "\x01\x01"}, false},
		"a directory with a byte too few":  {rec{dir, inner[:34]}, false},
		"a directory of one byte":          {rec{dir, "\x01"}, false},
		"a directory of a length alone":    {rec{dir, "\x01\xff"}, false},
		"a name longer than the text":      {rec{dir, "\x01\xff" + inner[2:]}, false},
	}
}

func snapshotsAndNoKind() map[string]textCase {
	return map[string]textCase{
		"a snapshot":                     {rec{snap, snapOf(1, inner, "label")}, true},
		"a snapshot of nothing":          {rec{snap, snapOf(1, "", "")}, true},
		"a label of 20":                  {rec{snap, snapOf(1, inner, strings.Repeat("l", 20))}, true},
		"a label of any bytes":           {rec{snap, snapOf(1, inner, "\x00\xff/\n")}, true},
		"a label of 21":                  {rec{snap, snapOf(1, inner, strings.Repeat("l", 21))}, false},
		"a snapshot with a byte too few": {rec{snap, snapOf(1, inner, "")[:35]}, false},
		"a snapshot of a number":         {rec{snap, word(1)}, false},
		"a snapshot without a text":      {rec{snap, ""}, false},
		"snapshot 0":                     {rec{snap, snapOf(0, inner, "")}, false},
		"snapshot 2":                     {rec{snap, snapOf(2, inner, "")}, false},
		"snapshot 2^24":                  {rec{snap, snapOf(1<<24, inner, "")}, false},
		"a snapshot of a file":           {rec{snap, snapOf(1, little, "")}, false},
		"a snapshot of a chunk":          {rec{snap, snapOf(1, one, "")}, false},
		"a snapshot of what is none":     {rec{snap, snapOf(1, "n", "")}, false},
		"kind 0":                         {rec{0, "z"}, false},
		"kind 5":                         {rec{5, "z"}, false},
		"kind 255":                       {rec{255, ""}, false},
	}
}

func TestTextsOfEachKind(t *testing.T) {
	for _, table := range []map[string]textCase{filesAndChunks(), directories(), snapshotsAndNoKind()} {
		for what, c := range table {
			c.holds(t, what)
		}
	}
}

func (c textCase) holds(t *testing.T, what string) {
	t.Helper()
	l := newLayer(100)
	for _, r := range base() {
		l.add(r.kind, r.text)
	}
	want := l.image(100)
	l.add(c.kind, c.text)
	if c.fine {
		want = l.image(100)
	} else {
		l.add(chunk, "behind it") // a right one there does not help
	}
	d := laid(t, l.image(100)...)
	a, err := archive.Mount(d)
	is(t, "P9: Mount", err, nil)
	shows(t, "P7: "+what, d, want...)
	if snapshots := c.fine && c.kind == snap; (len(a.Snapshots()) == 1) != snapshots {
		t.Errorf("P7: %s: snapshots %v", what, a.Snapshots())
	}
	is(t, "P12: Verify", a.Verify(), nil)
}

func TestSnapshotsAreNumberedOneByOne(t *testing.T) {
	for _, c := range []struct {
		numbers []int
		fine    int
	}{{[]int{1, 2, 3}, 3}, {[]int{1, 1}, 1}, {[]int{1, 3}, 1}, {[]int{1, 2, 1}, 2}, {[]int{1, 2, 4}, 2}, {[]int{1, 2, 2, 3}, 2}, {[]int{2, 1}, 0}} {
		list := []rec{{dir, ""}}
		for _, n := range c.numbers {
			list = append(list, rec{snap, snapOf(n, "", "")})
		}
		a, _ := mounted(t, list...)
		if got := len(a.Snapshots()); got != c.fine {
			t.Errorf("P7: of the snapshots %v %d are read, want %d", c.numbers, got, c.fine)
		}
	}
}

// TestASumIsThatOfARecordAhead: the same records, but one behind what says its Sum.
func TestASumIsThatOfARecordAhead(t *testing.T) {
	right := []rec{{chunk, one}, {file, little}, {dir, inner}, {snap, snapOf(1, inner, "")}}
	for i := range 3 {
		list := slices.Clone(right)
		list[i], list[i+1] = list[i+1], list[i]
		want := newLayer(100)
		for _, r := range list[:i] {
			want.add(r.kind, r.text)
		}
		_, d := mounted(t, list...)
		shows(t, "P7: a Sum of what stands behind it", d, want.image(100)...)
	}
}

// nested: a directory in a directory, so many times, around one; the last is the outermost.
func nested(times int, text string) []rec {
	list := []rec{{dir, text}}
	for range times {
		text = entry(2, "d", text)
		list = append(list, rec{dir, text})
	}
	return list
}

func TestSnapshotsOfDeepDirectories(t *testing.T) {
	for _, c := range []struct {
		list []rec
		fine bool
	}{
		{nested(8, ""), true}, {nested(9, ""), false}, {nested(10, ""), false}, {nested(60, ""), false},
		{append(base(), nested(7, inner)...), true}, {append(base(), nested(8, inner)...), false},
		{append(append(base(), nested(7, inner)...), rec{dir, entry(1, "a", little) + entry(2, "b", nested(7, inner)[6].text) + entry(2, "c", "")}), true},
		{append(append(base(), nested(7, inner)...), rec{dir, entry(1, "a", little) + entry(2, "b", nested(7, inner)[7].text) + entry(2, "c", "")}), false},
	} {
		last := c.list[len(c.list)-1].text
		a, d := mounted(t, append(c.list, rec{snap, snapOf(1, last, "")})...)
		if got := len(a.Snapshots()) == 1; got != c.fine {
			t.Errorf("P7: a snapshot behind %d records: %v, want %v", len(c.list), got, c.fine)
		}
		l := newLayer(100)
		for _, r := range c.list {
			l.add(r.kind, r.text)
		}
		if c.fine {
			l.add(snap, snapOf(1, last, ""))
		}
		shows(t, "P7: a directory may be deeper than a snapshot", d, l.image(100)...)
	}
}

// wide: 15 directories of 16 names, and more names beside them.
func wide(more ...string) []rec {
	list := append(base(), rec{dir, names(16)})
	text := ""
	for i := range 15 {
		text += entry(2, fmt.Sprintf("d%02d", i), names(16))
	}
	return append(list, rec{dir, text + strings.Join(more, "")})
}

func TestSnapshotsOfManyNames(t *testing.T) {
	for _, c := range []struct {
		list []rec
		fine bool
	}{
		{wide(), true}, {wide(entry(1, "e", little)), true}, {wide(entry(2, "e", "")), true}, {wide(entry(2, "e", inner)), false},
		{append(wide(entry(1, "e", little)), rec{dir, entry(2, "a", wide(entry(1, "e", little))[7].text)}), false},
		{append(wide(), rec{dir, entry(2, "a", wide()[7].text)}), true},
	} {
		last := c.list[len(c.list)-1].text
		a, _ := mounted(t, append(c.list, rec{snap, snapOf(1, last, "")})...)
		if got := len(a.Snapshots()) == 1; got != c.fine {
			t.Errorf("P7: a snapshot of many names: %v, want %v", got, c.fine)
		}
	}
}

// TestNamesThatDoubleWithEachRecord: more of them than any number holds, within few records.
func TestNamesThatDoubleWithEachRecord(t *testing.T) {
	for _, times := range []int{1, 2, 6, 7, 8, 9, 31, 32, 63, 64, 65} {
		text := ""
		list := []rec{{dir, text}}
		for range times {
			text = entry(2, "a", text) + entry(2, "b", text)
			list = append(list, rec{dir, text})
		}
		l := newLayer(200)
		for _, r := range list {
			l.add(r.kind, r.text)
		}
		l.add(snap, snapOf(1, text, ""))
		a, err := archive.Mount(laid(t, l.image(200)...))
		is(t, "P9: Mount", err, nil)
		if got, want := len(a.Snapshots()) == 1, times <= 7; got != want { // 2 + 4 + .. + 2^n names
			t.Errorf("P7: a snapshot of %d directories of two names: %v, want %v", times, got, want)
		}
	}
}

// kept is a disk with two snapshots, and where its records begin.
func kept(sectors int) (*layer, []int) {
	l := newLayer(sectors)
	var starts []int
	for _, r := range append(base(), rec{snap, snapOf(1, inner, "one")}, rec{file, fileOf(97, full96, one)}, rec{dir, entry(1, "g", fileOf(97, full96, one))}, rec{snap, snapOf(2, entry(1, "g", fileOf(97, full96, one)), "two")}) {
		starts = append(starts, l.add(r.kind, r.text))
	}
	return l, append(starts, len(l.sectors))
}

// TestMountEndsAheadOfDamage: whichever byte of a record is another one, its 0 at the end too.
func TestMountEndsAheadOfDamage(t *testing.T) {
	l, starts := kept(20)
	right := l.image(20)
	for i, from := range starts[:len(starts)-1] {
		for at := from; at < starts[i+1]; at++ {
			for place := range 64 {
				data := []byte(right[at])
				data[place] ^= 1 << (place % 8)
				wrong := slices.Clone(right)
				wrong[at] = string(data)
				d := laid(t, wrong...)
				a, err := archive.Mount(d)
				is(t, "P9: Mount", err, nil)
				shows(t, fmt.Sprintf("P9: byte %d of sector %d is wrong", place, at), d, (&layer{sectors: right[:from]}).image(20)...)
				if got, want := len(a.Snapshots()), min(1, max(0, i-6)); got != want {
					t.Errorf("P9: byte %d of sector %d is wrong: %d snapshots, want %d", place, at, got, want)
				}
				waits(t, d, 0)
			}
		}
	}
}

func TestMountOfADiskOfRecords(t *testing.T) {
	_, starts := kept(20)
	end := starts[len(starts)-1]
	for sectors := end; sectors <= end+2; sectors++ {
		l, _ := kept(sectors)
		d := laid(t, l.image(sectors)...)
		d.Fuse(2)
		a, err := archive.Mount(d)
		is(t, "P9: Mount", err, nil)
		is(t, "P9: Mount has one operation", d.Flush(), archive.ErrDown)
		root := entry(1, "g", fileOf(97, full96, one))
		want := []archive.Info{{Number: 1, Label: "one", Root: sum(inner)}, {Number: 2, Label: "two", Root: sum(root)}}
		if got := a.Snapshots(); !slices.Equal(got, want) {
			t.Errorf("P9: snapshots %v, want %v", got, want)
		}
		lists(t, a, 0, "", []archive.Entry{{Name: "g", Size: 97}}, nil)
		reads(t, a, 0, "g", full96+one, nil)
		reads(t, a, 0, "f", "", archive.ErrNone)
		reads(t, a, 1, "f", one, nil)
		reads(t, a, 2, "g", full96+one, nil)
	}
}

// TestARecordBeyondTheDisk: of the last record no more than the first sectors stand there.
func TestARecordBeyondTheDisk(t *testing.T) {
	for _, c := range []struct {
		rec
		sectors int
	}{{rec{chunk, full96[:53]}, 1}, {rec{chunk, full96[:54]}, 2}, {rec{chunk, full96}, 2}, {rec{dir, names(16)}, 10}} {
		for room := 1; room <= c.sectors; room++ {
			sectors := 8 + room // the head and the records of base have 8
			l := newLayer(sectors)
			for _, r := range base() {
				l.add(r.kind, r.text)
			}
			want := l.image(sectors)
			l.add(c.kind, c.text)
			all := l.image(sectors)[:sectors]
			if room == c.sectors {
				want = all
			}
			d := laid(t, all...)
			a, err := archive.Mount(d)
			is(t, "P9: Mount", err, nil)
			shows(t, fmt.Sprintf("P9: a record of %d sectors, %d are there", c.sectors, room), d, want...)
			is(t, "P12: Verify", a.Verify(), nil)
		}
	}
}

func TestMountWipesBehindTheLastRecord(t *testing.T) {
	l, starts := kept(20)
	end := starts[len(starts)-1]
	dirty := l.image(20)
	dirty[end+1], dirty[19] = full("a"), full("b")
	d := laid(t, dirty...)
	for fuse := 1; fuse <= 3; fuse++ {
		d.Fuse(fuse)
		refused(t, "P9: Mount of a disk that goes down", d, archive.ErrDown)
		waits(t, d, fuse-1)
		d.Crash()
		shows(t, "P9: nothing is safe ahead of Flush", d, dirty...)
	}
	d.Fuse(4)
	_, err := archive.Mount(d)
	is(t, "P9: Mount in three operations", err, nil)
	is(t, "P9: the fourth operation", d.Flush(), archive.ErrDown)
	d.Crash()
	shows(t, "P9: Mount", d, l.image(20)...)
	d.Fuse(1)
	refused(t, "P9: Mount of a disk that goes down", d, archive.ErrDown)
}

// TestRecordsOfOldNumbersAreNone: behind a shorter archive the records of an older one stand at the right places, but hang on others.
func TestRecordsOfOldNumbersAreNone(t *testing.T) {
	old, now := newLayer(20), newLayer(20)
	old.add(chunk, "a")
	now.add(chunk, "b")
	old.add(chunk, "c")
	list := now.image(20)
	list[2] = old.sectors[2]
	d := laid(t, list...)
	_, err := archive.Mount(d)
	is(t, "P9: Mount", err, nil)
	shows(t, "P7: a CRC hangs on the record ahead", d, now.image(20)...)

	swapped := newLayer(20)
	swapped.number = 1
	swapped.add(chunk, "a")
	d = laid(t, swapped.image(20)...)
	_, err = archive.Mount(d)
	is(t, "P9: Mount", err, nil)
	shows(t, "P7: numbers begin with 1", d, newLayer(20).image(20)...)

	other := newLayer(21)
	other.add(chunk, "a")
	list = other.image(20)
	list[0] = first("archive1", 20)
	d = laid(t, list...)
	_, err = archive.Mount(d)
	is(t, "P9: Mount", err, nil)
	shows(t, "P7: the first record's CRC hangs on sector 0", d, newLayer(20).image(20)...)
}

func TestTheGreatestDisk(t *testing.T) {
	l := newLayer(4096)
	l.add(dir, "")
	for i := 1; len(l.sectors) < 4096; i++ {
		l.add(snap, snapOf(i, "", ""))
	}
	d := laid(t, l.sectors...)
	a, err := archive.Mount(d)
	is(t, "P9: Mount", err, nil)
	if got := a.Snapshots(); len(got) != 4094 || got[4093].Number != 4094 {
		t.Errorf("P9: %d snapshots, want 4094", len(got))
	}
	lists(t, a, 4094, "", nil, nil)
	_, err = a.Snapshot("")
	is(t, "P10: Snapshot", err, archive.ErrFull)
	shows(t, "P10: behind ErrFull", d, l.sectors...)
}
