package archive_test

import (
	"errors"
	"fmt"
	"math"
	"math/rand"
	"slices"
	"strings"
	"testing"

	"stow/archive"
)

// fresh is an archive on which nothing is kept.
func fresh(t *testing.T) *archive.Archive {
	t.Helper()
	d := archive.NewDisk(8)
	if err := archive.Format(d); err != nil {
		t.Fatal("P8: Format:", err)
	}
	a, err := archive.Mount(d)
	if err != nil || a == nil {
		t.Fatal("P9: Mount:", a, err)
	}
	return a
}

// is holds what a call answered against a reason (nil: none): that one, and no other.
func is(t *testing.T, what string, got, want error) {
	t.Helper()
	if want == nil {
		if got != nil {
			t.Errorf("%s: %v", what, got)
		}
		return
	}
	for _, reason := range reasons() {
		if errors.Is(got, reason) != (reason == want) {
			t.Errorf("%s: %v, want %v", what, got, want)
			return
		}
	}
}

func reads(t *testing.T, a *archive.Archive, n int, path, data string, want error) {
	t.Helper()
	got, err := a.Read(n, path)
	is(t, fmt.Sprintf("P11: Read(%d, %q)", n, path), err, want)
	if got != data {
		t.Errorf("P11: Read(%d, %q): %d bytes %.20q, want %d bytes %.20q", n, path, len(got), got, len(data), data)
	}
}

// told goes over a list to its end; an error is told once, with an empty Entry, and nothing else is.
func told(t *testing.T, a *archive.Archive, n int, path string) ([]archive.Entry, error) {
	t.Helper()
	var list []archive.Entry
	var errs []error
	for entry, err := range a.List(n, path) {
		if err == nil {
			list = append(list, entry)
			continue
		}
		errs = append(errs, err)
		if entry != (archive.Entry{}) {
			t.Errorf("P11: List(%d, %q) tells %v beside an error", n, path, entry)
		}
	}
	if len(errs) > 1 || len(errs) == 1 && len(list) > 0 {
		t.Errorf("P11: List(%d, %q) tells %v beside the errors %v", n, path, list, errs)
	}
	return list, errors.Join(errs...)
}

func lists(t *testing.T, a *archive.Archive, n int, path string, want []archive.Entry, why error) {
	t.Helper()
	got, err := told(t, a, n, path)
	is(t, fmt.Sprintf("P11: List(%d, %q)", n, path), err, why)
	if !slices.Equal(got, want) {
		t.Errorf("P11: List(%d, %q): %v, want %v", n, path, got, want)
	}
}

// wrongPaths: none of them is a path.
func wrongPaths() []string {
	return []string{
		"/", "//", "/a", "a/", "a//b", "a/b/", "A", "a/B", "é", "a\u00e9", "ａ", "\u0430", "a b", " a", "a ", "a\x00", "\xff", "a/\xc3", "a\\b", "a+b", "a:b", "~", "`", "{", "@", "[", ",", "a\n",
		strings.Repeat("n", 17), "a/" + strings.Repeat("n", 17), strings.Repeat("n", 17) + "/a", strings.Repeat("a/", 8) + "a", strings.Repeat("a/", 8), strings.Repeat("/", 100000), strings.Repeat("a/", 100000) + "a", strings.Repeat("n", 100000),
	}
}

func TestWrongPaths(t *testing.T) {
	a := fresh(t)
	is(t, "Write", a.Write("a", "x"), nil)
	for _, path := range wrongPaths() {
		what := fmt.Sprintf("P5: %.40q", path)
		is(t, what+": Write", a.Write(path, "x"), archive.ErrPath)
		is(t, what+": Write of too much", a.Write(path, strings.Repeat("x", 1537)), archive.ErrPath)
		is(t, what+": Mkdir", a.Mkdir(path), archive.ErrPath)
		is(t, what+": Remove", a.Remove(path), archive.ErrPath)
		for _, n := range []int{0, 1, -1} {
			reads(t, a, n, path, "", archive.ErrPath)
			lists(t, a, n, path, nil, archive.ErrPath)
		}
	}
	is(t, "P6: Write of the root", a.Write("", "x"), archive.ErrPath)
	is(t, "P6: Write of the root, of too much", a.Write("", strings.Repeat("x", 1537)), archive.ErrPath)
	is(t, "P6: Mkdir of the root", a.Mkdir(""), archive.ErrPath)
	is(t, "P6: Remove of the root", a.Remove(""), archive.ErrPath)
	lists(t, a, 0, "", []archive.Entry{{Name: "a", Size: 1}}, nil)
}

func TestBytesOfNames(t *testing.T) {
	const fine = "abcdefghijklmnopqrstuvwxyz0123456789._-"
	for b := range 256 {
		for _, name := range []string{string([]byte{byte(b)}), string([]byte{'a', byte(b), 'z'})} {
			a := fresh(t)
			want := archive.ErrPath
			if strings.IndexByte(fine, byte(b)) >= 0 {
				want = nil
			}
			if b == '/' && len(name) == 3 {
				want = archive.ErrNone
			}
			is(t, fmt.Sprintf("P5: Write(%q)", name), a.Write(name, "x"), want)
		}
	}
}

func TestLongestPaths(t *testing.T) {
	a := fresh(t)
	name := strings.Repeat("n", 16)
	path := name
	for range 7 {
		is(t, "P5: Mkdir of "+path, a.Mkdir(path), nil)
		path += "/" + name
	}
	is(t, "P5: Write of eight names", a.Write(path, "deep"), nil)
	reads(t, a, 0, path, "deep", nil)
	is(t, "P5: Remove of eight names", a.Remove(path), nil)
	is(t, "P5: Mkdir of eight names", a.Mkdir(path), nil)
	lists(t, a, 0, path, nil, nil)
	is(t, "P5: Mkdir of nine names", a.Mkdir(path+"/a"), archive.ErrPath)
	is(t, "P5: Write of nine names", a.Write(path+"/a", ""), archive.ErrPath)
	for _, name := range []string{".", "..", "-", "_", "0", "...", "._-09az"} {
		is(t, "P5: Write of "+name, a.Write(name, name), nil)
		reads(t, a, 0, name, name, nil)
	}
}

func TestExample5(t *testing.T) {
	a := fresh(t)
	is(t, "P6: Write below nothing", a.Write("a/b", ""), archive.ErrNone)
	is(t, "P6: Write", a.Write("a", "x"), nil)
	is(t, "P6: Mkdir of a file", a.Mkdir("a"), archive.ErrAgain)
	is(t, "P6: Write below a file", a.Write("a/b", "y"), archive.ErrKind)
	is(t, "P6: Remove of the root", a.Remove(""), archive.ErrPath)
	lists(t, a, 0, "", []archive.Entry{{Name: "a", Size: 1}}, nil)
	reads(t, a, 0, "a", "x", nil)
}

func TestGoingThroughNames(t *testing.T) {
	a := fresh(t)
	is(t, "Mkdir", a.Mkdir("d"), nil)
	is(t, "Write", a.Write("d/f", "x"), nil)
	for path, want := range map[string]error{
		"d/f/x": archive.ErrKind, "d/f/x/y": archive.ErrKind, "d/f/x/y/z": archive.ErrKind, "n/x": archive.ErrNone, "d/n/x": archive.ErrNone, "d/n/f/x": archive.ErrNone, "f/x": archive.ErrNone,
	} {
		is(t, "P6: Write of "+path, a.Write(path, "y"), want)
		is(t, "P6: Mkdir of "+path, a.Mkdir(path), want)
		is(t, "P6: Remove of "+path, a.Remove(path), want)
		reads(t, a, 0, path, "", want)
		lists(t, a, 0, path, nil, want)
	}
	is(t, "P6: Remove of nothing", a.Remove("d/n"), archive.ErrNone)
	reads(t, a, 0, "n", "", archive.ErrNone)
	reads(t, a, 0, "d", "", archive.ErrKind)
	reads(t, a, 0, "", "", archive.ErrKind)
	lists(t, a, 0, "n", nil, archive.ErrNone)
	lists(t, a, 0, "d/f", nil, archive.ErrKind)
	lists(t, a, 0, "", []archive.Entry{{Name: "d", Dir: true}}, nil)
	lists(t, a, 0, "d", []archive.Entry{{Name: "f", Size: 1}}, nil)
}

func TestWriteTakesThePlaceOfAFileAlone(t *testing.T) {
	a := fresh(t)
	for _, data := range []string{"", "x", strings.Repeat("q", 1536), "\x00\xff", ""} {
		is(t, "P6: Write", a.Write("f", data), nil)
		reads(t, a, 0, "f", data, nil)
		lists(t, a, 0, "", []archive.Entry{{Name: "f", Size: len(data)}}, nil)
	}
	is(t, "P6: Write", a.Write("f", "kept"), nil)
	is(t, "P6: Write of too much", a.Write("f", strings.Repeat("q", 1537)), archive.ErrBig)
	is(t, "P6: Write of too much below a file", a.Write("f/g", strings.Repeat("q", 1537)), archive.ErrBig)
	is(t, "P6: Write of too much below nothing", a.Write("n/g", strings.Repeat("q", 100000)), archive.ErrBig)
	reads(t, a, 0, "f", "kept", nil)
	is(t, "P6: Mkdir", a.Mkdir("d"), nil)
	is(t, "P6: Write of a directory", a.Write("d", "x"), archive.ErrKind)
	is(t, "P6: Mkdir of a directory", a.Mkdir("d"), archive.ErrAgain)
	lists(t, a, 0, "", []archive.Entry{{Name: "d", Dir: true}, {Name: "f", Size: 4}}, nil)
}

func TestRemove(t *testing.T) {
	a := fresh(t)
	is(t, "P6: Mkdir", a.Mkdir("d"), nil)
	is(t, "P6: Mkdir", a.Mkdir("d/e"), nil)
	is(t, "P6: Write", a.Write("d/f", ""), nil)
	is(t, "P6: Remove of a directory with two names", a.Remove("d"), archive.ErrBusy)
	is(t, "P6: Remove of a file", a.Remove("d/f"), nil)
	reads(t, a, 0, "d/f", "", archive.ErrNone)
	is(t, "P6: Remove of a directory with a directory", a.Remove("d"), archive.ErrBusy)
	is(t, "P6: Remove of an empty directory", a.Remove("d/e"), nil)
	is(t, "P6: Remove of a directory that is empty again", a.Remove("d"), nil)
	is(t, "P6: Remove once more", a.Remove("d"), archive.ErrNone)
	is(t, "P6: a file where a directory stood", a.Write("d", "x"), nil)
	is(t, "P6: Remove", a.Remove("d"), nil)
	lists(t, a, 0, "", nil, nil)
}

// letters: as many names as a directory may have.
const letters = "abcdefghijklmnop"

func TestDirectoryHasRoomFor16(t *testing.T) {
	for _, dir := range []string{"", "d/"} {
		a := fresh(t)
		is(t, "Mkdir", a.Mkdir("d"), nil)
		for _, r := range letters {
			if dir == "" && r == 'd' {
				continue
			}
			is(t, "P6: Write of one of 16", a.Write(dir+string(r), ""), nil)
		}
		is(t, "P6: Write of one of 17", a.Write(dir+"q", ""), archive.ErrMany)
		is(t, "P6: Mkdir of one of 17", a.Mkdir(dir+"q"), archive.ErrMany)
		is(t, "P6: Write of too much, one of 17", a.Write(dir+"q", strings.Repeat("x", 1537)), archive.ErrBig)
		is(t, "P6: Write of one that stands there", a.Write(dir+"a", "new"), nil)
		reads(t, a, 0, dir+"a", "new", nil)
		is(t, "P6: Mkdir of one that stands there", a.Mkdir(dir+"a"), archive.ErrAgain)
		is(t, "P6: Remove of none", a.Remove(dir+"q"), archive.ErrNone)
		is(t, "P6: Remove of one of 16", a.Remove(dir+"p"), nil)
		is(t, "P6: Mkdir in its room", a.Mkdir(dir+"q"), nil)
		is(t, "P6: Write of a directory in a full one", a.Write(dir+"q", ""), archive.ErrKind)
		is(t, "P6: Write below it", a.Write(dir+"q/a", ""), nil)
	}
}

func TestTreeHasRoomFor256(t *testing.T) {
	a := fresh(t)
	for _, r := range letters[:15] {
		is(t, "Mkdir", a.Mkdir(string(r)), nil)
		for _, s := range letters {
			is(t, "Write", a.Write(string(r)+"/"+string(s), ""), nil)
		}
	}
	is(t, "P6: Mkdir of the 256th", a.Mkdir("p"), nil)
	is(t, "P6: Write of the 257th", a.Write("p/a", ""), archive.ErrMany)
	is(t, "P6: Mkdir of the 257th", a.Mkdir("p/a"), archive.ErrMany)
	is(t, "P6: Write of one of 256", a.Write("a/a", "x"), nil)
	is(t, "P6: Mkdir of one of 256", a.Mkdir("a/a"), archive.ErrAgain)
	is(t, "P6: Write of a directory", a.Write("p", "x"), archive.ErrKind)
	lists(t, a, 0, "p", nil, nil)
	is(t, "P6: Remove", a.Remove("a/b"), nil)
	is(t, "P6: Mkdir in its room", a.Mkdir("p/a"), nil)
	is(t, "P6: Write of the 257th", a.Write("p/a/a", ""), archive.ErrMany)
}

func TestListIsInOrder(t *testing.T) {
	a := fresh(t)
	names := []string{"z", "a10", "a2", "a", "_", "-", ".", "0", "a-", "a.", "a_", "9", "zz", "b"}
	for i, name := range names {
		if i%3 == 0 {
			is(t, "Mkdir", a.Mkdir(name), nil)
		} else {
			is(t, "Write", a.Write(name, strings.Repeat("x", i)), nil)
		}
	}
	want := []archive.Entry{}
	for i, name := range names {
		want = append(want, archive.Entry{Name: name, Dir: i%3 == 0, Size: min(i%3, 1) * i})
	}
	slices.SortFunc(want, func(x, y archive.Entry) int { return strings.Compare(x.Name, y.Name) })
	for range 5 { // the order of a map changes from time to time
		lists(t, a, 0, "", want, nil)
	}
}

func TestListEndsWhenNoMoreIsWanted(t *testing.T) {
	a := fresh(t)
	for _, r := range letters {
		is(t, "Write", a.Write(string(r), ""), nil)
	}
	for most := 1; most <= 17; most++ {
		told := ""
		a.List(0, "")(func(entry archive.Entry, err error) bool {
			told += entry.Name
			return len(told) != most
		})
		if want := letters[:min(most, 16)]; told != want {
			t.Errorf("P11: of %d wanted List tells %q, want %q", most, told, want)
		}
	}
	for _, path := range []string{"a", "n", "A"} {
		for _, more := range []bool{true, false} {
			times := 0
			a.List(0, path)(func(archive.Entry, error) bool { times++; return more })
			if times != 1 {
				t.Errorf("P11: List of %q tells its error %d times", path, times)
			}
		}
	}
	a.List(0, "")(nil)
	a.List(0, "A")(nil)
}

func TestListWhileTheTreeChanges(t *testing.T) {
	a := fresh(t)
	for _, r := range letters {
		is(t, "Write", a.Write(string(r), ""), nil)
	}
	seen := ""
	for entry, err := range a.List(0, "") {
		is(t, "P11: List", err, nil)
		is(t, "P6: Remove of what is told", a.Remove(entry.Name), nil)
		is(t, "P6: Mkdir while it is told", a.Mkdir("new"+entry.Name), nil)
		seen += entry.Name
	}
	if seen != letters {
		t.Errorf("P11: List tells %q, want %q", seen, letters)
	}
	again := a.List(0, "newa")
	for range 2 {
		for entry, err := range again {
			t.Error("P11: an empty directory has", entry, err)
		}
	}
}

func TestNoSnapshotIsThereYet(t *testing.T) {
	a := fresh(t)
	is(t, "Write", a.Write("f", "x"), nil)
	for _, n := range []int{1, -1, 2, math.MaxInt, math.MinInt} {
		for _, path := range []string{"", "f", "n", "f/x"} {
			reads(t, a, n, path, "", archive.ErrNone)
			lists(t, a, n, path, nil, archive.ErrNone)
		}
	}
	if list := a.Snapshots(); len(list) != 0 {
		t.Errorf("P10: snapshots of an empty archive: %v", list)
	}
	is(t, "P12: Verify", a.Verify(), nil)
}

func TestArchivesAreApart(t *testing.T) {
	d := archive.NewDisk(4)
	is(t, "P8: Format", archive.Format(d), nil)
	a, err := archive.Mount(d)
	is(t, "P9: Mount", err, nil)
	b, err := archive.Mount(d)
	is(t, "P9: Mount", err, nil)
	is(t, "P6: Write", a.Write("f", "x"), nil)
	is(t, "P6: Mkdir", b.Mkdir("f"), nil)
	lists(t, a, 0, "", []archive.Entry{{Name: "f", Size: 1}}, nil)
	lists(t, b, 0, "", []archive.Entry{{Name: "f", Dir: true}}, nil)
	waits(t, d, 0)
	holds(t, d, 1, empty)
}

// paths is a tree as P5 and P6 word it: what stands at each path; a directory's text is "/".
type paths struct{ there map[string]string }

func (p paths) below(dir string) int {
	n := 0
	for path := range p.there {
		if rest, ok := strings.CutPrefix(path, dir); ok && rest != "" && !strings.Contains(rest, "/") {
			n++
		}
	}
	return n
}

// above: why a path can't be gone through up to its last name; the directory of that, with a / behind it.
func (p paths) above(path string) (string, error) {
	names := strings.Split(path, "/")
	dir := ""
	for _, name := range names[:len(names)-1] {
		switch data, ok := p.there[dir+name]; {
		case !ok:
			return "", archive.ErrNone
		case data != "/":
			return "", archive.ErrKind
		}
		dir += name + "/"
	}
	return dir, nil
}

func (p paths) put(path, data string) error {
	dir, err := p.above(path)
	if err != nil {
		return err
	}
	old, ok := p.there[path]
	switch {
	case ok && data == "/":
		return archive.ErrAgain
	case ok && old == "/":
		return archive.ErrKind
	case !ok && (p.below(dir) == 16 || len(p.there) == 256):
		return archive.ErrMany
	}
	p.there[path] = data
	return nil
}

func (p paths) remove(path string) error {
	if _, err := p.above(path); err != nil {
		return err
	}
	if _, ok := p.there[path]; !ok {
		return archive.ErrNone
	}
	if p.below(path+"/") > 0 {
		return archive.ErrBusy
	}
	delete(p.there, path)
	return nil
}

func (p paths) entries(dir string) []archive.Entry {
	var list []archive.Entry
	for path, data := range p.there {
		if rest, ok := strings.CutPrefix(path, dir); ok && !strings.Contains(rest, "/") {
			list = append(list, archive.Entry{Name: rest, Dir: data == "/", Size: len(strings.TrimPrefix(data, "/"))})
		}
	}
	slices.SortFunc(list, func(x, y archive.Entry) int { return strings.Compare(x.Name, y.Name) })
	return list
}

func TestTreeIsAsItsModel(t *testing.T) {
	r := rand.New(rand.NewSource(6))
	for round := range 40 {
		a, p := fresh(t), paths{map[string]string{}}
		names, remove := 2+r.Intn(17), 1+r.Intn(5)
		for range 1500 {
			list := make([]string, 1+r.Intn(4))
			for i := range list {
				list[i] = string(rune('a' + r.Intn(names)))
			}
			path := strings.Join(list, "/")
			switch k := r.Intn(10); {
			case k < remove:
				is(t, "P6: Remove("+path+")", a.Remove(path), p.remove(path))
			case k < 7:
				is(t, "P6: Mkdir("+path+")", a.Mkdir(path), p.put(path, "/"))
			default:
				data := strings.Repeat("x", r.Intn(5))
				is(t, "P6: Write("+path+")", a.Write(path, data), p.put(path, data))
			}
		}
		lists(t, a, 0, "", p.entries(""), nil)
		for path, data := range p.there {
			if data == "/" {
				lists(t, a, 0, path, p.entries(path+"/"), nil)
				reads(t, a, 0, path, "", archive.ErrKind)
			} else {
				reads(t, a, 0, path, data, nil)
				lists(t, a, 0, path, nil, archive.ErrKind)
			}
		}
		if t.Failed() {
			t.Fatal("in round", round)
		}
	}
}
