// Package archive: snapshots of trees of files, on a disk of sectors: see DOC.md.
package archive

import (
	"errors"
	"strconv"
	"strings"

	"stow/sums"
)

// Why something is refused: asked with errors.Is.
var (
	ErrArg     = errors.New("an argument that may not be")
	ErrDown    = errors.New("the disk is down")
	ErrFormat  = errors.New("no archive is there")
	ErrCorrupt = errors.New("damage")
	ErrPath    = errors.New("a path that may not be")
	ErrNone    = errors.New("it is not there")
	ErrKind    = errors.New("it is of the other kind")
	ErrAgain   = errors.New("it is there already")
	ErrBusy    = errors.New("it is not empty")
	ErrMany    = errors.New("no room in a directory")
	ErrBig     = errors.New("too many bytes")
	ErrFull    = errors.New("the disk is full")
)

// Fault is a reason and at which sector: asked with errors.As (for a *Fault).
type Fault struct {
	At  int
	Err error
}

func (f *Fault) Error() string {
	if f == nil {
		return "no fault"
	}
	return reasonText(f.Err) + " at sector " + strconv.Itoa(f.At)
}

func (f *Fault) Unwrap() error {
	if f == nil {
		return nil
	}
	return f.Err
}

// reasonText asks none but the package's own reasons: another error might panic, or wrap itself and never end.
func reasonText(err error) string {
	for _, reason := range []error{ErrArg, ErrDown, ErrFormat, ErrCorrupt, ErrPath, ErrNone, ErrKind, ErrAgain, ErrBusy, ErrMany, ErrBig, ErrFull} {
		if err == reason {
			return reason.Error()
		}
	}
	return "a fault"
}

// Info tells a snapshot (P10).
type Info struct {
	Number int
	Label  string
	Root   string
}

// Entry tells what stands in a directory (P11).
type Entry struct {
	Name string
	Dir  bool
	Size int
}

// Sum tells the 32 bytes of a text's SHA-256 (P3).
func Sum(text string) string {
	sum := sums.Of(text)
	return string(sum[:])
}

// CRC tells the CRC-32 of a text (P3).
func CRC(text string) uint32 { return sums.CRC(text) }

// Archive is a tree, and its snapshots on a disk.
type Archive struct {
	root      *node // of the tree
	disk      *Disk
	objects   objects        // those that were read, or written for a snapshot that succeeded
	snapshots []snapshotText // as they were read or written
	end       tail           // of the records
	down      bool           // was a Snapshot ErrDown?
}

// Write puts a file into the tree (P6).
func (a *Archive) Write(path, data string) error {
	names, err := below(path)
	if err != nil {
		return err
	}
	if len(data) > mostBytes {
		return ErrBig
	}
	dir, name, err := a.root.above(names)
	if err != nil {
		return err
	}
	there, ok := dir.names[name]
	if ok && there.isDirectory() {
		return ErrKind
	}
	if !ok && a.isFull(dir) {
		return ErrMany
	}
	dir.put(name, newFile(data))
	return nil
}

// Mkdir puts a directory into the tree (P6).
func (a *Archive) Mkdir(path string) error {
	dir, name, err := a.place(path)
	if err != nil {
		return err
	}
	if _, ok := dir.names[name]; ok {
		return ErrAgain
	}
	if a.isFull(dir) {
		return ErrMany
	}
	dir.put(name, newDirectory())
	return nil
}

// Remove takes something out of the tree (P6).
func (a *Archive) Remove(path string) error {
	dir, name, err := a.place(path)
	if err != nil {
		return err
	}
	there, ok := dir.names[name]
	if !ok {
		return ErrNone
	}
	if len(there.names) > 0 {
		return ErrBusy
	}
	delete(dir.names, name)
	return nil
}

// place finds, in the tree, the directory of a path's last name, and that name (P6).
func (a *Archive) place(path string) (*node, string, error) {
	names, err := below(path)
	if err != nil {
		return nil, "", err
	}
	return a.root.above(names)
}

// isFull: has a directory of the tree, or all of the tree, no room for one more name?
func (a *Archive) isFull(dir *node) bool {
	return len(dir.names) >= mostInDirectory || a.root.count() >= mostInTree
}

// Snapshot keeps the tree as it is (P10).
func (a *Archive) Snapshot(label string) (int, error) {
	if a.down {
		return 0, ErrDown
	}
	if len(label) > longestLabel {
		return 0, ErrBig
	}
	w := newDraft(a.objects, a.end)
	root := w.directory(a.root)
	last := snapshotText{number: uint32(len(a.snapshots) + 1), root: root, label: strings.Clone(label)}
	data, behind := w.end.with(snapshotKind, last.text())
	if behind.at > a.disk.Sectors() {
		return 0, ErrFull
	}
	if err := a.keep(w, data); err != nil {
		a.down = true
		return 0, err
	}
	a.objects.add(w.added)
	a.snapshots = append(a.snapshots, last)
	a.end = behind
	return len(a.snapshots), nil
}

// keep writes what a snapshot needs, and only when that is safe the record that says it is there.
func (a *Archive) keep(w *draft, last string) error {
	if w.data.Len() > 0 {
		if err := lay(a.disk, a.end.at, w.data.String()); err != nil {
			return err
		}
	}
	return lay(a.disk, w.end.at, last)
}

// Snapshots tells all (P10).
func (a *Archive) Snapshots() []Info {
	var list []Info
	for _, s := range a.snapshots {
		list = append(list, Info{Number: int(s.number), Label: s.label, Root: string(s.root[:])})
	}
	return list
}

// Read tells a file of a snapshot, or of the tree (P11).
func (a *Archive) Read(n int, path string) (string, error) {
	names, err := split(path)
	if err != nil {
		return "", err
	}
	if n != 0 {
		return a.readKept(n, names)
	}
	there, err := a.root.find(names)
	if err != nil {
		return "", err
	}
	if there.isDirectory() {
		return "", ErrKind
	}
	return there.data, nil
}

// List tells what stands in a directory of a snapshot, or of the tree (P11).
func (a *Archive) List(n int, path string) func(yield func(Entry, error) bool) {
	return func(yield func(Entry, error) bool) {
		if yield == nil {
			return
		}
		entries, err := a.entries(n, path) // all of them first: yield may change the tree, and an error stands alone
		if err != nil {
			yield(Entry{}, err)
			return
		}
		for _, entry := range entries {
			if !yield(entry, nil) {
				return
			}
		}
	}
}

func (a *Archive) entries(n int, path string) ([]Entry, error) {
	names, err := split(path)
	if err != nil {
		return nil, err
	}
	if n != 0 {
		return a.listKept(n, names)
	}
	there, err := a.root.find(names)
	if err != nil {
		return nil, err
	}
	if !there.isDirectory() {
		return nil, ErrKind
	}
	return there.entries(), nil
}

// Verify looks for damage (P12).
func (a *Archive) Verify() error {
	var first error
	at := a.disk.Sectors() // where the damage stands that was found so far: behind all
	for i, all := range a.objects {
		for sum, there := range all {
			if there.at > at {
				continue
			}
			if _, err := a.text(kind(i), sum); err != nil {
				first, at = err, there.at
			}
		}
	}
	return first
}
