package archive

import (
	"maps"

	"stow/sums"
)

// object is where a chunk, a file or a directory stands on the disk.
type object struct {
	at   int // its record's first sector
	size int // of its text
}

// objects: of each kind, by their Sums. (A chunk and a file may say the same bytes.)
type objects [snapshotKind]map[sums.Sum]object

func newObjects() objects {
	var all objects
	for kind := range all {
		all[kind] = map[sums.Sum]object{}
	}
	return all
}

func (o objects) has(kind kind, sum sums.Sum) bool {
	_, ok := o[kind][sum]
	return ok
}

// put takes in an object, but of several of one kind with one Sum the first alone.
func (o objects) put(kind kind, sum sums.Sum, there object) {
	if !o.has(kind, sum) {
		o[kind][sum] = there
	}
}

func (o objects) add(more objects) {
	for kind := range o {
		maps.Copy(o[kind], more[kind])
	}
}
