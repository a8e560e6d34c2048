package archive

import "stow/sums"

// scan takes in a disk's records, one by one, if their texts are as P7 says.
type scan struct {
	objects   objects
	extents   map[sums.Sum]extent // of the directories that objects has
	snapshots []snapshotText
}

// extent is how far a directory goes, with all below.
type extent struct {
	deep  int // how many names stand behind one another
	names int // in all; if they are too many, no less than one too many
}

func newScan() *scan { return &scan{objects: newObjects(), extents: map[sums.Sum]extent{}} }

// take tells whether a text is one of its kind, and takes it in.
func (s *scan) take(r record) bool {
	if r.kind == snapshotKind {
		return s.takeSnapshot(r.text)
	}
	return s.takeObject(sums.Of(r.text), r)
}

// takeObject takes in what is no snapshot, by its Sum: of several of one kind with one Sum the first is meant, so a later one must be right, too, but changes nothing.
func (s *scan) takeObject(sum sums.Sum, r record) bool {
	ok := false
	switch r.kind {
	case chunkKind:
		ok = isChunk(r.text)
	case fileKind:
		ok = s.isFile(r.text)
	case directoryKind:
		ok = s.takeExtent(sum, r.text)
	}
	if ok {
		s.objects.put(r.kind, sum, object{at: r.at, size: len(r.text)})
	}
	return ok
}

// isFile: is that a file's text, all chunks of which, of the sizes that are meant, were taken in?
func (s *scan) isFile(text string) bool {
	file, ok := fileOf(text)
	for i, sum := range file.chunks {
		chunk, there := s.objects[chunkKind][sum]
		ok = ok && there && chunk.size == sizeOfChunk(file.size, i)
	}
	return ok
}

// takeExtent: is that a directory's text, of which all that has a name was taken in?
func (s *scan) takeExtent(sum sums.Sum, text string) bool {
	list, ok := directoryOf(text)
	all := extent{}
	for _, there := range list {
		ok = ok && s.objects.has(there.kind(), there.sum)
		below := extent{}
		if there.isDirectory {
			below = s.extents[there.sum]
		}
		all.deep = max(all.deep, 1+below.deep)
		all.names += 1 + below.names
	}
	all.names = min(all.names, mostInTree+1) // directories of directories double with each record: no number would hold them
	if _, told := s.extents[sum]; ok && !told {
		s.extents[sum] = all
	}
	return ok
}

// takeSnapshot: is that the next snapshot's text, of a directory that was taken in and that a tree may be?
func (s *scan) takeSnapshot(text string) bool {
	next, ok := snapshotOf(text)
	if !ok || next.number != uint32(len(s.snapshots)+1) || !s.objects.has(directoryKind, next.root) {
		return false
	}
	if all := s.extents[next.root]; all.deep > mostNames || all.names > mostInTree {
		return false
	}
	s.snapshots = append(s.snapshots, next)
	return true
}
