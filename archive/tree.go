package archive

import (
	"maps"
	"slices"
	"strings"
)

const (
	mostInDirectory = 16
	mostInTree      = 256 // without its root
	mostBytes       = 1536
)

// node is a file, or a directory: that has a map of names, and be it an empty one.
type node struct {
	names map[string]*node
	data  string
}

func newDirectory() *node { return &node{names: map[string]*node{}} }

// newFile copies what it is given: a piece of a greater text would keep all of that.
func newFile(data string) *node { return &node{data: strings.Clone(data)} }

func (n *node) isDirectory() bool { return n.names != nil }

// find goes from a node on through names, one by one (P5).
func (n *node) find(names []string) (*node, error) {
	at := n
	for _, name := range names {
		if !at.isDirectory() {
			return nil, ErrKind
		}
		next, ok := at.names[name]
		if !ok {
			return nil, ErrNone
		}
		at = next
	}
	return at, nil
}

// above finds the directory in which the last of the names stands, or could (P6).
func (n *node) above(names []string) (*node, string, error) {
	last := len(names) - 1
	dir, err := n.find(names[:last])
	if err != nil {
		return nil, "", err
	}
	if !dir.isDirectory() {
		return nil, "", ErrKind
	}
	return dir, names[last], nil
}

// count tells how many names stand below a node.
func (n *node) count() int {
	all := len(n.names)
	for _, below := range n.names {
		all += below.count()
	}
	return all
}

func (n *node) put(name string, what *node) { n.names[strings.Clone(name)] = what }

func (n *node) entries() []Entry {
	var list []Entry
	for _, name := range slices.Sorted(maps.Keys(n.names)) {
		there := n.names[name]
		list = append(list, Entry{Name: name, Dir: there.isDirectory(), Size: len(there.data)})
	}
	return list
}
