package archive

import "strings"

const (
	longestName = 16
	mostNames   = 8 // of one path
)

// split takes a path apart: the root's has no names (P5).
func split(path string) ([]string, error) {
	if path == "" {
		return nil, nil
	}
	names := strings.SplitN(path, "/", mostNames+1) // one more tells that they are too many, however many there are
	if len(names) > mostNames {
		return nil, ErrPath
	}
	for _, name := range names {
		if !isName(name) {
			return nil, ErrPath
		}
	}
	return names, nil
}

// below takes apart the path of something below the root (P6).
func below(path string) ([]string, error) {
	if path == "" {
		return nil, ErrPath
	}
	return split(path)
}

func isName(text string) bool {
	if text == "" || len(text) > longestName {
		return false
	}
	for _, r := range text {
		if !inName(r) {
			return false
		}
	}
	return true
}

func inName(r rune) bool {
	return r >= 'a' && r <= 'z' || r >= '0' && r <= '9' || r == '.' || r == '_' || r == '-'
}
