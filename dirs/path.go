package dirs

import (
	"slices"
	"strings"

	"catenary/api"
)

const separator = "/" // ahead of each name of a path, and the path without names

// Split returns the names of the path.
func Split(path string) ([]string, api.Errno) {
	rest, ok := strings.CutPrefix(path, separator)
	if !ok {
		return nil, api.ErrName
	}
	if rest == "" {
		return nil, api.OK
	}
	names := strings.SplitN(rest, separator, api.MaxDepth+1) // one more than there may be, so that too many are seen
	noName := func(s string) bool { return !Name(s) }
	if len(names) > api.MaxDepth || slices.ContainsFunc(names, noName) {
		return nil, api.ErrName
	}
	return names, api.OK
}

// Join returns the path with these names, whatever they are.
func Join(names []string) string {
	return separator + strings.Join(names, separator)
}

// Above returns the path without its last name, and that name.
func Above(path string) (string, string, api.Errno) {
	names, e := Split(path)
	if e != api.OK || len(names) == 0 {
		return "", "", api.ErrName
	}
	last := len(names) - 1
	return Join(names[:last]), names[last], api.OK
}

// Under reports whether the path is top, or below it; both must be paths.
func Under(path, top string) bool {
	names, e := Split(path)
	above, e2 := Split(top)
	if e != api.OK || e2 != api.OK || len(names) < len(above) {
		return false
	}
	return slices.Equal(names[:len(above)], above)
}
