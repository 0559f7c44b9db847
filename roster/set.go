package roster

// set is what was added to it.
type set[T comparable] map[T]bool

// add adds a value, which may be in the set already.
func (s set[T]) add(v T) { s[v] = true }

// has returns whether a value was added.
func (s set[T]) has(v T) bool { return s[v] }
