package object

// alike takes no list and an empty one for the same.
func alike[T comparable](l, m []T) bool {
	if len(l) != len(m) {
		return false
	}
	for i, item := range l {
		if item != m[i] {
			return false
		}
	}
	return true
}
