package pack

// whole is the base of a word's last part: whatever is left of the word is less, so that no bit goes unasked.
const whole = 1 << 63

// apart answers what takes a word's parts off it, the lowest one first.
func apart(w uint64) func(base uint64) int64 {
	return func(base uint64) int64 {
		part := w % base
		w /= base
		return int64(part)
	}
}
