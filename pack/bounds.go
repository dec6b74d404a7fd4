package pack

// within asks of whole lists of numbers, so that a word's parts are bounded in one breath.
func within[N ~int | ~int64](least, most N, numbers ...N) bool {
	for _, n := range numbers {
		if n < least || n > most {
			return false
		}
	}
	return true
}
