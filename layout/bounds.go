package layout

// within answers what asks whether numbers lie within bounds, all of them.
func within(least, most int) func(numbers ...int) bool {
	return func(numbers ...int) bool {
		for _, n := range numbers {
			if n < least || n > most {
				return false
			}
		}
		return true
	}
}
