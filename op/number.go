package op

import (
	"strconv"

	"lapidary/api"
)

const leastScalar = -api.MaxScalar - 1

// whole are whole numbers, of any type.
type whole interface{ ~int | ~int64 }

func within[N whole](least, most N, numbers ...N) bool {
	for _, n := range numbers {
		if n < least || n > most {
			return false
		}
	}
	return true
}

func digits[N whole](n N) string { return strconv.FormatInt(int64(n), 10) }

// read holds the number's own digits against the word: a number has one form alone.
func read[N whole](word string, into *N) bool {
	n, err := strconv.ParseInt(word, 10, 64)
	*into = N(n)
	return err == nil && digits(*into) == word
}
