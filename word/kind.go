package word

import (
	"strconv"

	"lapidary/api"
)

const (
	leastScalar = -api.MaxScalar - 1

	sealSign    = "!"
	addressSign = "@"
	belowSign   = "-"
	nullText    = "null"
	emptyText   = "empty"
	badText     = "bad"
)

// kind is what the words of one kind have in common.
type kind struct {
	seals bool                                // they can be sealed
	value func(plain bits) int64              // what a plain one of them would hold
	lay   func(value int64) (bits, api.Errno) // the plain one that holds a value
	text  func(value int64) string
}

// kinds are made here, not kept: a table of functions may not stand at package level.
func kinds() [api.WordEmpty + 1]kind {
	return [...]kind{
		api.WordBad:     {false, noValue, layBad, textBad},
		api.WordNull:    {true, noValue, layNull, textNull},
		api.WordPointer: {true, bits.number, layPointer, textPointer},
		api.WordScalar:  {true, scalarValue, layScalar, textScalar},
		api.WordEmpty:   {false, noValue, layEmpty, textEmpty},
	}
}

func noValue(bits) int64 { return 0 }

func scalarValue(plain bits) int64 { return plain.number() + leastScalar }

func layBad(int64) (bits, api.Errno) { return 0, api.ErrArg }

func layNull(value int64) (bits, api.Errno) {
	if value != 0 {
		return 0, api.ErrArg
	}
	return 0, api.OK
}

func layPointer(address int64) (bits, api.Errno) {
	if address < 1 || address > api.MaxAddress {
		return 0, api.ErrRange
	}
	return bits(address) << numberBit, api.OK
}

func layScalar(value int64) (bits, api.Errno) {
	if value < leastScalar || value > api.MaxScalar {
		return 0, api.ErrRange
	}
	return bits(value-leastScalar)<<numberBit | 1<<scalarBit, api.OK
}

func layEmpty(value int64) (bits, api.Errno) {
	if value != 0 {
		return 0, api.ErrArg
	}
	return 1 << emptyBit, api.OK
}

func textBad(int64) string { return badText }

func textNull(int64) string { return nullText }

func textPointer(address int64) string { return addressSign + strconv.FormatInt(address, 10) }

func textScalar(value int64) string { return strconv.FormatInt(value, 10) }

func textEmpty(int64) string { return emptyText }
