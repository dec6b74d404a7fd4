// Package word is layer 1: see shared/doc/01-word.md.
package word

import (
	"strings"

	"lapidary/api"
)

// Pointer: P1.1.
func Pointer(address int64) (uint64, api.Errno) {
	return Make(api.Word{Kind: api.WordPointer, Value: address})
}

// Scalar: P1.1.
func Scalar(value int64) (uint64, api.Errno) {
	return Make(api.Word{Kind: api.WordScalar, Value: value})
}

// Empty: P1.1.
func Empty() uint64 { return 1 << emptyBit }

// Of: P1.1.
func Of(w uint64) api.Word {
	t := tell(w)
	return api.Word{Kind: t.name, Sealed: t.seals && t.sealed(), Value: t.holds}
}

// Make: P1.1.
func Make(x api.Word) (uint64, api.Errno) {
	all := kinds()
	if x.Kind < 0 || int(x.Kind) >= len(all) {
		return 0, api.ErrArg
	}
	k := all[x.Kind]
	if x.Sealed && !k.seals {
		return 0, api.ErrArg
	}
	b, errno := k.lay(x.Value)
	if errno != api.OK {
		return 0, errno
	}
	if x.Sealed {
		b = b.seal()
	}
	return uint64(b), api.OK
}

// Seal: P1.2.
func Seal(w uint64) (uint64, api.Errno) {
	t := tell(w)
	if !t.seals {
		return 0, api.ErrArg
	}
	return uint64(t.seal()), api.OK
}

// Strip: P1.2.
func Strip(w uint64) (uint64, api.Errno) {
	t := tell(w)
	if !t.seals {
		return 0, api.ErrArg
	}
	return uint64(t.plain()), api.OK
}

// Address: P1.2.
func Address(w uint64) (int, bool) {
	t := tell(w)
	if t.name != api.WordPointer {
		return 0, false
	}
	return int(t.holds), true
}

// Text: P1.3.
func Text(w uint64) string {
	t := tell(w)
	if t.seals && t.sealed() {
		return sealSign + t.text(t.holds)
	}
	return t.text(t.holds)
}

// Read: P1.3.
func Read(s string) (uint64, api.Errno) {
	body, sealed := strings.CutPrefix(s, sealSign)
	x := api.Word{Sealed: sealed}
	ok := false
	switch {
	case body == nullText:
		x.Kind = api.WordNull
	case body == emptyText:
		x.Kind = api.WordEmpty
	case strings.HasPrefix(body, addressSign):
		x.Kind = api.WordPointer
		if x.Value, ok = digits(body[len(addressSign):]); !ok {
			goto none
		}
	case strings.HasPrefix(body, belowSign):
		x.Kind = api.WordScalar
		if x.Value, ok = digits(body[len(belowSign):]); !ok || x.Value == 0 {
			goto none
		}
		x.Value = -x.Value
	default:
		x.Kind = api.WordScalar
		if x.Value, ok = digits(body); !ok {
			goto none
		}
	}
	return Make(x)
none:
	return 0, api.ErrArg
}

// beyond stands for every number that no word holds: it keeps long digits from wrapping round.
const beyond = api.MaxScalar + 2

func digits(s string) (int64, bool) {
	if s == "" || s[0] == '0' && s != "0" {
		return 0, false
	}
	value := int64(0)
	for _, r := range s {
		if r < '0' || r > '9' {
			return 0, false
		}
		value = min(value*10+int64(r-'0'), beyond)
	}
	return value, true
}
