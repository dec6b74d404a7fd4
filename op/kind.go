package op

import "lapidary/api"

// kindsEnd is one past the last kind of operations.
const kindsEnd = api.OpCollect + 1

// kind is what the operations of one kind have in common.
type kind struct {
	name    string
	numbers []func(*operation) *int   // what it names, as a text has it, behind the name
	scalars []func(*operation) *int64 // and behind those
	opens   bool                      // it is of a field
	field   api.Field
	told    func(api.Out) string // its answer, where that is no error
}

// kinds are made here, not kept: a table of functions may not stand at package level.
func kinds() [kindsEnd]kind {
	a, b, c := (*operation).a, (*operation).b, (*operation).c
	field, shape := (*operation).field, (*operation).shape
	x, y := (*operation).x, (*operation).y
	type numbers = []func(*operation) *int
	type scalars = []func(*operation) *int64
	return [...]kind{
		api.OpAlloc:   {"alloc", numbers{a, shape}, nil, false, 0, toldDone},
		api.OpGet:     {"get", numbers{a, field, b}, nil, true, api.FieldPointer, toldObject},
		api.OpPut:     {"put", numbers{a, field, b}, nil, true, api.FieldPointer, toldDone},
		api.OpCas:     {"cas", numbers{a, field, b, c}, nil, true, api.FieldPointer, toldIs},
		api.OpGetInt:  {"geti", numbers{a, field}, nil, true, api.FieldScalar, toldValue},
		api.OpPutInt:  {"puti", numbers{a, field}, scalars{x}, true, api.FieldScalar, toldDone},
		api.OpCasInt:  {"casi", numbers{a, field}, scalars{x, y}, true, api.FieldScalar, toldIs},
		api.OpEq:      {"eq", numbers{a, b}, nil, false, 0, toldIs},
		api.OpMove:    {"move", numbers{a, b}, nil, false, 0, toldDone},
		api.OpDrop:    {"drop", numbers{a}, nil, false, 0, toldDone},
		api.OpCollect: {"collect", nil, nil, false, 0, toldDone},
	}
}

func find(k api.OpKind) (kind, bool) {
	if !within(api.OpNone+1, kindsEnd-1, k) {
		return kind{}, false
	}
	return kinds()[k], true
}

// named is OpNone where no kind has the name; OpNone itself has none, and the empty text is no name.
func named(name string) api.OpKind {
	for n, k := range kinds() {
		if k.name == name {
			return api.OpKind(n)
		}
	}
	return api.OpNone
}

// kindOf is asked of any operation: there is none where something is not 0 that the kind does not name.
func kindOf(x api.Op) (kind, bool) {
	k, ok := find(x.Kind)
	if !ok || k.only(x) != x {
		return kind{}, false
	}
	return k, true
}

// only is an operation with nothing but what the kind names of x.
func (k kind) only(x api.Op) api.Op {
	from, to := operation{x}, operation{api.Op{Kind: x.Kind}}
	for _, number := range k.numbers {
		*number(&to) = *number(&from)
	}
	for _, scalar := range k.scalars {
		*scalar(&to) = *scalar(&from)
	}
	return to.Op
}
