package space

import (
	"slices"

	"gabelle/api"
)

// imported is an api.Import whose methods tell what a space keeps of it; each is asked of its own kind alone.
type imported api.Import

func (x imported) typeNumber() uint32     { return x.Type }
func (x imported) limits() api.Limits     { return x.Lim }
func (x imported) global() api.GlobalType { return x.Glob }

// row is all that there is of one kind, by its numbers: the first ones are imported.
type row[T any] struct {
	all      []T
	imported int
}

// rowOf is of memory of its own: own is no more than read.
func rowOf[T any](imports []api.Import, kind uint8, ask func(imported) T, own []T) row[T] {
	var l []T
	for _, x := range imports {
		if x.Kind == kind {
			l = append(l, ask(imported(x)))
		}
	}
	return row[T]{append(l, own...), len(l)}
}

func (r row[T]) counts() (all, imported int) { return len(r.all), r.imported }

func at[T any](l []T, i uint32) (T, bool) {
	if uint64(i) >= uint64(len(l)) {
		var none T
		return none, false
	}
	return l[i], true
}

func globalTypes(l []api.Global) []api.GlobalType {
	var types []api.GlobalType
	for _, x := range l {
		types = append(types, x.Type)
	}
	return types
}

func copyOf(t api.FuncType) api.FuncType {
	return api.FuncType{Params: slices.Clone(t.Params), Results: slices.Clone(t.Results)}
}
