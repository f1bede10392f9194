package space_test

import "gabelle/api"

// model is the chapter's words, straight over the module, asked anew each time.
type model struct{ m api.Module }

// find tells where a kind's number stands: among the imports, or among the module's own.
func (x model) find(kind uint8, i uint32) (imported *api.Import, own uint64, there bool) {
	left := uint64(i)
	for n := range x.m.Imports {
		if x.m.Imports[n].Kind != kind {
			continue
		}
		if left == 0 {
			return &x.m.Imports[n], 0, true
		}
		left--
	}
	return nil, left, left < uint64(x.own(kind))
}

func (x model) own(kind uint8) int {
	return map[uint8]int{0: len(x.m.Funcs), 1: len(x.m.Tables), 2: len(x.m.Mems), 3: len(x.m.Globals)}[kind]
}

func (x model) Imported(kind uint8) int {
	n := 0
	for _, i := range x.m.Imports {
		if i.Kind == kind && kind < 4 {
			n++
		}
	}
	return n
}

func (x model) Count(kind uint8) int { return x.Imported(kind) + x.own(kind) }

func (x model) Type(i uint32) (api.FuncType, bool) {
	for n, t := range x.m.Types {
		if uint64(n) == uint64(i) {
			return t, true
		}
	}
	return api.FuncType{}, false
}

func (x model) Func(i uint32) (api.FuncType, bool) {
	imported, own, there := x.find(0, i)
	switch {
	case !there:
		return api.FuncType{}, false
	case imported != nil:
		return x.Type(imported.Type)
	}
	return x.Type(x.m.Funcs[own])
}

func (x model) Table(i uint32) (api.Limits, bool) {
	imported, own, there := x.find(1, i)
	switch {
	case !there:
		return api.Limits{}, false
	case imported != nil:
		return imported.Lim, true
	}
	return x.m.Tables[own], true
}

func (x model) Mem(i uint32) (api.Limits, bool) {
	imported, own, there := x.find(2, i)
	switch {
	case !there:
		return api.Limits{}, false
	case imported != nil:
		return imported.Lim, true
	}
	return x.m.Mems[own], true
}

func (x model) Global(i uint32) (api.GlobalType, bool) {
	imported, own, there := x.find(3, i)
	switch {
	case !there:
		return api.GlobalType{}, false
	case imported != nil:
		return imported.Glob, true
	}
	return x.m.Globals[own].Type, true
}

func (x model) Export(name string, kind uint8) (uint32, bool) {
	found := api.Export{}
	there := false
	for n := len(x.m.Exports) - 1; n >= 0; n-- {
		if e := x.m.Exports[n]; e.Name == name && e.Kind == kind {
			found, there = e, true
		}
	}
	return found.Index, there
}
