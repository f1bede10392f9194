package valid

import (
	"math"

	"gabelle/api"
	"gabelle/body"
	"gabelle/space"
)

const mostPages = 65536 // of a memory: as many as 32 bits can reach

// module is the one that is checked, and what is kept of it meanwhile.
type module struct {
	api.Module
	space   *space.Space
	names   map[string]int // the exports that were there, by their names
	heights []int
}

// shape is asked ahead of all else, so that each own function has a code, and no kind goes unasked.
func (x *module) shape(int) api.Errno {
	ok := len(x.Codes) == len(x.Funcs)
	for _, i := range x.Imports {
		ok = ok && i.Kind <= api.ExGlobal
	}
	for _, e := range x.Exports {
		ok = ok && e.Kind <= api.ExGlobal
	}
	return unless(ok, api.ErrArg)
}

func (x *module) funcType(i int) api.Errno {
	t := x.Types[i]
	return unless(len(t.Results) <= 1 && ofWholeNumbers(t.Params...) && ofWholeNumbers(t.Results...), api.ErrType)
}

func (x *module) imported(i int) api.Errno {
	switch v := x.Imports[i]; v.Kind {
	case api.ExFunc:
		return x.typeThere(v.Type)
	case api.ExGlobal:
		return unless(ofWholeNumbers(v.Glob.T), api.ErrType)
	}
	return api.OK
}

func (x *module) function(i int) api.Errno { return x.typeThere(x.Funcs[i]) }

func (x *module) counts(int) api.Errno {
	return unless(x.space.Count(api.ExTable) <= 1 && x.space.Count(api.ExMem) <= 1, api.ErrLimits)
}

func (x *module) table(i int) api.Errno {
	l, _ := x.space.Table(uint32(i))
	return unless(mayBe(l), api.ErrLimits)
}

func (x *module) memory(i int) api.Errno {
	l, _ := x.space.Mem(uint32(i))
	return unless(mayBe(l) && l.Min <= mostPages && l.Max <= mostPages, api.ErrLimits)
}

func (x *module) global(i int) api.Errno {
	g := x.Globals[i]
	if !ofWholeNumbers(g.Type.T) {
		return api.ErrType
	}
	return x.constant(g.Init, g.Type.T)
}

func (x *module) export(i int) api.Errno {
	v := x.Exports[i]
	if !x.there(v.Kind, v.Index) {
		return api.ErrIndex
	}
	if _, was := x.names[v.Name]; was {
		return api.ErrTwice
	}
	x.names[v.Name] = i
	return api.OK
}

func (x *module) start(int) api.Errno {
	if !x.HasStart {
		return api.OK
	}
	t, ok := x.space.Func(x.Start)
	return unless(ok && space.Same(t, api.FuncType{}), api.ErrStart)
}

func (x *module) element(i int) api.Errno {
	v := x.Elems[i]
	if !x.there(api.ExTable, v.Table) {
		return api.ErrIndex
	}
	if e := x.constant(v.Offset, api.I32); e != api.OK {
		return e
	}
	for _, f := range v.Funcs {
		if !x.there(api.ExFunc, f) {
			return api.ErrIndex
		}
	}
	return api.OK
}

func (x *module) code(i int) api.Errno {
	t, _ := x.space.Func(uint32(x.space.Imported(api.ExFunc) + i))
	height, e := body.Check(x.space, t, x.Codes[i])
	x.heights = append(x.heights, height)
	return e
}

func (x *module) data(i int) api.Errno {
	v := x.Datas[i]
	if !x.there(api.ExMem, v.Mem) {
		return api.ErrIndex
	}
	return x.constant(v.Offset, api.I32)
}

// constant asks whether an expression is constant, of that type.
func (x *module) constant(l []api.Instr, t uint8) api.Errno {
	if len(l) != 1 {
		return api.ErrConst
	}
	gives, e := x.gives(l[0])
	if e != api.OK {
		return e
	}
	return unless(gives == t, api.ErrType)
}

// gives is the type of what a constant expression's one instruction gives.
func (x *module) gives(i api.Instr) (uint8, api.Errno) {
	switch i.Op {
	case api.OpI32Const:
		return api.I32, api.OK
	case api.OpI64Const:
		return api.I64, api.OK
	case api.OpGlobalGet:
		g, _ := x.space.Global(i.A)
		switch {
		case uint64(i.A) >= uint64(x.space.Imported(api.ExGlobal)):
			return 0, api.ErrIndex
		case g.Mut:
			return 0, api.ErrConst
		}
		return g.T, api.OK
	}
	return 0, api.ErrConst
}

func (x *module) typeThere(i uint32) api.Errno {
	return unless(uint64(i) < uint64(len(x.Types)), api.ErrIndex)
}

// there asks by a count alone, which tells of functions, too, once all their types are there.
func (x *module) there(kind uint8, i uint32) bool {
	return uint64(i) < uint64(x.space.Count(kind))
}

func mayBe(l api.Limits) bool {
	return l.Max == -1 || l.Max >= int64(l.Min) && l.Max <= math.MaxUint32
}

func ofWholeNumbers(types ...uint8) bool {
	for _, t := range types {
		if t != api.I32 && t != api.I64 {
			return false
		}
	}
	return true
}
