package space_test

import (
	"reflect"
	"slices"

	"gabelle/api"
	"gabelle/space"
)

// example is the module of the chapter's examples.
func example() api.Module {
	return api.Module{
		Types: []api.FuncType{{}, {Params: []uint8{api.I32}}},
		Imports: []api.Import{
			{Mod: "env", Name: "f", Kind: api.ExFunc, Type: 1},
			{Mod: "env", Name: "memory", Kind: api.ExMem, Lim: api.Limits{Min: 1, Max: -1}},
			{Mod: "env", Name: "g", Kind: api.ExFunc, Type: 0},
		},
		Funcs: []uint32{1, 7},
	}
}

// marked adds an import, or one of the module's own, of that kind; what is told of it tells its mark. Its other parts are those of another mark, which nothing may tell.
func marked(m *api.Module, kind uint8, imported bool, mark uint32) {
	for len(m.Types) <= int(mark) {
		m.Types = append(m.Types, api.FuncType{Params: make([]uint8, len(m.Types))})
	}
	lim := api.Limits{Min: mark, Max: int64(mark) + 5}
	glob := api.GlobalType{T: uint8(mark), Mut: mark%2 == 1}
	if imported {
		x := api.Import{Mod: "m", Name: "n", Kind: kind, Type: 99, Lim: api.Limits{Min: 99, Max: 99}, Glob: api.GlobalType{T: 99}}
		switch kind {
		case api.ExFunc:
			x.Type = mark
		case api.ExTable, api.ExMem:
			x.Lim = lim
		case api.ExGlobal:
			x.Glob = glob
		}
		m.Imports = append(m.Imports, x)
		return
	}
	switch kind {
	case api.ExFunc:
		m.Funcs = append(m.Funcs, mark)
	case api.ExTable:
		m.Tables = append(m.Tables, lim)
	case api.ExMem:
		m.Mems = append(m.Mems, lim)
	case api.ExGlobal:
		m.Globals = append(m.Globals, api.Global{Type: glob, Init: []api.Instr{{Op: api.OpNop}}})
	}
}

// markOf is what a space tells of a kind's number; 1 << 32 is what no mark is.
func markOf(s *space.Space, kind uint8, i uint32) (mark uint64, there, zero bool) {
	const none = 1 << 32
	ofLimits := func(l api.Limits, there bool) (uint64, bool, bool) {
		if l.Max != int64(l.Min)+5 {
			return none, there, l == api.Limits{}
		}
		return uint64(l.Min), there, false
	}
	switch kind {
	case api.ExFunc:
		t, there := s.Func(i)
		return uint64(len(t.Params)), there, len(t.Params)+len(t.Results) == 0
	case api.ExTable:
		return ofLimits(s.Table(i))
	case api.ExMem:
		return ofLimits(s.Mem(i))
	}
	g, there := s.Global(i)
	if g.Mut != (g.T%2 == 1) {
		return none, there, false
	}
	return uint64(g.T), there, g == api.GlobalType{}
}

// beyond are numbers that nothing has.
func beyond(count int) []uint32 {
	return []uint32{uint32(count), uint32(count) + 1, 1<<16 + 1, 1<<31 - 1, 1 << 31, 1<<32 - 2, 1<<32 - 1}
}

// copied has lists of its own throughout, with room behind them.
func copied(v reflect.Value) reflect.Value {
	out := reflect.New(v.Type()).Elem()
	switch v.Kind() {
	case reflect.Slice:
		if v.IsNil() {
			return out
		}
		out = reflect.MakeSlice(v.Type(), v.Len(), v.Len()+3)
		for i := range v.Len() {
			out.Index(i).Set(copied(v.Index(i)))
		}
	case reflect.Struct:
		for i := range v.NumField() {
			out.Field(i).Set(copied(v.Field(i)))
		}
	default:
		out.Set(v)
	}
	return out
}

func copyOf(m api.Module) api.Module {
	return copied(reflect.ValueOf(m)).Interface().(api.Module)
}

// whole is a list with the room behind it, and so are those in it.
func whole(v reflect.Value) reflect.Value {
	out := reflect.New(v.Type()).Elem()
	switch v.Kind() {
	case reflect.Slice:
		out.Set(v)
		if v.Cap() > 0 {
			out.Set(copied(v.Slice(0, v.Cap())))
		}
		for i := range out.Len() {
			out.Index(i).Set(whole(v.Slice(0, v.Cap()).Index(i)))
		}
	case reflect.Struct:
		for i := range v.NumField() {
			out.Field(i).Set(whole(v.Field(i)))
		}
	default:
		out.Set(v)
	}
	return out
}

func wholeOf(m api.Module) api.Module {
	return whole(reflect.ValueOf(m)).Interface().(api.Module)
}

// scribble changes all that a module's lists have, and the room behind them.
func scribble(v reflect.Value) {
	switch v.Kind() {
	case reflect.Slice:
		v = v.Slice(0, v.Cap())
		for i := range v.Len() {
			scribble(v.Index(i))
		}
	case reflect.Struct:
		for i := range v.NumField() {
			scribble(v.Field(i))
		}
	case reflect.String:
		v.SetString(v.String() + "?")
	case reflect.Bool:
		v.SetBool(!v.Bool())
	case reflect.Uint8, reflect.Uint32:
		v.SetUint(v.Uint() ^ 1)
	case reflect.Int64:
		v.SetInt(v.Int() ^ 1)
	}
}

// spans are where in memory lists lie, with the room that they have.
func spans(v reflect.Value, add func(from, to uintptr)) {
	switch v.Kind() {
	case reflect.Slice:
		if v.Cap() > 0 {
			add(v.Pointer(), v.Pointer()+uintptr(v.Cap())*v.Type().Elem().Size())
		}
		for i := range v.Len() {
			spans(v.Index(i), add)
		}
	case reflect.Struct:
		for i := range v.NumField() {
			spans(v.Field(i), add)
		}
	}
}

// same takes lists that are nil and empty ones for the same.
func same(t, u api.FuncType) bool {
	return slices.Equal(t.Params, u.Params) && slices.Equal(t.Results, u.Results)
}

// random numbers of a fixed rule.
type random uint64

func (r *random) next(n int) int {
	*r = *r*6364136223846793005 + 1442695040888963407
	return int(uint64(*r)>>33) % n
}
