package rule_test

import (
	"fmt"
	"reflect"
	"slices"
	"testing"

	"gabelle/api"
	"gabelle/rule"
)

const (
	i32 = api.I32
	i64 = api.I64

	ok        = api.OK
	errArg    = api.ErrArg
	errIndex  = api.ErrIndex
	errType   = api.ErrType
	errLabel  = api.ErrLabel
	errConst  = api.ErrConst
	errTwice  = api.ErrTwice
	errLimits = api.ErrLimits
	errStart  = api.ErrStart
	errImport = api.ErrImport
	errExport = api.ErrExport
	errSize   = api.ErrSize

	most = 1<<32 - 1 // of 32 bits
)

func types(l ...uint8) []uint8 { return l }

// fn is a function's type: what it takes, and what it gives.
func fn(takes []uint8, gives ...uint8) api.FuncType {
	return api.FuncType{Params: takes, Results: gives}
}

// body is what is handed in, part behind part, in memory of its own.
func body(parts ...[]api.Instr) []api.Instr { return slices.Concat(parts...) }

func op(op uint8) []api.Instr { return []api.Instr{{Op: op}} }

// opA is an instruction with a number.
func opA(op uint8, a uint32) []api.Instr { return []api.Instr{{Op: op, A: a}} }

// con is a constant of 32 bits, con64 one of 64.
func con(n int64) []api.Instr   { return []api.Instr{{Op: api.OpI32Const, C: n}} }
func con64(n int64) []api.Instr { return []api.Instr{{Op: api.OpI64Const, C: n}} }

func times(n int, l []api.Instr) []api.Instr { return slices.Repeat(l, n) }

// opens begins a block, a loop or an if without a result; an if with what it wants.
func opens(kind uint8) []api.Instr {
	if kind == api.OpIf {
		return body(con(1), opA(kind, uint32(api.BlockNone)))
	}
	return opA(kind, uint32(api.BlockNone))
}

func ends() []api.Instr { return op(api.OpEnd) }

// branch takes one of some labels, all of them the same.
func branch(labels int, label uint32) []api.Instr {
	return body(con(0), []api.Instr{{Op: api.OpBrTable, L: slices.Repeat([]uint32{label}, labels), A: label}})
}

// main is the export of that function as main.
func main(i uint32) api.Export { return api.Export{Name: "main", Kind: api.ExFunc, Index: i} }

// env is an import of a function of the module env.
func env(name string, typ uint32) api.Import {
	return api.Import{Mod: "env", Name: name, Kind: api.ExFunc, Type: typ}
}

// least has just what a module must have that may be deployed.
func least() api.Module {
	return api.Module{Types: []api.FuncType{{}}, Funcs: []uint32{0}, Codes: []api.Code{{}}, Exports: []api.Export{main(0)}}
}

// whole has some of all, and may be deployed. Its types are those of what is offered, by number, and behind them () -> (), (i64) -> i32, () -> (). Its functions: 0 to 15 are what is offered, by number; 16 to 19 are its own, of types 16, 17, 18, 16. Its globals are its own.
func whole() api.Module {
	m := api.Module{
		Types:   []api.FuncType{},
		Funcs:   []uint32{16, 17, 18, 16},
		Tables:  []api.Limits{{Min: 4, Max: 9}},
		Mems:    []api.Limits{{Min: 1, Max: 2}},
		Globals: []api.Global{{Type: api.GlobalType{T: i32}, Init: con(7)}, {Type: api.GlobalType{T: i64, Mut: true}, Init: con64(-1)}},
		Exports: []api.Export{
			{Name: "m", Kind: api.ExMem},
			main(16),
			{Name: "", Kind: api.ExFunc, Index: 17},
			{Name: "init", Kind: api.ExFunc, Index: 18},
			{Name: "t", Kind: api.ExTable},
			{Name: "g", Kind: api.ExGlobal, Index: 1},
		},
		HasStart: true,
		Start:    19,
		Elems:    []api.Elem{{Offset: con(0), Funcs: []uint32{16, 0, 17}}, {Offset: con(1), Funcs: []uint32{18}}},
		Codes:    wholeCodes(),
		Datas:    []api.Data{{Offset: con(5), B: []byte{1, 2}}, {Offset: con(-1)}},
	}
	for i, x := range written() {
		m.Types = append(m.Types, x.t)
		m.Imports = append(m.Imports, env(x.name, uint32(i)))
	}
	m.Types = append(m.Types, fn(nil), fn(types(i64), i32), fn(nil))
	return m
}

func wholeCodes() []api.Code {
	return []api.Code{
		{
			Locals: []api.Local{{N: 2, T: i32}, {N: 1, T: i64}},
			Body:   body(con(1), opA(api.OpCall, 2), opens(api.OpBlock), branch(2, 0), ends(), opA(api.OpGlobalGet, 1), opA(api.OpLocalSet, 2)),
		},
		{Body: body(opA(api.OpLocalGet, 0), opA(api.OpCall, 17))},
		{Locals: []api.Local{{N: 1, T: i32}}, Body: body(opens(api.OpIf), opens(api.OpLoop), ends(), op(api.OpElse), op(api.OpNop), ends())},
		{Body: body(con(0), opA(api.OpCallIndirect, 16))},
	}
}

// imported has one import more, behind all others; numbers of what is the module's own are one more then. A table and a memory stand in the place of the module's own.
func imported(m api.Module, x api.Import) api.Module {
	m = copyOf(m)
	before := uint32(0)
	for _, v := range m.Imports {
		if v.Kind == x.Kind {
			before++
		}
	}
	m.Imports = append(m.Imports, x)
	raise := func(n *uint32) {
		if *n >= before {
			*n++
		}
	}
	for i := range m.Exports {
		if m.Exports[i].Kind == x.Kind && x.Kind != api.ExTable && x.Kind != api.ExMem {
			raise(&m.Exports[i].Index)
		}
	}
	switch x.Kind {
	case api.ExFunc:
		raise(&m.Start)
		for i := range m.Elems {
			for j := range m.Elems[i].Funcs {
				raise(&m.Elems[i].Funcs[j])
			}
		}
		raiseIn(m.Codes, raise, api.OpCall)
	case api.ExTable:
		m.Tables = nil
	case api.ExMem:
		m.Mems = nil
	case api.ExGlobal:
		raiseIn(m.Codes, raise, api.OpGlobalGet, api.OpGlobalSet)
	}
	return m
}

func raiseIn(codes []api.Code, raise func(*uint32), ops ...uint8) {
	for _, c := range codes {
		for i := range c.Body {
			if slices.Contains(ops, c.Body[i].Op) {
				raise(&c.Body[i].A)
			}
		}
	}
}

func shown(m api.Module) string {
	s := fmt.Sprintf("%+v", m)
	return s[:min(len(s), 1500)]
}

// check asks for what is told, twice, and for what was handed in; and holds the model against it, that this be right, too.
func check(t *testing.T, what string, m api.Module, e api.Errno) {
	t.Helper()
	was := extentOf(m)
	for range 2 {
		if got := rule.Check(m); got != e {
			t.Errorf("%s: %d, want %d: %s", what, got, e, shown(m))
		}
	}
	if is := extentOf(m); !reflect.DeepEqual(is, was) {
		t.Errorf("%s: what was handed in is another one now: %s, was %s", what, shown(is), shown(was))
	}
	if got := modelled(m); got != e {
		t.Errorf("%s: by the model %d, want %d: %s", what, got, e, shown(m))
	}
}

// copyOf shares no memory.
func copyOf(m api.Module) api.Module { return moduleOf(m, false) }

// extentOf has what lies behind the lists' ends, too: all that could be written to.
func extentOf(m api.Module) api.Module { return moduleOf(m, true) }

func moduleOf(m api.Module, behind bool) api.Module {
	m.Types = listOf(m.Types, behind)
	for i, x := range m.Types {
		m.Types[i] = api.FuncType{Params: listOf(x.Params, behind), Results: listOf(x.Results, behind)}
	}
	m.Imports, m.Exports = listOf(m.Imports, behind), listOf(m.Exports, behind)
	m.Funcs, m.Tables, m.Mems = listOf(m.Funcs, behind), listOf(m.Tables, behind), listOf(m.Mems, behind)
	m.Globals = listOf(m.Globals, behind)
	for i, x := range m.Globals {
		m.Globals[i].Init = instrsOf(x.Init, behind)
	}
	m.Elems = listOf(m.Elems, behind)
	for i, x := range m.Elems {
		m.Elems[i].Offset, m.Elems[i].Funcs = instrsOf(x.Offset, behind), listOf(x.Funcs, behind)
	}
	m.Codes = listOf(m.Codes, behind)
	for i, x := range m.Codes {
		m.Codes[i] = api.Code{Locals: listOf(x.Locals, behind), Body: instrsOf(x.Body, behind)}
	}
	m.Datas = listOf(m.Datas, behind)
	for i, x := range m.Datas {
		m.Datas[i].Offset, m.Datas[i].B = instrsOf(x.Offset, behind), listOf(x.B, behind)
	}
	return m
}

func instrsOf(l []api.Instr, behind bool) []api.Instr {
	l = listOf(l, behind)
	for i, x := range l {
		l[i].L = listOf(x.L, behind)
	}
	return l
}

func listOf[T any](l []T, behind bool) []T {
	if behind {
		l = l[:cap(l)]
	}
	return slices.Clone(l)
}

// random numbers of a fixed rule.
type random uint64

func (r *random) next(n int) int {
	*r = *r*6364136223846793005 + 1442695040888963407
	return int(uint64(*r)>>33) % n
}
