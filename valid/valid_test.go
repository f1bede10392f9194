package valid_test

import (
	"slices"
	"strconv"
	"testing"

	"gabelle/api"
	"gabelle/body"
	"gabelle/opc"
	"gabelle/space"
	"gabelle/valid"
)

func TestExamples(t *testing.T) {
	one := api.Module{Types: []api.FuncType{{}}, Funcs: []uint32{0}, Codes: []api.Code{{}}}
	exports := func(first, second uint32) api.Module {
		m := one
		m.Exports = []api.Export{{Name: "a", Index: first}, {Name: "a", Index: second}}
		return m
	}
	global := func(text string) api.Module {
		return api.Module{Globals: []api.Global{{Type: val(i32), Init: written(text)}}}
	}
	check(t, "nothing", api.Module{}, nil, ok)
	check(t, "two memories", api.Module{Mems: make([]api.Limits, 2)}, nil, errLimits)
	check(t, "a memory from 2 to 1", api.Module{Mems: []api.Limits{{Min: 2, Max: 1}}}, nil, errLimits)
	check(t, "i64.const 0", global("i64.const 0"), nil, errType)
	check(t, "global.get 0", global("global.get 0"), nil, errIndex)
	check(t, "a, a of function 0", exports(0, 0), nil, errTwice)
	check(t, "a, a of function 1", exports(1, 1), nil, errIndex)
	check(t, "a of function 0, a of function 1", exports(0, 1), nil, errIndex)
	check(t, "a of function 1, a of function 0", exports(1, 0), nil, errIndex)
}

// P11.1: modules that have some of all, with what may be imported and with what is theirs.
func TestWhole(t *testing.T) {
	check(t, "whole", whole(), wholeHeights(), ok)
	check(t, "elsewhere", elsewhere(), wholeHeights(), ok)
}

// P11.1, step 1: as many codes as functions, whatever else there is.
func TestAsManyCodes(t *testing.T) {
	for funcs := range 6 {
		for codes := range 6 {
			m := api.Module{Types: []api.FuncType{{}}, Funcs: make([]uint32, funcs), Codes: make([]api.Code, codes)}
			if funcs != codes {
				check(t, "more or fewer", m, nil, errArg)
				m.Imports = []api.Import{funcFrom(0), funcFrom(0), funcFrom(0)}
				check(t, "with imports", m, nil, errArg)
				m.Types = nil
				check(t, "without types", m, nil, errArg)
				continue
			}
			check(t, "as many", m, make([]int, codes), ok)
			m.Imports = []api.Import{funcFrom(0), globalFrom(val(i64)), funcFrom(0)}
			check(t, "as many, with imports", m, make([]int, codes), ok)
		}
	}
}

// P11.1, step 1: each kind of an import and of an export, at each place.
func TestKinds(t *testing.T) {
	for kind := range 256 {
		e := errArg
		if kind < 4 {
			e = ok
		}
		for at := range 3 {
			imports := []api.Import{funcFrom(0), funcFrom(0), funcFrom(0)}
			imports[at] = api.Import{Kind: uint8(kind), Glob: val(i64)}
			m := api.Module{Types: []api.FuncType{{}}, Imports: imports}
			check(t, "import of kind "+strconv.Itoa(kind), m, nil, e)

			m = api.Module{Types: []api.FuncType{{}}, Imports: []api.Import{funcFrom(0), tableFrom(api.Limits{}), memFrom(api.Limits{}), globalFrom(val(i32))}}
			m.Exports = []api.Export{{Name: "a"}, {Name: "b"}, {Name: "c"}}
			m.Exports[at].Kind = uint8(kind)
			check(t, "export of kind "+strconv.Itoa(kind), m, nil, e)
		}
	}
}

// P11.1, step 2: each byte in the place of a type, at each place.
func TestTypes(t *testing.T) {
	for b := range 256 {
		e, own := errType, uint8(b)
		if own == i32 || own == i64 {
			e = ok
		}
		for at := range 3 {
			for _, x := range []api.FuncType{
				fn(types(own)),
				fn(nil, own),
				fn(types(own, i32, i64), i64),
				fn(types(i64, own, i32)),
				fn(types(i32, i64, own)),
				fn(types(i32), own),
			} {
				m := api.Module{Types: []api.FuncType{fn(nil, i32), {}, fn(types(i64))}}
				m.Types[at] = x
				check(t, "a type of "+strconv.Itoa(b), m, nil, e)
			}
		}
	}
}

// P11.1, step 2: a type gives one value at most; it takes as many as it will, and there may be as many types.
func TestResults(t *testing.T) {
	for n := range 6 {
		e := errType
		if n < 2 {
			e = ok
		}
		for at := range 3 {
			m := api.Module{Types: make([]api.FuncType, 3)}
			m.Types[at].Results = slices.Repeat(types(i64), n)
			check(t, strconv.Itoa(n)+" results", m, nil, e)
			m.Types[at].Params = types(i32, i32, i32)
			check(t, strconv.Itoa(n)+" results of three", m, nil, e)
		}
	}
	check(t, "parameters", api.Module{Types: []api.FuncType{fn(slices.Repeat(types(i32, i64), 5000), i64)}}, nil, ok)
	check(t, "types", api.Module{Types: make([]api.FuncType, 5000)}, nil, ok)
}

// beyond are numbers from the first one on that is not there.
func beyond(n int) []uint32 {
	first := uint32(n)
	return []uint32{first, first + 1, first + 1<<8, first + 1<<16, 1<<31 - 1, 1 << 31, most - 1, most}
}

// P11.1, step 3: the type of an imported function, and of an own one.
func TestTypeNumbers(t *testing.T) {
	for n := range 4 {
		m := api.Module{Types: make([]api.FuncType, n), Funcs: make([]uint32, 3), Codes: make([]api.Code, 3)}
		for at := range 3 {
			try := func(i uint32, e api.Errno) {
				t.Helper()
				m := m
				m.Funcs, m.Codes = nil, nil
				m.Imports = []api.Import{globalFrom(val(i32)), tableFrom(api.Limits{}), memFrom(api.Limits{})}
				m.Imports[at] = funcFrom(i)
				check(t, "an imported function of type "+strconv.Itoa(int(i)), m, nil, e)
			}
			for i := range n {
				try(uint32(i), ok)
				m.Funcs[at] = uint32(i)
				check(t, "a function of type "+strconv.Itoa(i), m, make([]int, 3), ok)
			}
			for _, i := range beyond(n) {
				try(i, errIndex)
				if n > 0 {
					m.Funcs[at] = i
					check(t, "a function of type "+strconv.Itoa(int(i)), m, nil, errIndex)
					m.Funcs[at] = 0
				}
			}
		}
	}
	check(t, "functions without types", api.Module{Funcs: make([]uint32, 2), Codes: make([]api.Code, 2)}, nil, errIndex)
}

// P11.1, step 3: an import is asked for no more than its kind has; whether a global may be changed is not asked.
func TestImports(t *testing.T) {
	for b := range 256 {
		e, own := errType, uint8(b)
		if own == i32 || own == i64 {
			e = ok
		}
		for at := range 3 {
			for _, g := range []api.GlobalType{val(own), mut(own)} {
				m := api.Module{Types: []api.FuncType{{}}, Imports: []api.Import{funcFrom(0), globalFrom(val(i32)), tableFrom(api.Limits{})}}
				m.Imports[at] = globalFrom(g)
				check(t, "an imported global of "+strconv.Itoa(b), m, nil, e)
			}
		}
	}
	wrong := api.Import{Mod: "\xff", Name: "\xff", Type: 9, Lim: api.Limits{Min: 2, Max: 1}, Glob: val(api.F32)}
	for kind := range uint8(4) {
		x := wrong
		x.Kind = kind
		switch kind {
		case api.ExFunc:
			x.Type = 0
		case api.ExGlobal:
			x.Glob = val(i64)
		default:
			x.Lim = api.Limits{Min: 1, Max: 2}
		}
		check(t, "an import with what it has not", api.Module{Types: []api.FuncType{{}}, Imports: []api.Import{x}}, nil, ok)
	}
	twice := []api.Import{funcFrom(0), globalFrom(val(i32)), funcFrom(0), globalFrom(val(i32)), funcFrom(0)}
	check(t, "imports of one name", api.Module{Types: []api.FuncType{{}}, Imports: twice}, nil, ok)
}

// tablesOf and memsOf are a module of that many imported and own ones.
func tablesOf(from, own int, l api.Limits) api.Module {
	return api.Module{Imports: slices.Repeat([]api.Import{tableFrom(l)}, from), Tables: slices.Repeat([]api.Limits{l}, own)}
}

func memsOf(from, own int, l api.Limits) api.Module {
	return api.Module{Imports: slices.Repeat([]api.Import{memFrom(l)}, from), Mems: slices.Repeat([]api.Limits{l}, own)}
}

// P11.1, step 4: one table and one memory, be they imported or not.
func TestOneOfEach(t *testing.T) {
	for from := range 4 {
		for own := range 4 {
			e := errLimits
			if from+own < 2 {
				e = ok
			}
			what := strconv.Itoa(from) + " imported, " + strconv.Itoa(own) + " own"
			check(t, what+" tables", tablesOf(from, own, api.Limits{Max: -1}), nil, e)
			check(t, what+" memories", memsOf(from, own, api.Limits{Max: -1}), nil, e)
		}
	}
	for _, tables := range []api.Module{tablesOf(0, 1, api.Limits{}), tablesOf(1, 0, api.Limits{})} {
		for _, mems := range []api.Module{memsOf(0, 1, api.Limits{}), memsOf(1, 0, api.Limits{})} {
			check(t, "a table and a memory", api.Module{Imports: slices.Concat(tables.Imports, mems.Imports), Tables: tables.Tables, Mems: mems.Mems}, nil, ok)
		}
	}
}

// P11.1, step 4: what a table's and a memory's limits may be.
func TestLimits(t *testing.T) {
	for _, c := range []struct {
		min        uint32
		max        int64
		table, mem api.Errno
	}{
		{0, -1, ok, ok},
		{1, -1, ok, ok},
		{65535, -1, ok, ok},
		{65536, -1, ok, ok},
		{65537, -1, ok, errLimits},
		{most, -1, ok, errLimits},
		{0, 0, ok, ok},
		{1, 1, ok, ok},
		{1, 0, errLimits, errLimits},
		{2, 1, errLimits, errLimits},
		{2, 2, ok, ok},
		{2, 3, ok, ok},
		{0, 65535, ok, ok},
		{0, 65536, ok, ok},
		{0, 65537, ok, errLimits},
		{65535, 65536, ok, ok},
		{65536, 65536, ok, ok},
		{65536, 65535, errLimits, errLimits},
		{65536, 65537, ok, errLimits},
		{65537, 65537, ok, errLimits},
		{65537, 65536, errLimits, errLimits},
		{0, most, ok, errLimits},
		{most, most, ok, errLimits},
		{most, most - 1, errLimits, errLimits},
		{0, most + 1, errLimits, errLimits},
		{most, most + 1, errLimits, errLimits},
		{0, most + 2, errLimits, errLimits},
		{1, most + 2, errLimits, errLimits},
		{0, 1<<63 - 1, errLimits, errLimits},
		{0, -2, errLimits, errLimits},
		{1, -2, errLimits, errLimits},
		{most, -2, errLimits, errLimits},
		{0, -1 << 32, errLimits, errLimits},
		{0, -1 << 63, errLimits, errLimits},
		{1 << 31, 1<<31 - 1, errLimits, errLimits},
		{1 << 31, 1 << 31, ok, errLimits},
	} {
		l := api.Limits{Min: c.min, Max: c.max}
		what := strconv.Itoa(int(c.min)) + " to " + strconv.FormatInt(c.max, 10)
		check(t, "a table from "+what, tablesOf(0, 1, l), nil, c.table)
		check(t, "an imported table from "+what, tablesOf(1, 0, l), nil, c.table)
		check(t, "a memory from "+what, memsOf(0, 1, l), nil, c.mem)
		check(t, "an imported memory from "+what, memsOf(1, 0, l), nil, c.mem)
	}
}

// P11.1, step 5: each byte in the place of an own global's type, at each place; whether it may be changed is not asked.
func TestGlobals(t *testing.T) {
	for b := range 256 {
		own := uint8(b)
		for at := range 3 {
			for _, g := range []api.GlobalType{val(own), mut(own)} {
				globals := []api.Global{{Type: val(i32), Init: written("i32.const 1")}, {Type: mut(i64), Init: written("i64.const 1")}, {Type: mut(i32), Init: written("i32.const 1")}}
				for _, text := range []string{"i32.const 1", "i64.const 1", "nop", ""} {
					globals[at] = api.Global{Type: g, Init: written(text)}
					e := errType
					switch {
					case own != i32 && own != i64:
					case text == "" || text == "nop":
						e = errConst
					case own == i32 && text == "i32.const 1" || own == i64 && text == "i64.const 1":
						e = ok
					}
					check(t, "a global of "+strconv.Itoa(b)+": "+text, api.Module{Globals: globals}, nil, e)
				}
			}
		}
	}
}

// expression is one, and what is told of it where an i32, and where an i64, is asked for. Globals are as whole has them.
type expression struct {
	text         string
	list         []api.Instr
	ofI32, ofI64 api.Errno
}

func expressions() []expression {
	var l []expression
	add := func(ofI32, ofI64 api.Errno, texts ...string) {
		for _, text := range texts {
			l = append(l, expression{text, written(text), ofI32, ofI64})
		}
	}
	add(ok, errType, "i32.const 0", "i32.const -2147483648", "i32.const 2147483647", "global.get 0")
	add(errType, ok, "i64.const 0", "i64.const -9223372036854775808", "i64.const 9223372036854775807", "global.get 1")
	add(errConst, errConst, "", "global.get 2", "global.get 3")
	// Global 4 is the first one that is not imported, 8 the last one that there is.
	for _, i := range []string{"4", "5", "6", "7", "8", "9", "10", "256", "65536", "2147483647", "2147483648", "4294967295"} {
		add(errIndex, errIndex, "global.get "+i)
	}
	add(errConst, errConst,
		"i32.const 0, i32.const 0",
		"i64.const 0, i64.const 0",
		"i32.const 0, i64.const 0",
		"i32.const 0, nop",
		"nop, i32.const 0",
		"nop, nop",
		"i64.const 0, end",
		"i32.const 0, drop",
		"global.get 0, global.get 0",
		"global.get 0, global.get 9",
		"global.get 9, global.get 9",
		"global.get 2, global.get 2",
		"i32.const 1, i32.const 2, i32.add",
		"i64.const 0, i32.wrap_i64",
		"block i32, i32.const 0, end",
		"i32.const 0, i32.const 0, i32.const 0, i32.const 0")
	for op := range 256 {
		switch uint8(op) {
		case api.OpI32Const, api.OpI64Const, api.OpGlobalGet:
			continue
		}
		l = append(l, expression{"opcode " + strconv.Itoa(op), []api.Instr{{Op: uint8(op)}}, errConst, errConst})
	}
	return l
}

// P11.1, steps 5, 8, 10: expressions that are constant and that are not, of an i32 and of an i64, at each place.
func TestConstants(t *testing.T) {
	for _, x := range expressions() {
		for _, base := range []func() api.Module{whole, elsewhere} {
			for at := range base().Globals {
				for _, g := range []api.GlobalType{val(i32), mut(i32)} {
					m := base()
					m.Codes[2].Body = written("i64.const 1")
					m.Globals[at] = api.Global{Type: g, Init: slices.Clone(x.list)}
					checkConstant(t, "global: "+x.text, m, x.ofI32)
					m.Globals[at].Type.T = i64
					checkConstant(t, "global: "+x.text, m, x.ofI64)
				}
			}
			for at := range base().Elems {
				m := base()
				m.Elems[at].Offset = slices.Clone(x.list)
				checkConstant(t, "elements: "+x.text, m, x.ofI32)
			}
			for at := range base().Datas {
				m := base()
				m.Datas[at].Offset = slices.Clone(x.list)
				checkConstant(t, "data: "+x.text, m, x.ofI32)
			}
		}
	}
}

// checkConstant leaves the heights to the model.
func checkConstant(t *testing.T, what string, m api.Module, e api.Errno) {
	t.Helper()
	if _, got := valid.Check(m); got != e {
		t.Errorf("%s: %d, want %d: %s", what, got, e, shown(m))
	}
	checkModel(t, m)
}

// P11.1: a global's number means what it does among all imports, not where its import stands; there are none to begin as, if none is imported.
func TestConstantGlobals(t *testing.T) {
	begins := func(g api.GlobalType, i uint32) []api.Global {
		return []api.Global{{Type: g, Init: []api.Instr{{Op: api.OpGlobalGet, A: i}}}}
	}
	m := api.Module{Types: []api.FuncType{{}}, Imports: []api.Import{funcFrom(0), tableFrom(api.Limits{}), globalFrom(val(i32)), memFrom(api.Limits{}), globalFrom(val(i64)), funcFrom(0), globalFrom(mut(i32))}}
	for _, c := range []struct {
		g api.GlobalType
		i uint32
		e api.Errno
	}{
		{val(i32), 0, ok},
		{mut(i32), 0, ok},
		{val(i64), 0, errType},
		{val(i64), 1, ok},
		{mut(i64), 1, ok},
		{val(i32), 1, errType},
		{val(i32), 2, errConst},
		{mut(i32), 2, errConst},
		{val(i64), 2, errConst},
		{val(i32), 3, errIndex},
		{val(i32), 4, errIndex},
		{val(i32), 6, errIndex},
	} {
		m.Globals = begins(c.g, c.i)
		check(t, "a global that begins as global "+strconv.Itoa(int(c.i)), m, nil, c.e)
	}
	for i := range uint32(4) {
		check(t, "a global that begins as an own one", api.Module{Globals: slices.Repeat(begins(val(i32), i), 3)}, nil, errIndex)
		check(t, "a global that begins as an own one, which is Mut", api.Module{Globals: slices.Repeat(begins(mut(i32), i), 3)}, nil, errIndex)
	}
}

// P11.1, step 6: what an export names, of each kind, imported and own.
func TestExports(t *testing.T) {
	for _, base := range []func() api.Module{whole, elsewhere} {
		for kind, n := range []int{8, 1, 1, 9} {
			for at := range base().Exports {
				for i := range n {
					m := base()
					m.Exports[at].Kind, m.Exports[at].Index = uint8(kind), uint32(i)
					check(t, "an export", m, wholeHeights(), ok)
				}
				for _, i := range beyond(n) {
					m := base()
					m.Exports[at].Kind, m.Exports[at].Index = uint8(kind), i
					check(t, "an export of what is not there", m, nil, errIndex)
				}
			}
		}
	}
	for kind := range uint8(4) {
		for _, i := range beyond(0) {
			check(t, "an export of a module of nothing", api.Module{Exports: []api.Export{{Kind: kind, Index: i}}}, nil, errIndex)
		}
	}
}

// P11.1, step 6: names, by their bytes alone, be what is exported of one kind or of two, one thing or two.
func TestNames(t *testing.T) {
	names := []string{"", "a", "A", "b", "aa", "a ", "\x00", "a\x00", "é", "e\u0301", "\xff", "main"}
	m := whole()
	m.Exports = nil
	for i, name := range names {
		m.Exports = append(m.Exports, api.Export{Name: name, Kind: uint8(i % 4)})
	}
	check(t, "names", m, wholeHeights(), ok)
	for i := range names {
		for j := range i {
			for kind := range uint8(4) {
				was := m.Exports[i]
				m.Exports[i] = api.Export{Name: names[j], Kind: kind}
				check(t, "a name twice", m, nil, errTwice)
				m.Exports[i].Index = 99
				check(t, "a name twice, of what is not there", m, nil, errIndex)
				m.Exports[i] = was
			}
		}
	}
	m.Exports = slices.Repeat([]api.Export{{Name: "main", Index: 3}}, 3)
	check(t, "a name three times", m, nil, errTwice)
	m = whole()
	for i := range m.Imports {
		m.Imports[i].Mod, m.Imports[i].Name = "main", "main"
	}
	check(t, "an import's name", m, wholeHeights(), ok)
}

// P11.1, step 7: the function with which it starts; without HasStart nothing is asked of it.
func TestStart(t *testing.T) {
	for _, base := range []func() api.Module{whole, elsewhere} {
		m := base()
		m.Types = append(m.Types, fn(types(i32)), fn(nil, i32))
		m.Funcs = append(m.Funcs, 5, 6, 0)
		m.Codes = append(m.Codes, api.Code{}, api.Code{Body: written("unreachable")}, api.Code{})
		heights := append(wholeHeights(), 0, 0, 0)
		starts := func(i uint32, e api.Errno) {
			t.Helper()
			m := m
			m.Start = i
			want := heights
			if e != ok {
				want = nil
			}
			check(t, "a start of function "+strconv.Itoa(int(i)), m, want, e)
			m.HasStart = false
			check(t, "no start of function "+strconv.Itoa(int(i)), m, heights, ok)
		}
		for i, e := range []api.Errno{errStart, errStart, ok, ok, errStart, errStart, errStart, ok, errStart, errStart, ok} {
			starts(uint32(i), e)
		}
		for _, i := range beyond(11) {
			starts(i, errStart)
		}
	}
	check(t, "a start of nothing", api.Module{HasStart: true}, nil, errStart)
	check(t, "a type alone to start with", api.Module{Types: []api.FuncType{{}}, HasStart: true}, nil, errStart)
	check(t, "no start", api.Module{Start: most}, nil, ok)
}

// P11.1, step 8: an element's table, then its expression, then its functions one by one.
func TestElements(t *testing.T) {
	for _, base := range []func() api.Module{whole, elsewhere} {
		for at := range 3 {
			for _, i := range beyond(1) {
				m := base()
				m.Elems[at].Table = i
				check(t, "elements of a table that is not there", m, nil, errIndex)
				m.Elems[at].Offset = nil
				check(t, "elements of a table that is not there, without an offset", m, nil, errIndex)
			}
			for n := range 3 {
				for i := range uint32(8) {
					m := base()
					m.Elems[at].Funcs[n] = i
					check(t, "elements", m, wholeHeights(), ok)
				}
				for _, i := range beyond(8) {
					m := base()
					m.Elems[at].Funcs[n] = i
					check(t, "elements of a function that is not there", m, nil, errIndex)
					m.Elems[at].Offset = written("nop")
					check(t, "elements of a function that is not there, without an offset", m, nil, errConst)
					m.Elems[at].Offset = written("i64.const 0")
					check(t, "elements of a function that is not there, at an i64", m, nil, errType)
				}
			}
		}
	}
	zero := written("i32.const 0")
	check(t, "elements without a table", api.Module{Elems: []api.Elem{{Offset: zero}}}, nil, errIndex)
	check(t, "elements without a table, with a memory", api.Module{Mems: make([]api.Limits, 1), Elems: []api.Elem{{Offset: zero}}}, nil, errIndex)
	check(t, "elements of nothing", api.Module{Tables: make([]api.Limits, 1), Elems: []api.Elem{{Offset: zero}, {Offset: zero}}}, nil, ok)
	check(t, "more elements than the table has", api.Module{Types: []api.FuncType{{}}, Imports: []api.Import{funcFrom(0)}, Tables: make([]api.Limits, 1), Elems: []api.Elem{{Offset: zero, Funcs: make([]uint32, 9)}}}, nil, ok)
}

// P11.1, step 10: data's memory, then its expression; its bytes are not asked.
func TestDatas(t *testing.T) {
	for _, base := range []func() api.Module{whole, elsewhere} {
		for at := range 3 {
			for _, i := range beyond(1) {
				m := base()
				m.Datas[at].Mem = i
				check(t, "data of a memory that is not there", m, nil, errIndex)
				m.Datas[at].Offset = nil
				check(t, "data of a memory that is not there, without an offset", m, nil, errIndex)
			}
			m := base()
			m.Datas[at].B = make([]byte, 1<<17)
			check(t, "data that does not lie in the memory", m, wholeHeights(), ok)
		}
	}
	zero := written("i32.const 0")
	check(t, "data without a memory", api.Module{Datas: []api.Data{{Offset: zero}}}, nil, errIndex)
	check(t, "data without a memory, with a table", api.Module{Tables: make([]api.Limits, 1), Datas: []api.Data{{Offset: zero}}}, nil, errIndex)
	check(t, "data of nothing", api.Module{Mems: make([]api.Limits, 1), Datas: []api.Data{{Offset: zero}, {Offset: zero}}}, nil, ok)
}

// wrongCode is a code's body that is not well typed in a function of any type, and layer 10's error of it.
type wrongCode struct {
	text string
	e    api.Errno
}

func illTyped() []wrongCode {
	return []wrongCode{
		{"block", errArg},
		{"end", errArg},
		{"else", errArg},
		{"unreachable, block", errArg},
		{"call 99, end", errArg},
		{"call 8", errIndex},
		{"call 4294967295", errIndex},
		{"local.get 99", errIndex},
		{"local.set 99", errIndex},
		{"local.tee 99", errIndex},
		{"global.get 9", errIndex},
		{"global.set 9", errIndex},
		{"unreachable, call_indirect 5", errIndex},
		{"unreachable, call 8", errIndex},
		{"br 1", errLabel},
		{"br_if 1", errLabel},
		{"br_table 0 1", errLabel},
		{"br_table 1 0", errLabel},
		{"block, br 2, end", errLabel},
		{"unreachable, br 1", errLabel},
		{"i32.add", errType},
		{"drop", errType},
		{"global.set 0", errType},
		{"unreachable, i64.const 1, i32.eqz, drop", errType},
		{"i32.const 1, i32.const 1", errType},
		{"i32.const 0, i64.load 4 0, drop", errType},
		{"block i32, end, drop", errType},
		{"i64.const 1, if, end", errType},
	}
}

// P11.1, step 9: each code is held against its own function's type, and has the error that layer 10 tells.
func TestCodes(t *testing.T) {
	for _, base := range []func() api.Module{whole, elsewhere} {
		for at := range base().Codes {
			for _, x := range illTyped() {
				m := base()
				m.Codes[at] = api.Code{Body: written(x.text)}
				check(t, x.text, m, nil, x.e)
			}
			m := base()
			m.Codes[at] = api.Code{Locals: []api.Local{{N: 1, T: api.F32}}, Body: written("unreachable")}
			check(t, "a local of floats", m, nil, errType)
			m.Codes[at] = api.Code{Body: written("unreachable, nop")}
			m.Codes[at].Body[1].A = 1
			check(t, "a nop with A", m, nil, errArg)
		}
	}
}

// P11.1, step 9: a table and a memory that are not there, imported and own ones that are.
func TestCodesLack(t *testing.T) {
	for _, c := range []struct {
		text   string
		height int
		kind   uint8
	}{
		{"i32.const 0, call_indirect 0", 1, api.ExTable},
		{"memory.size, drop", 1, api.ExMem},
		{"i32.const 0, memory.grow, drop", 1, api.ExMem},
		{"i32.const 0, i32.load 2 0, drop", 1, api.ExMem},
		{"i32.const 0, i64.const 0, i64.store8 0 0", 2, api.ExMem},
	} {
		one := []api.Limits{{}}
		for n, m := range []api.Module{
			{},
			{Tables: one, Imports: []api.Import{globalFrom(val(i32))}},
			{Imports: []api.Import{globalFrom(val(i32)), tableFrom(one[0])}},
			{Mems: one, Imports: []api.Import{funcFrom(0)}},
			{Imports: []api.Import{memFrom(one[0]), funcFrom(0)}},
		} {
			m.Types, m.Funcs, m.Codes = []api.FuncType{{}}, []uint32{0}, []api.Code{{Body: written(c.text)}}
			if n > 0 && (n < 3) == (c.kind == api.ExTable) {
				check(t, c.text, m, []int{c.height}, ok)
			} else {
				check(t, c.text, m, nil, errIndex)
			}
		}
	}
}

// P11.1: which code is whose: the same codes fit in their own order alone, however many functions are imported.
func TestCodesInOrder(t *testing.T) {
	for imports := range 4 {
		for other := range 3 {
			m := api.Module{Types: []api.FuncType{{}, fn(nil, i32), fn(types(i64), i64)}, Funcs: []uint32{2, 0, 1}}
			for range imports {
				m.Imports = append(m.Imports, funcFrom(uint32(other)))
			}
			bodies := []api.Code{{Body: written("local.get 0, local.get 0, i64.add")}, {}, {Body: written("i32.const 1")}}
			for _, order := range [][]int{{0, 1, 2}, {0, 2, 1}, {1, 0, 2}, {1, 2, 0}, {2, 0, 1}, {2, 1, 0}} {
				m.Codes = []api.Code{bodies[order[0]], bodies[order[1]], bodies[order[2]]}
				if slices.IsSorted(order) {
					check(t, "codes in order", m, []int{2, 0, 1}, ok)
				} else {
					check(t, "codes in another order", m, nil, errType)
				}
			}
		}
	}
}

// P11.1: of each code, how high its stack grows, as layer 10 tells.
func TestHeights(t *testing.T) {
	var m api.Module
	var want []int
	m.Types = []api.FuncType{{}, fn(nil, i64)}
	m.Imports = []api.Import{funcFrom(1), globalFrom(val(i64)), funcFrom(1)}
	for _, n := range []int{3, 0, 1, 7, 2, 0, 40, 512, 513, 9000, 1, 0} {
		m.Funcs = append(m.Funcs, uint32(len(want)%2))
		m.Codes = append(m.Codes, api.Code{Body: append(slices.Repeat(written("global.get 0"), n), written("unreachable")...)})
		want = append(want, n)
	}
	check(t, "heights", m, want, ok)
	s := space.Of(m)
	got, _ := valid.Check(m)
	for i, c := range m.Codes {
		f, _ := s.Func(uint32(2 + i))
		if h, e := body.Check(s, f, c); e != ok || h != got[i] {
			t.Errorf("code %d: %d, layer 10 tells %d, %d", i, got[i], h, e)
		}
	}
}

// P11.1: what layer 10 tells of a code of each opcode, alone and behind what is not reached, is what is told of the module.
func TestOpcodes(t *testing.T) {
	for op := range 256 {
		for _, ahead := range []string{"", "unreachable", "i32.const 0", "i64.const 0, i64.const 0"} {
			for _, x := range []api.Instr{{Op: uint8(op)}, {Op: uint8(op), A: uint32(api.BlockNone)}, {Op: uint8(op), A: 1}} {
				m := whole()
				m.Codes[4].Body = append(written(ahead), x)
				height, e := body.Check(space.Of(m), api.FuncType{}, m.Codes[4])
				if e != ok {
					check(t, opc.Name(uint8(op)), m, nil, e)
					continue
				}
				check(t, opc.Name(uint8(op)), m, []int{2, 1, 3, 2, height}, ok)
			}
		}
	}
}
