package rule_test

import (
	"slices"
	"strings"
	"testing"

	"gabelle/api"
)

// fault is something that is amiss in a module of everything.
type fault struct {
	what string
	does func(m api.Module) api.Module
	e    api.Errno
}

// of is a fault that is there when some of the module's parts are set.
func of(what string, e api.Errno, set func(m *api.Module)) fault {
	return fault{what, func(m api.Module) api.Module {
		m = copyOf(m)
		set(&m)
		return m
	}, e}
}

// nowhere is a number of nothing, however much there is.
const nowhere = 1 << 31

// first is the number of the module's first own function.
func first(m *api.Module) uint32 {
	n := uint32(0)
	for _, x := range m.Imports {
		if x.Kind == api.ExFunc {
			n++
		}
	}
	return n
}

// named is the export of that name, which there is.
func named(m *api.Module, name string) *api.Export {
	return &m.Exports[slices.IndexFunc(m.Exports, func(x api.Export) bool { return x.Name == name })]
}

// limitsOf is where the limits of the only one of a kind stand.
func limitsOf(m *api.Module, kind uint8) *api.Limits {
	for i := range m.Imports {
		if m.Imports[i].Kind == kind {
			return &m.Imports[i].Lim
		}
	}
	if kind == api.ExTable {
		return &m.Tables[0]
	}
	return &m.Mems[0]
}

// validFaults break each of valid's steps.
func validFaults() []fault {
	return slices.Concat(headFaults(), entryFaults(), codeFaults())
}

func headFaults() []fault {
	return []fault{
		of("a code less", errArg, func(m *api.Module) { m.Codes = m.Codes[:len(m.Codes)-1] }),
		of("a function more", errArg, func(m *api.Module) { m.Funcs = append(m.Funcs, 16) }),
		of("an import of kind 4", errArg, func(m *api.Module) { m.Imports[4].Kind = 4 }),
		of("an export of kind 255", errArg, func(m *api.Module) { m.Exports[4].Kind = 255 }),
		of("a type that gives two", errType, func(m *api.Module) { m.Types[5].Results = types(i32, i32) }),
		of("a type that takes an f32", errType, func(m *api.Module) { m.Types[1].Params[1] = api.F32 }),
		of("an imported function without a type", errIndex, func(m *api.Module) { m.Imports[7].Type = nowhere }),
		{"an imported global of f64", func(m api.Module) api.Module {
			return imported(m, api.Import{Kind: api.ExGlobal, Glob: api.GlobalType{T: api.F64}})
		}, errType},
		of("a function without a type", errIndex, func(m *api.Module) { m.Funcs[2] = nowhere }),
		of("two tables", errLimits, func(m *api.Module) { m.Tables = make([]api.Limits, 2) }),
		of("two memories", errLimits, func(m *api.Module) { m.Mems = make([]api.Limits, 2) }),
		of("a table from 2 to 1", errLimits, func(m *api.Module) { *limitsOf(m, api.ExTable) = api.Limits{Min: 2, Max: 1} }),
		of("a table of more than 32 bits", errLimits, func(m *api.Module) { *limitsOf(m, api.ExTable) = api.Limits{Min: most, Max: most + 1} }),
		of("a memory from 3 to 2", errLimits, func(m *api.Module) { *limitsOf(m, api.ExMem) = api.Limits{Min: 3, Max: 2} }),
		of("a memory of 65537 pages", errLimits, func(m *api.Module) { *limitsOf(m, api.ExMem) = api.Limits{Min: 65537, Max: -1} }),
	}
}

func entryFaults() []fault {
	return []fault{
		of("a global of f32", errType, func(m *api.Module) { m.Globals[0].Type.T = api.F32 }),
		of("a global that begins as nothing", errConst, func(m *api.Module) { m.Globals[1].Init = nil }),
		of("a global that begins as one of the other type", errType, func(m *api.Module) { m.Globals[1].Init = con(1) }),
		of("a global that begins as one that is not there", errIndex, func(m *api.Module) { m.Globals[1].Init = opA(api.OpGlobalGet, nowhere) }),
		of("an export of what is not there", errIndex, func(m *api.Module) { m.Exports[2].Index = nowhere }),
		of("two exports of one name", errTwice, func(m *api.Module) { m.Exports = append(m.Exports, m.Exports[2]) }),
		of("two exports as main", errTwice, func(m *api.Module) { m.Exports = append(m.Exports, main(first(m)), main(first(m))) }),
		of("a start that is not there", errStart, func(m *api.Module) { m.Start = nowhere }),
		of("a start that takes", errStart, func(m *api.Module) { m.Start = first(m) + 1 }),
		of("an element of no table", errIndex, func(m *api.Module) { m.Elems[1].Table = 1 }),
		of("an element from nowhere", errConst, func(m *api.Module) { m.Elems[0].Offset = nil }),
		of("an element from one of the other type", errType, func(m *api.Module) { m.Elems[0].Offset = con64(0) }),
		of("an element of a function that is not there", errIndex, func(m *api.Module) { m.Elems[1].Funcs[0] = nowhere }),
		of("data of no memory", errIndex, func(m *api.Module) { m.Datas[1].Mem = 1 }),
		of("data from two places", errConst, func(m *api.Module) { m.Datas[0].Offset = body(con(0), con(0)) }),
		of("data from one of the other type", errType, func(m *api.Module) { m.Datas[1].Offset = con64(0) }),
	}
}

func codeFaults() []fault {
	return []fault{
		of("a code without bytes", errArg, func(m *api.Module) { m.Codes[0].Body = ends() }),
		of("a code that is not closed", errArg, func(m *api.Module) { m.Codes[3].Body = opens(api.OpLoop) }),
		of("a code of floats", errArg, func(m *api.Module) { m.Codes[2].Body = op(0x43) }),
		of("a code that leaves one", errType, func(m *api.Module) { m.Codes[2].Body = con(1) }),
		of("a code that wants one", errType, func(m *api.Module) { m.Codes[0].Body = op(api.OpDrop) }),
		of("a code with a local of f64", errType, func(m *api.Module) { m.Codes[2].Locals[0].T = api.F64 }),
		of("a code with a label that is not there", errLabel, func(m *api.Module) { m.Codes[3].Body = opA(api.OpBr, 1) }),
		of("a code with a function that is not there", errIndex, func(m *api.Module) { m.Codes[3].Body = opA(api.OpCall, nowhere) }),
		of("a code with a local that is not there", errIndex, func(m *api.Module) { m.Codes[0].Body = opA(api.OpLocalGet, nowhere) }),
	}
}

// sizeFaults have of one thing more than may be.
func sizeFaults() []fault {
	long := strings.Repeat("é", 32) + "a"
	add := func(what string, body ...[]api.Instr) fault {
		return of(what, errSize, func(m *api.Module) {
			m.Funcs, m.Codes = append(m.Funcs, 16), append(m.Codes, api.Code{Body: slices.Concat(body...)})
		})
	}
	l := []fault{
		of("types", errSize, func(m *api.Module) { m.Types = append(m.Types, make([]api.FuncType, 256)...) }),
		of("functions", errSize, func(m *api.Module) {
			m.Funcs = append(m.Funcs, slices.Repeat([]uint32{16}, 512)...)
			m.Codes = append(m.Codes, make([]api.Code, 512)...)
		}),
		of("globals", errSize, func(m *api.Module) { m.Globals = append(m.Globals, slices.Repeat(m.Globals[:1], 128)...) }),
		of("exports", errSize, func(m *api.Module) {
			for i := range 128 {
				m.Exports = append(m.Exports, api.Export{Name: strings.Repeat("x", i/2) + strings.Repeat("y", i%2+1)})
			}
		}),
		of("elements", errSize, func(m *api.Module) { m.Elems = append(m.Elems, slices.Repeat(m.Elems[:1], 64)...) }),
		of("data", errSize, func(m *api.Module) { m.Datas = append(m.Datas, slices.Repeat(m.Datas[:1], 64)...) }),
		of("parameters", errSize, func(m *api.Module) { m.Types = append(m.Types, fn(slices.Repeat(types(i32), 17))) }),
		of("an export's name", errSize, func(m *api.Module) { m.Exports = append(m.Exports, api.Export{Name: long}) }),
		of("an element's functions", errSize, func(m *api.Module) { m.Elems[1].Funcs = make([]uint32, 1025) }),
		of("a table", errSize, func(m *api.Module) { *limitsOf(m, api.ExTable) = api.Limits{Min: 1025, Max: -1} }),
		of("a memory", errSize, func(m *api.Module) { *limitsOf(m, api.ExMem) = api.Limits{Min: 17, Max: 17} }),
		of("locals", errSize, func(m *api.Module) { m.Codes[1].Locals = []api.Local{{N: 256, T: i32}} }),
		of("very many locals", errSize, func(m *api.Module) { m.Codes[1].Locals = []api.Local{{N: most, T: i32}, {N: 1, T: i64}} }),
		add("instructions", times(8193, op(api.OpNop))),
		add("blocks", nested(65, nil, api.OpBlock, api.OpLoop)),
		add("operands", times(513, con(1)), times(513, op(api.OpDrop))),
		add("labels", branch(257, 0)),
	}
	l = append(l, fault{"imports", func(m api.Module) api.Module {
		for range 64 {
			m = imported(m, env("self", 3))
		}
		return m
	}, errSize})
	for _, x := range []api.Import{{Mod: long, Name: "self", Type: 3}, {Mod: "env", Name: long, Type: 3}} {
		l = append(l, fault{"an import's name", func(m api.Module) api.Module { return imported(m, x) }, errSize})
	}
	return l
}

// importFaults import what is not offered.
func importFaults() []fault {
	l := []fault{
		of("of another module", errImport, func(m *api.Module) { m.Imports[3].Mod = "meter" }),
		of("of another name", errImport, func(m *api.Module) { m.Imports[15].Name = "gas" }),
		of("of another type", errImport, func(m *api.Module) { m.Imports[0].Type = 17 }),
		of("of another one's type", errImport, func(m *api.Module) { m.Imports[4].Type = 0 }),
	}
	for _, x := range []api.Import{
		env("sender", 3),
		env("self", 0),
		{Mod: "meter", Name: "charge", Type: 17},
		{Mod: "env", Name: "self", Kind: api.ExTable, Lim: api.Limits{Max: -1}},
		{Mod: "env", Name: "self", Kind: api.ExMem, Lim: api.Limits{Max: -1}},
		{Mod: "env", Name: "self", Kind: api.ExGlobal, Glob: api.GlobalType{T: i32}},
	} {
		l = append(l, fault{"an import more", func(m api.Module) api.Module { return imported(m, x) }, errImport})
	}
	return l
}

// exportFaults export no main, or a wrong one, or a wrong init.
func exportFaults() []fault {
	return []fault{
		of("no main", errExport, func(m *api.Module) { named(m, "main").Name = "Main" }),
		of("main that is a memory", errExport, func(m *api.Module) { named(m, "main").Name, named(m, "m").Name = "a", "main" }),
		of("main that takes and gives", errExport, func(m *api.Module) { named(m, "main").Index = first(m) + 1 }),
		of("init that takes and gives", errExport, func(m *api.Module) { named(m, "init").Index = first(m) + 1 }),
		of("init that is a global", errExport, func(m *api.Module) { named(m, "init").Name, named(m, "g").Name = "a", "init" }),
		of("both wrong", errExport, func(m *api.Module) { named(m, "init").Index, named(m, "main").Index = 1, 1 }),
	}
}

// P12.2: each fault alone, and any two of different kinds: the one that the promise names first is told.
func TestOrder(t *testing.T) {
	// What is put later may undo what was put ahead of it, so that what is told is put last.
	kinds := [][]fault{validFaults(), sizeFaults(), importFaults(), exportFaults()}
	for i, told := range kinds {
		for _, x := range told {
			check(t, x.what, x.does(whole()), x.e)
			for _, behind := range kinds[i+1:] {
				for _, y := range behind {
					check(t, x.what+", and "+y.what, x.does(y.does(whole())), x.e)
				}
			}
		}
	}
}

// P12.2: faults of all kinds at once.
func TestAllAmiss(t *testing.T) {
	var r random = 12
	pick := func(l []fault) fault { return l[r.next(len(l))] }
	sizes, imports, exports, valids := sizeFaults(), importFaults(), exportFaults(), validFaults()
	for range 600 {
		size, x, y := pick(sizes), pick(imports), pick(exports)
		m := size.does(x.does(y.does(whole())))
		check(t, size.what+", "+x.what+", "+y.what, m, errSize)
		v := pick(valids)
		check(t, v.what+", "+size.what+", "+x.what+", "+y.what, v.does(m), v.e)
	}
}
