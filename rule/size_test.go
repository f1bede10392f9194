package rule_test

import (
	"slices"
	"strconv"
	"strings"
	"testing"

	"gabelle/api"
)

// row is a size: a module that has so much of it, and what is told as long as that may be.
type row struct {
	what string
	most int
	of   func(n int) api.Module
	e    api.Errno
}

// rows are all sizes, each in some of the ways in which a module may have it.
func rows() []row {
	return slices.Concat(listRows(), globalRows(), nameRows(), entryRows(), limitsRows(), localRows(), bodyRows(), nestRows(), heightRows())
}

func listRows() []row {
	var l []row
	add := func(what string, most int, of func(n int) api.Module) { l = append(l, row{what, most, of, ok}) }
	add("types", 256, func(n int) api.Module {
		m := least()
		m.Types = make([]api.FuncType, n)
		return m
	})
	add("types of all kinds, the last one of main", 256, func(n int) api.Module {
		m := least()
		m.Types = append(slices.Repeat([]api.FuncType{fn(types(i32, i64), i64)}, n-1), fn(nil))
		m.Funcs[0] = uint32(n - 1)
		return m
	})
	add("imports", 64, func(n int) api.Module {
		m := least()
		m.Types = append(m.Types, fn(types(i32)))
		for i := range n {
			m = imported(m, env([]string{"self", "caller"}[i%2], 1))
		}
		return m
	})
	for _, from := range []int{0, 1, 64} {
		add("functions, behind "+strconv.Itoa(from)+" imported ones", 512, func(n int) api.Module {
			m := least()
			m.Types = append(m.Types, fn(types(i32)))
			m.Funcs, m.Codes = make([]uint32, n), make([]api.Code, n)
			for range from {
				m = imported(m, env("self", 1))
			}
			m.Exports = []api.Export{main(uint32(from + n - 1))}
			return m
		})
	}
	add("exports", 128, func(n int) api.Module {
		m := least()
		for i := range n - 1 {
			m.Exports = append(m.Exports, api.Export{Name: strconv.Itoa(i)})
		}
		return m
	})
	add("exports, the last one main", 128, func(n int) api.Module {
		m := whole()
		m.Exports = nil
		for i := range n - 1 {
			m.Exports = append(m.Exports, api.Export{Name: strconv.Itoa(i), Kind: uint8(i % 4)})
		}
		m.Exports = append(m.Exports, main(16))
		return m
	})
	add("elements", 64, func(n int) api.Module {
		m := least()
		m.Tables = make([]api.Limits, 1)
		m.Elems = slices.Repeat([]api.Elem{{Offset: con(0), Funcs: []uint32{0}}}, n)
		return m
	})
	add("data", 64, func(n int) api.Module {
		m := least()
		m.Mems = make([]api.Limits, 1)
		m.Datas = slices.Repeat([]api.Data{{Offset: con(0), B: make([]byte, 100)}}, n)
		return m
	})
	return l
}

// globals are own ones, behind imported ones.
func globals(from, own int) api.Module {
	m := least()
	for range from {
		m = imported(m, api.Import{Mod: "env", Name: "self", Kind: api.ExGlobal, Glob: api.GlobalType{T: i64}})
	}
	m.Globals = slices.Repeat([]api.Global{{Type: api.GlobalType{T: i32}, Init: con(1)}}, own)
	return m
}

func globalRows() []row {
	l := []row{
		{"own globals", 128, func(n int) api.Module { return globals(0, n) }, ok},
		{"globals of both types", 128, func(n int) api.Module {
			m := globals(0, n)
			for i := 0; i < n; i += 2 {
				m.Globals[i] = api.Global{Type: api.GlobalType{T: i64, Mut: true}, Init: con64(-1)}
			}
			return m
		}, ok},
	}
	for _, from := range []int{1, 2, 63, 64} {
		l = append(l, row{"globals, " + strconv.Itoa(from) + " of them imported", 128, func(n int) api.Module { return globals(from, max(n-from, 0)) }, errImport})
	}
	for _, own := range []int{0, 1, 64} {
		l = append(l, row{"imported globals, behind which are " + strconv.Itoa(own), 64, func(n int) api.Module { return globals(n, own) }, errImport})
	}
	return l
}

// letters are as many bytes, of letters of that many bytes each, and of one byte for what is left.
func letters(bytes int, letter string) string {
	return strings.Repeat(letter, bytes/len(letter)) + strings.Repeat("a", bytes%len(letter))
}

func nameRows() []row {
	var l []row
	for _, letter := range []string{"a", "é", "€", "𝄞", "\x00", "\xff"} {
		l = append(l,
			row{"an export's name", 64, func(n int) api.Module {
				m := least()
				m.Exports = append(m.Exports, api.Export{Name: letters(n, letter)})
				return m
			}, ok},
			row{"an export's name, of a memory, ahead of others", 64, func(n int) api.Module {
				m := whole()
				m.Exports[0].Name = letters(n, letter)
				return m
			}, ok},
			row{"an import's module", 64, func(n int) api.Module { return importing(letters(n, letter), "self", fn(types(i32))) }, errImport},
			row{"an import's name", 64, func(n int) api.Module { return importing("env", letters(n, letter), fn(types(i32))) }, errImport},
			row{"both of an import's names", 64, func(n int) api.Module { return importing(letters(n, letter), letters(n, letter), fn(types(i32))) }, errImport},
		)
		for _, kind := range []uint8{api.ExTable, api.ExMem, api.ExGlobal} {
			v := api.Import{Mod: "env", Name: "self", Kind: kind, Glob: api.GlobalType{T: i32}}
			l = append(l,
				row{"the module of an import that is no function", 64, func(n int) api.Module {
					v.Mod, v.Name = letters(n, letter), "self"
					return imported(whole(), v)
				}, errImport},
				row{"the name of an import that is no function", 64, func(n int) api.Module {
					v.Mod, v.Name = "env", letters(n, letter)
					return imported(least(), v)
				}, errImport},
			)
		}
	}
	return l
}

func entryRows() []row {
	var l []row
	for at := range 3 {
		for _, results := range [][]uint8{nil, types(i64)} {
			l = append(l, row{"a type's parameters", 16, func(n int) api.Module {
				m := least()
				m.Types = make([]api.FuncType, 3)
				m.Types[at] = fn(slices.Repeat(types(i64), n), results...)
				m.Funcs[0] = uint32((at + 1) % 3)
				return m
			}, ok})
		}
		l = append(l, row{"an element's functions", 1024, func(n int) api.Module {
			m := least()
			m.Tables = make([]api.Limits, 1)
			m.Elems = slices.Repeat([]api.Elem{{Offset: con(0), Funcs: []uint32{0}}}, 3)
			m.Elems[at].Funcs = make([]uint32, n)
			return m
		}, ok})
	}
	l = append(l,
		row{"a function's parameters", 16, func(n int) api.Module {
			m := whole()
			m.Types[17].Params = slices.Repeat(types(i64), n)
			m.Codes[1].Body = con(1)
			return m
		}, ok},
		row{"each element's functions", 1024, func(n int) api.Module {
			m := whole()
			for i := range m.Elems {
				m.Elems[i].Funcs = slices.Repeat([]uint32{17}, n)
			}
			return m
		}, ok},
		row{"a type's parameters, of an import", 16, func(n int) api.Module {
			return importing("env", "self", fn(slices.Repeat(types(i64), n)))
		}, errImport},
	)
	return l
}

func limitsRows() []row {
	var l []row
	for _, most := range []int64{-1, 1 << 16, 1<<32 - 1} {
		limits := func(n int) api.Limits { return api.Limits{Min: uint32(n), Max: most} }
		l = append(l,
			row{"a table's Min", 1024, func(n int) api.Module {
				m := whole()
				m.Tables[0] = limits(n)
				return m
			}, ok},
			row{"an imported table's Min", 1024, func(n int) api.Module {
				return imported(whole(), api.Import{Mod: "env", Name: "self", Kind: api.ExTable, Lim: limits(n)})
			}, errImport},
		)
	}
	for _, most := range []int64{-1, 1 << 16} {
		limits := func(n int) api.Limits { return api.Limits{Min: uint32(n), Max: most} }
		l = append(l,
			row{"a memory's Min", 16, func(n int) api.Module {
				m := whole()
				m.Mems[0] = limits(n)
				return m
			}, ok},
			row{"an imported memory's Min", 16, func(n int) api.Module {
				return imported(whole(), api.Import{Mod: "env", Name: "self", Kind: api.ExMem, Lim: limits(n)})
			}, errImport},
		)
	}
	l = append(l,
		row{"a table from and to", 1024, func(n int) api.Module {
			m := least()
			m.Tables = []api.Limits{{Min: uint32(n), Max: int64(n)}}
			return m
		}, ok},
		row{"a memory from and to", 16, func(n int) api.Module {
			m := least()
			m.Mems = []api.Limits{{Min: uint32(n), Max: int64(n)}}
			return m
		}, ok},
	)
	return l
}

// localsOf is a module whose function, of so many parameters, has these runs of locals; ahead of it and behind it are others, of other types.
func localsOf(params int, runs ...api.Local) api.Module {
	m := least()
	m.Types = []api.FuncType{fn(nil), fn(types(i32)), fn(slices.Repeat(types(i64), params)), fn(slices.Repeat(types(i32), 7))}
	m.Funcs = []uint32{0, 1, 2, 3, 3}
	m.Codes = []api.Code{{}, {Locals: []api.Local{{N: 255, T: i32}}}, {Locals: runs}, {Locals: []api.Local{{N: 200, T: i64}, {N: 49, T: i32}}}, {}}
	return imported(imported(m, env("self", 1)), env("self", 1))
}

func localRows() []row {
	var l []row
	for _, params := range []int{0, 1, 3, 16} {
		add := func(what string, runs func(n uint32) []api.Local) {
			of := func(n int) api.Module { return localsOf(params, runs(uint32(max(n-params, 0)))...) }
			l = append(l, row{what + ", with " + strconv.Itoa(params) + " parameters", 256, of, ok})
		}
		add("locals of one run", func(n uint32) []api.Local { return []api.Local{{N: n, T: i64}} })
		add("locals of two runs", func(n uint32) []api.Local { return []api.Local{{N: n / 2, T: i32}, {N: n - n/2, T: i64}} })
		add("locals of runs of one", func(n uint32) []api.Local { return slices.Repeat([]api.Local{{N: 1, T: i32}}, int(n)) })
		add("locals with runs of none", func(n uint32) []api.Local {
			none := slices.Repeat([]api.Local{{N: 0, T: i32}}, 300)
			return slices.Concat(none, []api.Local{{N: n, T: i64}}, none)
		})
		add("locals of all", func(n uint32) []api.Local {
			return slices.Concat(slices.Repeat([]api.Local{{N: 1, T: i32}, {N: 0, T: i64}}, int(n/4)), []api.Local{{N: n - n/4, T: i64}})
		})
	}
	return l
}

// coded is least with that as its first function's code, or its last one's, among others.
func coded(first bool, l ...[]api.Instr) api.Module {
	m := least()
	m.Funcs, m.Codes = make([]uint32, 3), make([]api.Code, 3)
	m.Codes[1].Body = body(con(1), op(api.OpDrop))
	if first {
		m.Codes[0].Body = body(l...)
	} else {
		m.Codes[2].Body = body(l...)
	}
	return m
}

func bodyRows() []row {
	var l []row
	for _, first := range []bool{true, false} {
		add := func(what string, most int, of func(n int) []api.Instr) {
			l = append(l, row{what, most, func(n int) api.Module { return coded(first, of(n)) }, ok})
		}
		add("instructions", 8192, func(n int) []api.Instr { return times(n, op(api.OpNop)) })
		add("instructions behind an end of all", 8192, func(n int) []api.Instr {
			return body(op(api.OpReturn), times(max(n-1, 0), op(api.OpNop)))
		})
		add("instructions and marks", 8192, func(n int) []api.Instr {
			return body(times(n/2, body(opens(api.OpBlock), ends())), times(n%2, op(api.OpNop)))
		})
		add("instructions and marks, with elses", 8192, func(n int) []api.Instr {
			return body(times(n/5, body(opens(api.OpIf), op(api.OpElse), ends(), op(api.OpNop))), times(n%5, op(api.OpNop)))
		})
		add("a br_table's labels", 256, func(n int) []api.Instr { return branch(n, 0) })
		add("a br_table's labels, of blocks", 256, func(n int) []api.Instr {
			return body(opens(api.OpBlock), opens(api.OpLoop), branch(3, 1), op(api.OpNop), branch(n, 0), branch(256, 1), ends(), ends())
		})
		add("a br_table's labels, which is not reached", 256, func(n int) []api.Instr {
			return body(op(api.OpUnreachable), branch(n, 0))
		})
	}
	l = append(l, row{"instructions of each of two codes", 8192, func(n int) api.Module {
		m := coded(true, times(n, op(api.OpNop)))
		m.Codes[2] = m.Codes[0]
		return m
	}, ok})
	return l
}

// nested opens blocks in one another, of these kinds by turns, with that in the innermost one.
func nested(n int, within []api.Instr, kinds ...uint8) []api.Instr {
	var l []api.Instr
	for i := range n {
		l = append(l, opens(kinds[i%len(kinds)])...)
	}
	return body(l, within, times(n, ends()))
}

func nestRows() []row {
	var l []row
	add := func(what string, of func(n int) []api.Instr) {
		for _, first := range []bool{true, false} {
			l = append(l, row{what, 64, func(n int) api.Module { return coded(first, of(n)) }, ok})
		}
	}
	for _, kind := range []uint8{api.OpBlock, api.OpLoop, api.OpIf} {
		add("blocks of one kind in one another", func(n int) []api.Instr { return nested(n, nil, kind) })
		add("blocks behind others", func(n int) []api.Instr {
			return body(times(200, nested(3, nil, kind)), nested(64, nil, api.OpLoop), nested(n, nil, kind), nested(64, nil, api.OpBlock))
		})
		add("blocks of one kind, ahead of which others have ended", func(n int) []api.Instr {
			return nested(n/2, body(nested(5, nil, api.OpBlock), nested(n-n/2, nil, kind), nested(5, nil, api.OpLoop)), kind)
		})
		add("blocks that are not reached", func(n int) []api.Instr { return body(op(api.OpUnreachable), nested(n, nil, kind)) })
	}
	add("blocks of all kinds in one another", func(n int) []api.Instr { return nested(n, nil, api.OpBlock, api.OpLoop, api.OpIf) })
	add("ifs in one another's elses", func(n int) []api.Instr {
		return body(times(n, body(opens(api.OpIf), op(api.OpElse))), times(n, ends()))
	})
	add("blocks ahead of elses, and behind them", func(n int) []api.Instr {
		if n == 0 {
			return nil
		}
		within := nested(n-1, nil, api.OpBlock)
		return body(opens(api.OpIf), within, op(api.OpElse), within, ends(), within)
	})
	return l
}

func heightRows() []row {
	var l []row
	add := func(what string, of func(n int) []api.Instr) {
		for _, first := range []bool{true, false} {
			l = append(l, row{what, 512, func(n int) api.Module { return coded(first, of(n)) }, ok})
		}
	}
	drops := func(n int) []api.Instr { return times(n, op(api.OpDrop)) }
	add("operands", func(n int) []api.Instr { return body(times(n, con(1)), drops(n)) })
	add("operands of 64 bits", func(n int) []api.Instr { return body(times(n, con64(1)), drops(n)) })
	add("operands behind others", func(n int) []api.Instr {
		return body(times(512, con(1)), drops(512), times(n, con64(1)), drops(n), times(3, body(con(1), op(api.OpDrop))))
	})
	add("operands in a block", func(n int) []api.Instr {
		return body(times(n/2, con(1)), opens(api.OpBlock), times(n-n/2, con64(1)), drops(n-n/2), ends(), drops(n/2))
	})
	add("operands that are not reached", func(n int) []api.Instr { return body(op(api.OpUnreachable), times(n, con(1)), drops(n)) })
	return l
}

// P12.2: each size, up to its most and beyond it; and beyond it, too, where a wrong import, or a wrong export, is behind it.
func TestSizes(t *testing.T) {
	for _, x := range rows() {
		for _, n := range []int{1, x.most - 1, x.most} {
			check(t, x.what+": "+strconv.Itoa(n), x.of(n), x.e)
		}
		for _, n := range []int{x.most + 1, 2*x.most + 1} {
			check(t, x.what+": "+strconv.Itoa(n), x.of(n), errSize)
		}
		for _, n := range []int{x.most, x.most + 1} {
			checkAmiss(t, x, n)
		}
	}
}

// checkAmiss asks for a size, together with each of the other errors.
func checkAmiss(t *testing.T, x row, n int) {
	t.Helper()
	told := func(e api.Errno) api.Errno {
		if n > x.most {
			return errSize
		}
		return e
	}
	wrongImport := func(m api.Module) api.Module {
		switch {
		case x.e == errImport:
		case len(m.Imports) == 0:
			m = imported(m, env("sender", 0))
		default:
			m.Imports[0].Mod = "Env"
		}
		return m
	}
	noMain := func(m api.Module) api.Module {
		at := slices.IndexFunc(m.Exports, func(v api.Export) bool { return v.Name == "main" })
		m.Exports[at].Name = "Main"
		return m
	}
	behind := errExport
	if x.e == errImport {
		behind = errImport
	}
	check(t, x.what+", and no main", noMain(x.of(n)), told(behind))
	check(t, x.what+", and an import that may not be", wrongImport(x.of(n)), told(errImport))
	check(t, x.what+", and both", wrongImport(noMain(x.of(n))), told(errImport))
	m := wrongImport(noMain(x.of(n)))
	m.HasStart, m.Start = true, most
	check(t, x.what+", and a start that is not there", m, errStart)
}

// P12.2: runs of locals that are more than 32 bits hold, alone and together.
func TestHugeLocals(t *testing.T) {
	runs := func(l ...uint32) []api.Local {
		var runs []api.Local
		for i, n := range l {
			runs = append(runs, api.Local{N: n, T: types(i32, i64)[i%2]})
		}
		return runs
	}
	for _, l := range [][]api.Local{
		runs(most),
		runs(1 << 31),
		runs(1<<31 - 1),
		runs(1 << 16),
		runs(most, 1),
		runs(most, 2),
		runs(2, most),
		runs(1, most, 1),
		runs(most, 100),
		runs(most, most),
		runs(most, most, 2),
		runs(most, most, 3),
		runs(1<<31, 1<<31),
		runs(1<<31, 1<<31, 1),
		runs(1<<31, 1<<31, 1<<31, 1<<31),
		runs(1<<30, 1<<30, 1<<30, 1<<30, 10),
		runs(0, most, 0, 1, 0),
		slices.Repeat(runs(1<<31), 1<<10),
		slices.Repeat(runs(1<<16), 1<<16),
		slices.Repeat(runs(most), 1<<12),
	} {
		for _, params := range []int{0, 1, 5, 16} {
			check(t, "many locals", localsOf(params, l...), errSize)
		}
	}
	for _, n := range []uint32{0, 1, 100, 239, 240} {
		check(t, "locals", localsOf(16, runs(n)...), ok)
		check(t, "locals of many runs of none", localsOf(16, append(slices.Repeat(runs(0), 5000), runs(n)...)...), ok)
	}
	none := localsOf(0, slices.Repeat([]api.Local{{N: 0, T: 0}}, 300)...)
	check(t, "runs of none, of no type", none, ok)
}

// P12.2: each Min that is more than may be, whatever Max is.
func TestHugeLimits(t *testing.T) {
	for _, min := range []uint32{1025, 1 << 16, 1 << 31, most - 1, most} {
		for _, l := range []api.Limits{{Min: min, Max: -1}, {Min: min, Max: most}} {
			m := least()
			m.Tables = []api.Limits{l}
			check(t, "a table", m, errSize)
			check(t, "an imported table", imported(least(), api.Import{Kind: api.ExTable, Lim: l}), errSize)
			m = least()
			m.Tables = []api.Limits{{Max: l.Max}}
			check(t, "a table of no Min", m, ok)
		}
	}
	for _, min := range []uint32{17, 18, 32, 1 << 10, 1<<16 - 1, 1 << 16} {
		for _, l := range []api.Limits{{Min: min, Max: -1}, {Min: min, Max: 1 << 16}} {
			m := least()
			m.Mems = []api.Limits{l}
			check(t, "a memory", m, errSize)
			check(t, "an imported memory", imported(least(), api.Import{Kind: api.ExMem, Lim: l}), errSize)
			m = least()
			m.Mems = []api.Limits{{Max: l.Max}}
			check(t, "a memory of no Min", m, ok)
		}
	}
	// A memory's most is not a table's.
	m := least()
	m.Tables, m.Mems = []api.Limits{{Min: 17, Max: -1}}, []api.Limits{{Min: 16, Max: -1}}
	check(t, "a table of 17, a memory of 16", m, ok)
}

// P12.2: what is not said to be a size is none: all sizes at their most at once may be.
func TestAllAtTheirMost(t *testing.T) {
	m := full()
	check(t, "full", m, ok)
	m.Datas[63].B = make([]byte, 1<<20)
	for range 3 {
		m.Datas[62].B = append(m.Datas[62].B, m.Datas[63].B...)
	}
	check(t, "full, with many bytes", m, ok)
}

// full has as much of all as may be.
func full() api.Module {
	long := func(i int) string { return strings.Repeat("é", 30) + strconv.Itoa(1000+i) }
	m := api.Module{Tables: []api.Limits{{Min: 1024, Max: most}}, Mems: []api.Limits{{Min: 16, Max: 1 << 16}}}
	for _, x := range written() {
		m.Types = append(m.Types, x.t)
	}
	for range 256 - 16 - 1 {
		m.Types = append(m.Types, fn(slices.Repeat(types(i64), 16), i32))
	}
	m.Types = append(m.Types, fn(nil))
	for i := range 64 {
		m.Imports = append(m.Imports, env(written()[i%16].name, uint32(i%16)))
	}
	code := api.Code{
		Locals: []api.Local{{N: 240, T: i32}},
		Body:   body(times(511, con(1)), nested(64, branch(256, 7), api.OpBlock), times(510, op(api.OpDrop))),
	}
	code.Body = append(times(8192-len(code.Body), op(api.OpNop)), code.Body...)
	for i := range 512 {
		m.Funcs, m.Codes = append(m.Funcs, 255), append(m.Codes, api.Code{Locals: []api.Local{{N: 256, T: i64}}})
		if i%100 == 0 {
			m.Funcs[i], m.Codes[i] = 20, code
		}
	}
	for i := range 128 {
		m.Globals = append(m.Globals, api.Global{Type: api.GlobalType{T: i64}, Init: con64(int64(i))})
		m.Exports = append(m.Exports, api.Export{Name: long(i), Kind: api.ExGlobal, Index: uint32(i)})
	}
	m.Exports[50] = main(64 + 511)
	for i := range 64 {
		m.Elems = append(m.Elems, api.Elem{Offset: con(0), Funcs: slices.Repeat([]uint32{uint32(i)}, 1024)})
		m.Datas = append(m.Datas, api.Data{Offset: con(0), B: make([]byte, 10)})
	}
	return m
}
