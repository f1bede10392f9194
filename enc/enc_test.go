package enc_test

import (
	"bytes"
	"fmt"
	"math"
	"reflect"
	"runtime"
	"slices"
	"strings"
	"testing"

	"gabelle/api"
	"gabelle/bin"
	"gabelle/enc"
)

func shown(m api.Module) string {
	s := fmt.Sprintf("%+v", m)
	return s[:min(len(s), 600)]
}

func checkError(t *testing.T, m api.Module, want api.Errno) {
	t.Helper()
	if b, e := enc.Encode(m); len(b) != 0 || e != want {
		t.Fatalf("Encode(%s) = % x, %d, want %d", shown(m), b[:min(len(b), 400)], e, want)
	}
}

// checkBinary holds a module's binary against what it is to be, and decodes it again (P7.2).
func checkBinary(t *testing.T, m api.Module, want []byte) {
	t.Helper()
	b, e := enc.Encode(m)
	if e != api.OK || !bytes.Equal(b, want) {
		t.Fatalf("Encode(%s) = % x, %d, want % x", shown(m), b[:min(len(b), 400)], e, want[:min(len(want), 400)])
	}
	if back, e := bin.Decode(b); e != api.OK || !sameModule(back, m) {
		t.Fatalf("Decode of what is encoded is %s, %d, want %s", shown(back), e, shown(m))
	}
}

// checkModel tells what it came to.
func checkModel(t *testing.T, m api.Module) api.Errno {
	t.Helper()
	want, e := modelEncode(m)
	if e != api.OK {
		checkError(t, m, e)
	} else {
		checkBinary(t, m, want)
	}
	return e
}

// checkAgain is P7.2 of a binary, if it is a module's.
func checkAgain(t *testing.T, b []byte) bool {
	t.Helper()
	m, e := bin.Decode(b)
	if e != api.OK {
		return false
	}
	again, e := enc.Encode(m)
	if e != api.OK || len(again) > len(b) {
		t.Fatalf("% x is encoded as % x, %d", b, again, e)
	}
	back, e := bin.Decode(again)
	if e != api.OK || !sameModule(back, m) {
		t.Fatalf("% x is encoded as % x, and that is %s, %d", b, again, shown(back), e)
	}
	if c, e := enc.Encode(back); e != api.OK || !bytes.Equal(c, again) {
		t.Fatalf("% x is encoded as % x, and then as % x, %d", b, again, c, e)
	}
	return true
}

func TestExamples(t *testing.T) {
	checkBinary(t, api.Module{}, head())
	checkBinary(t, api.Module{Types: []api.FuncType{{}}, Funcs: []uint32{0}, Codes: []api.Code{{}}}, of("01 04 01 60 00 00 03 02 01 00 0a 04 01 02 00 0b"))
	checkError(t, api.Module{Funcs: []uint32{0}}, api.ErrArg)
	checkError(t, api.Module{Imports: []api.Import{{Kind: 4}}}, api.ErrArg)
	checkError(t, api.Module{Globals: []api.Global{{Type: api.GlobalType{T: api.F32}}}}, api.ErrArg)
}

// P7.1: each section, with one entry and with several, by itself; and all of them in one.
func TestWritten(t *testing.T) {
	for _, p := range written() {
		checkBinary(t, p.m, of(p.behind))
		checkModel(t, p.m)
	}
	if e := checkModel(t, rich()); e != api.OK {
		t.Error(e)
	}
}

// P7.1: sections stand by rising numbers, whichever of them are there.
func TestWrittenTwo(t *testing.T) {
	for _, p := range written() {
		for _, q := range written() {
			if p.behind[:2] >= q.behind[:2] {
				continue
			}
			m := p.m
			from, to := reflect.ValueOf(q.m), reflect.ValueOf(&m).Elem()
			for i := range from.NumField() {
				if !from.Field(i).IsZero() {
					to.Field(i).Set(from.Field(i))
				}
			}
			first, second := p.behind, q.behind
			if strings.HasPrefix(first, "03") && second[:2] < "0a" {
				funcs, codes, _ := strings.Cut(first, " 0a ")
				first, second = funcs, second+" 0a "+codes
			}
			checkBinary(t, m, of(first+second))
		}
	}
}

// P7.1: a section without an entry is not written, be its list nil or empty; nor is an empty list within an entry anything but a count of 0.
func TestNoEntries(t *testing.T) {
	empty := api.Module{Types: []api.FuncType{}, Imports: []api.Import{}, Funcs: []uint32{}, Tables: []api.Limits{}, Mems: []api.Limits{}, Globals: []api.Global{}, Exports: []api.Export{}, Elems: []api.Elem{}, Codes: []api.Code{}, Datas: []api.Data{}}
	checkBinary(t, empty, head())
	v := reflect.ValueOf(&empty).Elem()
	for _, p := range written() {
		m := empty
		from, to := reflect.ValueOf(p.m), reflect.ValueOf(&m).Elem()
		for i := range v.NumField() {
			if !from.Field(i).IsZero() {
				to.Field(i).Set(from.Field(i))
			}
		}
		checkBinary(t, m, of(p.behind))
	}
	checkBinary(t, api.Module{Types: []api.FuncType{{Params: []uint8{}, Results: []uint8{}}}}, of("01 04 01 60 00 00"))
	checkBinary(t, api.Module{Elems: []api.Elem{{Offset: []api.Instr{}, Funcs: []uint32{}}}}, of("09 04 01 00 0b 00"))
	checkBinary(t, api.Module{Datas: []api.Data{{Offset: []api.Instr{}, B: []byte{}}}}, of("0b 04 01 00 0b 00"))
	checkBinary(t, api.Module{Funcs: []uint32{0}, Codes: []api.Code{{Locals: []api.Local{}, Body: []api.Instr{}}}}, of("03 02 01 00 0a 04 01 02 00 0b"))
}

// P7.1: HasStart with any Start; and Start without it, which may be 0 alone.
func TestStart(t *testing.T) {
	for _, n := range edges() {
		checkBinary(t, api.Module{HasStart: true, Start: uint32(n)}, slices.Concat(head(), (&model{}).within(func(w *model) {
			w.section(8, 1, func(w *model, i int) { w.u32(n) })
		})))
		m := rich()
		m.Start = uint32(n)
		if e := checkModel(t, m); e != api.OK {
			t.Error(e)
		}
		if n > 0 {
			checkError(t, api.Module{Start: uint32(n)}, api.ErrArg)
			m.HasStart = false
			checkError(t, m, api.ErrArg)
		}
	}
}

// slot is a place in a module: it is told the value that is to stand there.
type slot[T any] func(x T) api.Module

func typeSlots() map[string]slot[uint8] {
	code := func(l ...api.Local) api.Module {
		return api.Module{Funcs: []uint32{0}, Codes: []api.Code{{Locals: l}}}
	}
	return map[string]slot[uint8]{
		"a parameter":        func(x uint8) api.Module { return api.Module{Types: []api.FuncType{{Params: []uint8{x}}}} },
		"the last parameter": func(x uint8) api.Module { return api.Module{Types: []api.FuncType{{}, {Params: []uint8{0x7f, x}}}} },
		"a result":           func(x uint8) api.Module { return api.Module{Types: []api.FuncType{{Results: []uint8{x}}}} },
		"the last result": func(x uint8) api.Module {
			return api.Module{Types: []api.FuncType{{Params: []uint8{0x7e}, Results: []uint8{0x7e, x}}, {}}}
		},
		"an import": func(x uint8) api.Module {
			return api.Module{Imports: []api.Import{{Kind: 3, Glob: api.GlobalType{T: x}}}}
		},
		"the last import": func(x uint8) api.Module {
			return api.Module{Imports: []api.Import{{}, {Kind: 3, Glob: api.GlobalType{T: x, Mut: true}}}}
		},
		"a global": func(x uint8) api.Module { return api.Module{Globals: []api.Global{{Type: api.GlobalType{T: x}}}} },
		"the last global": func(x uint8) api.Module {
			return api.Module{Globals: []api.Global{{Type: api.GlobalType{T: 0x7f}}, {Type: api.GlobalType{T: x, Mut: true}}}}
		},
		"a local":        func(x uint8) api.Module { return code(api.Local{N: 1, T: x}) },
		"no local":       func(x uint8) api.Module { return code(api.Local{T: x}) },
		"the last local": func(x uint8) api.Module { return code(api.Local{N: 1, T: 0x7f}, api.Local{N: 2, T: x}) },
		"the last code's": func(x uint8) api.Module {
			return api.Module{Funcs: []uint32{0, 0}, Codes: []api.Code{{}, {Locals: []api.Local{{N: 1, T: x}}}}}
		},
	}
}

// P7.1: a value's type is 7f or 7e, in each place where one stands.
func TestValueTypes(t *testing.T) {
	for what, in := range typeSlots() {
		for i := range 256 {
			x := uint8(i)
			want := api.ErrArg
			if x == 0x7f || x == 0x7e {
				want = api.OK
			}
			if e := checkModel(t, in(x)); e != want {
				t.Fatalf("%s of type %x: %d", what, x, e)
			}
		}
	}
}

func nameSlots() map[string]slot[string] {
	return map[string]slot[string]{
		"Mod":           func(s string) api.Module { return api.Module{Imports: []api.Import{{Mod: s}}} },
		"an import":     func(s string) api.Module { return api.Module{Imports: []api.Import{{Name: s}}} },
		"the last Mod":  func(s string) api.Module { return api.Module{Imports: []api.Import{{}, {Mod: s, Name: "b", Kind: 2}}} },
		"the last Name": func(s string) api.Module { return api.Module{Imports: []api.Import{{}, {Mod: "a", Name: s, Kind: 1}}} },
		"an export":     func(s string) api.Module { return api.Module{Exports: []api.Export{{Name: s}}} },
		"the last one":  func(s string) api.Module { return api.Module{Exports: []api.Export{{}, {Name: s, Kind: 3}}} },
	}
}

// P7.1: names are texts, in each place where one stands; their lengths are those in bytes.
func TestNames(t *testing.T) {
	for what, in := range nameSlots() {
		for _, s := range []string{"", "a", "main", "ä", "\x00", "\U0010ffff", "\ud7ff\ue000", strings.Repeat("x", 127), strings.Repeat("y", 128), strings.Repeat("é", 64), strings.Repeat("é", 8192)} {
			if e := checkModel(t, in(s)); e != api.OK {
				t.Errorf("%s, %q: %d", what, s, e)
			}
		}
		for _, s := range []string{"\xff", "\xc3", "a\xc3", "\xc3a", "\x80", "a\x80b", "\xc0\x80", "\xe0\x80\x80", "\xed\xa0\x80", "\xed\xbf\xbf", "\xf4\x90\x80\x80", "\xf8\x88\x80\x80\x80", strings.Repeat("x", 300) + "\xe2\x82"} {
			if e := checkModel(t, in(s)); e != api.ErrArg {
				t.Errorf("%s, %q: %d", what, s, e)
			}
		}
	}
}

func limitSlots() map[string]slot[api.Limits] {
	return map[string]slot[api.Limits]{
		"a table":        func(x api.Limits) api.Module { return api.Module{Tables: []api.Limits{x}} },
		"the last table": func(x api.Limits) api.Module { return api.Module{Tables: []api.Limits{{}, x}} },
		"a memory":       func(x api.Limits) api.Module { return api.Module{Mems: []api.Limits{x}} },
		"the last one":   func(x api.Limits) api.Module { return api.Module{Mems: []api.Limits{{}, x}} },
		"an imported table": func(x api.Limits) api.Module {
			return api.Module{Imports: []api.Import{{Kind: 1, Lim: x}}}
		},
		"an imported memory": func(x api.Limits) api.Module {
			return api.Module{Imports: []api.Import{{}, {Kind: 2, Lim: x}}}
		},
	}
}

// P7.1: a Max is from -1, which is none, to 2^32 - 1, in each place where one stands, whatever Min is.
func TestLimits(t *testing.T) {
	for what, in := range limitSlots() {
		for _, least := range edges() {
			for _, most := range edges() {
				if e := checkModel(t, in(api.Limits{Min: uint32(least), Max: int64(most)})); e != api.OK {
					t.Errorf("%s of %d to %d: %d", what, least, most, e)
				}
			}
			if e := checkModel(t, in(api.Limits{Min: uint32(least), Max: -1})); e != api.OK {
				t.Errorf("%s from %d on: %d", what, least, e)
			}
			for _, most := range []int64{-2, -3, 1 << 32, 1<<32 + 1, 1 << 33, -1 << 32, -1<<32 - 1, 1<<33 - 1, math.MaxInt64, math.MinInt64, math.MinInt64 + 5, math.MinInt32} {
				if e := checkModel(t, in(api.Limits{Min: uint32(least), Max: most})); e != api.ErrArg {
					t.Errorf("%s of %d to %d: %d", what, least, most, e)
				}
			}
		}
	}
}

// P7.1: a Kind is from 0 to 3.
func TestKinds(t *testing.T) {
	for i := range 256 {
		kind := uint8(i)
		want := api.ErrArg
		if kind <= 3 {
			want = api.OK
		}
		one := api.Import{Kind: kind}
		if kind == 3 {
			one.Glob.T = 0x7f
		}
		for _, m := range []api.Module{
			{Exports: []api.Export{{Kind: kind}}},
			{Exports: []api.Export{{}, {Name: "a", Kind: kind, Index: 7}}},
			{Imports: []api.Import{one}},
			{Imports: []api.Import{{}, one}},
		} {
			if e := checkModel(t, m); e != want {
				t.Errorf("%+v: %d", m, e)
			}
		}
	}
}

// P7.1: what an import's kind has not is zero: its type, its limits (a Max of -1 is not zero, either), its global's type.
func TestImportsParts(t *testing.T) {
	const isType, isLim, isGlob = 1, 2, 3
	others := []struct {
		part int
		set  func(x *api.Import)
	}{
		{isType, func(x *api.Import) { x.Type = 1 }},
		{isType, func(x *api.Import) { x.Type = math.MaxUint32 }},
		{isLim, func(x *api.Import) { x.Lim.Min = 1 }},
		{isLim, func(x *api.Import) { x.Lim.Max = 1 }},
		{isLim, func(x *api.Import) { x.Lim.Max = -1 }},
		{isLim, func(x *api.Import) { x.Lim = api.Limits{Min: 1, Max: 2} }},
		{isGlob, func(x *api.Import) { x.Glob.T = 0x7f }},
		{isGlob, func(x *api.Import) { x.Glob.T = 0x7e }},
		{isGlob, func(x *api.Import) { x.Glob = api.GlobalType{T: 0x7e, Mut: true} }},
	}
	has := []int{isType, isLim, isLim, isGlob}
	for kind, part := range has {
		for _, o := range others {
			x := api.Import{Mod: "m", Name: "n", Kind: uint8(kind)}
			if part == isGlob {
				x.Glob.T = 0x7f
			}
			checkModel(t, api.Module{Imports: []api.Import{x}})
			o.set(&x)
			want := api.ErrArg
			if o.part == part {
				want = api.OK
			}
			for _, l := range [][]api.Import{{x}, {{}, x}, {x, {}}} {
				if e := checkModel(t, api.Module{Imports: l}); e != want {
					t.Errorf("%+v: %d", l, e)
				}
			}
		}
	}
	for kind := range uint8(3) {
		checkError(t, api.Module{Imports: []api.Import{{Kind: kind, Glob: api.GlobalType{Mut: true}}}}, api.ErrArg)
	}
	checkError(t, api.Module{Imports: []api.Import{{Kind: 3}}}, api.ErrArg)
}

func exprSlots() map[string]slot[[]api.Instr] {
	type expr = []api.Instr
	return map[string]slot[expr]{
		"a global": func(x expr) api.Module {
			return api.Module{Globals: []api.Global{{Type: api.GlobalType{T: 0x7f}, Init: x}}}
		},
		"the last global": func(x expr) api.Module {
			return api.Module{Globals: []api.Global{{Type: api.GlobalType{T: 0x7f}}, {Type: api.GlobalType{T: 0x7e}, Init: x}}}
		},
		"an element":       func(x expr) api.Module { return api.Module{Elems: []api.Elem{{Offset: x}}} },
		"the last element": func(x expr) api.Module { return api.Module{Elems: []api.Elem{{}, {Offset: x, Funcs: []uint32{1}}}} },
		"a body":           func(x expr) api.Module { return api.Module{Funcs: []uint32{0}, Codes: []api.Code{{Body: x}}} },
		"the last body": func(x expr) api.Module {
			return api.Module{Funcs: []uint32{0, 0}, Codes: []api.Code{{}, {Locals: []api.Local{{N: 1, T: 0x7f}}, Body: x}}}
		},
		"data":          func(x expr) api.Module { return api.Module{Datas: []api.Data{{Offset: x}}} },
		"the last data": func(x expr) api.Module { return api.Module{Datas: []api.Data{{}, {Offset: x, B: []byte{1}}}} },
	}
}

// P7.1: expressions have bytes, in each place where one stands.
func TestExprs(t *testing.T) {
	nop, block, when, other, end := api.Instr{Op: api.OpNop}, api.Instr{Op: api.OpBlock, A: 0x40}, api.Instr{Op: api.OpIf, A: 0x7e}, api.Instr{Op: api.OpElse}, api.Instr{Op: api.OpEnd}
	for what, in := range exprSlots() {
		for _, l := range [][]api.Instr{
			nil, {}, {nop}, {block, end}, {when, other, end}, {block, when, nop, other, end, end}, slices.Repeat([]api.Instr{nop}, 126), slices.Repeat([]api.Instr{nop}, 127), slices.Repeat([]api.Instr{nop}, 20000),
			constant(math.MinInt32), constant(math.MaxInt32), {{Op: api.OpI64Const, C: math.MinInt64}}, {{Op: api.OpI64Const, C: math.MaxInt64}, {Op: 0x28, A: math.MaxUint32, B: math.MaxUint32}},
			{{Op: api.OpBrTable}, {Op: api.OpBrTable, L: []uint32{0, math.MaxUint32}, A: math.MaxUint32}, {Op: api.OpMemGrow}, {Op: api.OpCallIndirect, A: 300}},
		} {
			if e := checkModel(t, in(l)); e != api.OK {
				t.Errorf("%s of %v: %d", what, l[:min(len(l), 5)], e)
			}
		}
		for _, l := range [][]api.Instr{
			{end}, {nop, end}, {block}, {block, end, end}, {block, other, end}, {other}, {when, other, other, end}, {when, other},
			{{Op: 0x43}}, {{Op: 0xc0}}, {nop, {Op: 0x06}}, {{Op: api.OpNop, A: 1}}, {{Op: api.OpBlock}, end}, {{Op: api.OpIf, A: 0x7d}, end}, {{Op: api.OpDrop, L: []uint32{0}}},
			constant(math.MaxInt32 + 1), constant(math.MinInt32 - 1), {{Op: api.OpI64Const, B: 1}},
		} {
			if e := checkModel(t, in(l)); e != api.ErrArg {
				t.Errorf("%s of %v: %d", what, l, e)
			}
		}
	}
}

func withRuns(runs ...uint32) api.Code {
	var c api.Code
	for i, n := range runs {
		c.Locals = append(c.Locals, api.Local{N: n, T: []uint8{0x7f, 0x7e}[i%2]})
	}
	return c
}

func withCodes(l ...api.Code) api.Module {
	return api.Module{Funcs: make([]uint32, len(l)), Codes: l}
}

// P7.1: a code's locals are together fewer than 2^32; those of several codes are not held together.
func TestLocals(t *testing.T) {
	const most, half = math.MaxUint32, 1 << 31
	for _, runs := range [][]uint32{{}, {0}, {most}, {most, 0}, {0, most}, {half, half - 1}, {1, 2, 3}, {most - 2, 1, 1}, slices.Repeat([]uint32{1 << 20}, 4095), slices.Repeat([]uint32{0}, 5000)} {
		for _, m := range []api.Module{withCodes(withRuns(runs...)), withCodes(withRuns(most), withRuns(runs...), withRuns(most))} {
			if e := checkModel(t, m); e != api.OK {
				t.Errorf("%v: %d", runs[:min(len(runs), 5)], e)
			}
		}
	}
	for _, runs := range [][]uint32{{most, 1}, {1, most}, {half, half}, {half, half, 1}, {most, 2}, {most, most}, {most, most, 2}, {most, most, most}, {half, half, half, half}, {most, 0, 0, 1, 0}, slices.Repeat([]uint32{1 << 20}, 4096), slices.Repeat([]uint32{most}, 1000), slices.Repeat([]uint32{half}, 1<<16)} {
		for _, m := range []api.Module{withCodes(withRuns(runs...)), withCodes(withRuns(), withRuns(runs...)), withCodes(withRuns(runs...), withRuns())} {
			if e := checkModel(t, m); e != api.ErrArg {
				t.Errorf("%v: %d", runs[:min(len(runs), 5)], e)
			}
		}
	}
}

// P7.1: there are as many codes as Funcs, no more and no fewer.
func TestFuncsAndCodes(t *testing.T) {
	for _, funcs := range []int{0, 1, 2, 3, 127, 128, 300} {
		for _, codes := range []int{0, 1, 2, 3, 127, 128, 300} {
			want := api.OK
			if funcs != codes {
				want = api.ErrArg
			}
			if e := checkModel(t, api.Module{Funcs: make([]uint32, funcs), Codes: make([]api.Code, codes)}); e != want {
				t.Errorf("%d functions, %d codes: %d", funcs, codes, e)
			}
		}
	}
	checkError(t, api.Module{Funcs: make([]uint32, 1<<16)}, api.ErrArg)
	checkError(t, api.Module{Codes: make([]api.Code, 1<<16)}, api.ErrArg)
	checkError(t, api.Module{Funcs: make([]uint32, 1<<16), Codes: make([]api.Code, 1<<16-1)}, api.ErrArg)
	checkError(t, api.Module{Funcs: make([]uint32, 1<<16), Codes: make([]api.Code, 1<<16)}, api.ErrLong)
}

// wrongs each put one thing more into a module, behind all that is there, and leave it without a binary.
func wrongs() []func(m *api.Module) {
	addCode := func(m *api.Module, c api.Code) { m.Funcs, m.Codes = append(m.Funcs, 0), append(m.Codes, c) }
	bad := []api.Instr{{Op: api.OpEnd}}
	return []func(m *api.Module){
		func(m *api.Module) { m.Types = append(m.Types, api.FuncType{Params: []uint8{0x7d}}) },
		func(m *api.Module) { m.Types = append(m.Types, api.FuncType{Results: []uint8{0x40}}) },
		func(m *api.Module) { m.Imports = append(m.Imports, api.Import{Mod: "\xff"}) },
		func(m *api.Module) { m.Imports = append(m.Imports, api.Import{Name: "\xff"}) },
		func(m *api.Module) { m.Imports = append(m.Imports, api.Import{Kind: 4}) },
		func(m *api.Module) { m.Imports = append(m.Imports, api.Import{Kind: 1, Lim: api.Limits{Max: -2}}) },
		func(m *api.Module) { m.Imports = append(m.Imports, api.Import{Kind: 2, Lim: api.Limits{Max: 1 << 32}}) },
		func(m *api.Module) { m.Imports = append(m.Imports, api.Import{Kind: 3}) },
		func(m *api.Module) { m.Imports = append(m.Imports, api.Import{Kind: 2, Type: 1}) },
		func(m *api.Module) { m.Funcs = append(m.Funcs, 0) },
		func(m *api.Module) { m.Tables = append(m.Tables, api.Limits{Max: -2}) },
		func(m *api.Module) { m.Mems = append(m.Mems, api.Limits{Max: 1 << 32}) },
		func(m *api.Module) { m.Globals = append(m.Globals, api.Global{}) },
		func(m *api.Module) {
			m.Globals = append(m.Globals, api.Global{Type: api.GlobalType{T: 0x7f}, Init: bad})
		},
		func(m *api.Module) { m.Exports = append(m.Exports, api.Export{Name: "\xff"}) },
		func(m *api.Module) { m.Exports = append(m.Exports, api.Export{Kind: 4}) },
		func(m *api.Module) { m.HasStart, m.Start = false, 1 },
		func(m *api.Module) { m.Elems = append(m.Elems, api.Elem{Offset: bad}) },
		func(m *api.Module) { m.Codes = append(m.Codes, api.Code{}) },
		func(m *api.Module) { addCode(m, api.Code{Locals: []api.Local{{T: 0x7c}}}) },
		func(m *api.Module) { addCode(m, withRuns(math.MaxUint32, 1)) },
		func(m *api.Module) { addCode(m, api.Code{Body: bad}) },
		func(m *api.Module) { m.Datas = append(m.Datas, api.Data{Offset: bad}) },
	}
}

// longs each put into a module, behind all that is there, what makes it too long by itself.
func longs() []func(m *api.Module) {
	const many = api.MaxModule + 1
	text, nops, numbers := strings.Repeat("x", many), slices.Repeat([]api.Instr{{Op: api.OpNop}}, many), make([]uint32, many)
	types, runs := bytes.Repeat([]byte{0x7f}, many), slices.Repeat([]api.Local{{T: 0x7f}}, many)
	addCode := func(m *api.Module, c api.Code) { m.Funcs, m.Codes = append(m.Funcs, 0), append(m.Codes, c) }
	return []func(m *api.Module){
		func(m *api.Module) { m.Types = append(m.Types, api.FuncType{Params: types}) },
		func(m *api.Module) { m.Types = append(m.Types, api.FuncType{Results: types}) },
		func(m *api.Module) { m.Types = append(m.Types, make([]api.FuncType, many/3+1)...) },
		func(m *api.Module) { m.Imports = append(m.Imports, api.Import{Mod: text}) },
		func(m *api.Module) { m.Imports = append(m.Imports, api.Import{Name: text}) },
		func(m *api.Module) { m.Imports = append(m.Imports, make([]api.Import, many/4+1)...) },
		func(m *api.Module) {
			m.Funcs, m.Codes = append(m.Funcs, numbers...), append(m.Codes, make([]api.Code, many)...)
		},
		func(m *api.Module) { m.Tables = append(m.Tables, make([]api.Limits, many/3+1)...) },
		func(m *api.Module) { m.Mems = append(m.Mems, make([]api.Limits, many/2+1)...) },
		func(m *api.Module) {
			m.Globals = append(m.Globals, api.Global{Type: api.GlobalType{T: 0x7f}, Init: nops})
		},
		func(m *api.Module) { m.Exports = append(m.Exports, api.Export{Name: text}) },
		func(m *api.Module) { m.Exports = append(m.Exports, make([]api.Export, many/3+1)...) },
		func(m *api.Module) { m.Elems = append(m.Elems, api.Elem{Offset: nops}) },
		func(m *api.Module) { m.Elems = append(m.Elems, api.Elem{Funcs: numbers}) },
		func(m *api.Module) { addCode(m, api.Code{Locals: runs}) },
		func(m *api.Module) { addCode(m, api.Code{Body: nops}) },
		func(m *api.Module) { m.Datas = append(m.Datas, api.Data{Offset: nops}) },
		func(m *api.Module) { m.Datas = append(m.Datas, api.Data{B: make([]byte, many)}) },
	}
}

// P7.1: whatever of a module is too long, and whatever of it has no bytes, wherever the two stand: ErrArg goes ahead.
func TestArgAheadOfLong(t *testing.T) {
	for i, wrong := range wrongs() {
		var m api.Module
		wrong(&m)
		checkError(t, m, api.ErrArg)
		m = rich()
		wrong(&m)
		checkError(t, m, api.ErrArg)
		for j, long := range longs() {
			for _, both := range [][2]func(*api.Module){{wrong, long}, {long, wrong}} {
				var m api.Module
				both[0](&m)
				both[1](&m)
				if b, e := enc.Encode(m); len(b) != 0 || e != api.ErrArg {
					t.Errorf("wrong %d, long %d: %d", i, j, e)
				}
			}
		}
	}
	for j, long := range longs() {
		m := rich()
		long(&m)
		if b, e := enc.Encode(m); len(b) != 0 || e != api.ErrLong {
			t.Errorf("long %d: %d bytes, %d", j, len(b), e)
		}
	}
}

// P7.1: within one entry, too, what is too long does not hide what has no bytes.
func TestArgAheadOfLongWithin(t *testing.T) {
	const many = api.MaxModule + 1
	text, nops := strings.Repeat("x", many), slices.Repeat([]api.Instr{{Op: api.OpNop}}, many)
	types, bad := bytes.Repeat([]byte{0x7f}, many), []api.Instr{{Op: api.OpEnd}}
	runs := slices.Repeat([]api.Local{{N: 1 << 16, T: 0x7f}}, many)
	for _, m := range []api.Module{
		{Types: []api.FuncType{{Params: append(slices.Clone(types), 0x7d)}}},
		{Types: []api.FuncType{{Params: types, Results: []uint8{0x7d}}}},
		{Imports: []api.Import{{Mod: text, Name: "\xff"}}},
		{Imports: []api.Import{{Mod: text + "\xff"}}},
		{Imports: []api.Import{{Mod: text, Kind: 5}}},
		{Imports: []api.Import{{Name: text, Kind: 3}}},
		{Imports: []api.Import{{Name: text, Lim: api.Limits{Max: -1}}}},
		{Imports: []api.Import{{Name: text, Kind: 1, Lim: api.Limits{Max: -2}}}},
		{Exports: []api.Export{{Name: text, Kind: 5}}},
		{Exports: []api.Export{{Name: text + "\xc3"}}},
		{Globals: []api.Global{{Type: api.GlobalType{T: 0x7d}, Init: nops}}},
		{Globals: []api.Global{{Type: api.GlobalType{T: 0x7f}, Init: append(slices.Clone(nops), bad...)}}},
		{Elems: []api.Elem{{Offset: bad, Funcs: make([]uint32, many)}}},
		{Datas: []api.Data{{Offset: bad, B: make([]byte, many)}}},
		withCodes(api.Code{Locals: runs}),
		withCodes(api.Code{Locals: append(slices.Repeat([]api.Local{{T: 0x7f}}, many), api.Local{})}),
		withCodes(api.Code{Locals: slices.Repeat([]api.Local{{T: 0x7f}}, many), Body: bad}),
		withCodes(api.Code{Locals: []api.Local{{T: 0x7d}}, Body: nops}),
		withCodes(api.Code{Body: nops}, api.Code{Body: bad}),
		withCodes(api.Code{Body: bad}, api.Code{Body: nops}),
		withCodes(api.Code{Body: append(slices.Clone(nops), bad...)}),
	} {
		checkError(t, m, api.ErrArg)
	}
}

// fillers make a module longer by each byte, or by about as many, in one of its sections.
func fillers() map[string]func(m *api.Module, n int) {
	nops := func(n int) []api.Instr { return slices.Repeat([]api.Instr{{Op: api.OpNop}}, n) }
	return map[string]func(m *api.Module, n int){
		"types": func(m *api.Module, n int) {
			m.Types = append(m.Types, api.FuncType{Params: bytes.Repeat([]byte{0x7e}, n)})
		},
		"imports": func(m *api.Module, n int) { m.Imports = append(m.Imports, api.Import{Mod: strings.Repeat("x", n)}) },
		"funcs": func(m *api.Module, n int) {
			m.Funcs, m.Codes = append(m.Funcs, make([]uint32, n/4)...), append(m.Codes, make([]api.Code, n/4)...)
		},
		"tables": func(m *api.Module, n int) { m.Tables = append(m.Tables, make([]api.Limits, n/4)...) },
		"mems":   func(m *api.Module, n int) { m.Mems = append(m.Mems, slices.Repeat([]api.Limits{{Max: -1}}, n/2)...) },
		"globals": func(m *api.Module, n int) {
			m.Globals = append(m.Globals, api.Global{Type: api.GlobalType{T: 0x7f}, Init: nops(n)})
		},
		"exports": func(m *api.Module, n int) { m.Exports = append(m.Exports, api.Export{Name: strings.Repeat("x", n)}) },
		"elems":   func(m *api.Module, n int) { m.Elems = append(m.Elems, api.Elem{Funcs: make([]uint32, n)}) },
		"locals":  func(m *api.Module, n int) { addTo(m, api.Code{Locals: slices.Repeat([]api.Local{{T: 0x7f}}, n/2)}) },
		"codes":   func(m *api.Module, n int) { addTo(m, api.Code{Body: nops(n)}) },
		"datas":   func(m *api.Module, n int) { m.Datas = append(m.Datas, api.Data{B: make([]byte, n)}) },
	}
}

func addTo(m *api.Module, c api.Code) {
	m.Funcs, m.Codes = append(m.Funcs, 0), append(m.Codes, c)
}

// P7.1: MaxModule bytes may be, and one more may not, whatever it is that takes them.
func TestMaxModule(t *testing.T) {
	for what, fill := range fillers() {
		var m api.Module
		fill(&m, 40000)
		base, e := modelEncode(m)
		if e != api.OK {
			t.Fatalf("%s: %d", what, e)
		}
		with := func(n int) []byte {
			longer := m
			longer.Datas = append(slices.Clip(m.Datas), api.Data{B: make([]byte, n)})
			checkModel(t, longer)
			want, _ := modelEncode(longer)
			return want
		}
		room := api.MaxModule - len(base)
		full := 0
		for n := room - 20; n <= room+2; n++ {
			if len(with(n)) == api.MaxModule {
				full = n
			}
		}
		if full == 0 || with(full+1) != nil {
			t.Errorf("%s: no module is just as long as may be", what)
		}
	}
}

// P7.1: one section, and one entry, of about as many bytes as may be; and more of them by far.
func TestAboutMaxModule(t *testing.T) {
	for what, fill := range fillers() {
		seen := map[api.Errno]int{}
		about := []int{70000, 1 << 17, 1 << 20}
		for n := api.MaxModule - 32; n <= api.MaxModule+2; n++ {
			about = append(about, n)
		}
		for _, n := range about {
			var m api.Module
			fill(&m, n)
			seen[checkModel(t, m)]++
		}
		if seen[api.ErrLong] < 3 || what != "locals" && what != "funcs" && seen[api.OK] < 10 {
			t.Errorf("%s: %v", what, seen)
		}
	}
}

// P7.1: sections that would each be short enough, and are too long together.
func TestLongTogether(t *testing.T) {
	for first, fill := range fillers() {
		for second, more := range fillers() {
			var m api.Module
			fill(&m, 32000)
			more(&m, 32000)
			if e := checkModel(t, m); e != api.OK && first != "locals" && second != "locals" {
				t.Errorf("%s and %s: %d", first, second, e)
			}
			more(&m, 32000)
			fill(&m, 32000)
			checkError(t, m, api.ErrLong)
		}
	}
	var m api.Module
	for _, fill := range fillers() {
		fill(&m, 5500)
	}
	if e := checkModel(t, m); e != api.OK {
		t.Error(e)
	}
	for _, fill := range fillers() {
		fill(&m, 800)
	}
	checkError(t, m, api.ErrLong)
}

// P7.1: numbers at the edges of their bytes, in each place where one stands.
func TestNumbers(t *testing.T) {
	for _, x := range edges() {
		n := uint32(x)
		for i, m := range []api.Module{
			{Imports: []api.Import{{Type: n}}},
			{Funcs: []uint32{n}, Codes: []api.Code{{}}},
			{Funcs: []uint32{n, 0, n}, Codes: []api.Code{{}, {}, {}}},
			{Exports: []api.Export{{Index: n}, {Kind: 1, Index: n}, {Kind: 2, Index: n}, {Kind: 3, Index: n}}},
			{HasStart: true, Start: n},
			{Elems: []api.Elem{{Table: n}}},
			{Elems: []api.Elem{{Funcs: []uint32{n, 1, n}}}},
			withCodes(withRuns(n)),
			{Datas: []api.Data{{Mem: n}}},
			withCodes(api.Code{Body: []api.Instr{{Op: api.OpCall, A: n}}}),
		} {
			if e := checkModel(t, m); e != api.OK {
				t.Errorf("%d in place %d: %d", n, i, e)
			}
		}
	}
}

// P7.1: lists, names, data and codes of lengths at the edges of their bytes.
func TestLengths(t *testing.T) {
	long := 0
	for _, n := range []int{0, 1, 2, 63, 64, 120, 121, 122, 123, 124, 125, 126, 127, 128, 129, 130, 16376, 16377, 16378, 16379, 16380, 16381, 16382, 16383, 16384, 16385, 30000} {
		nops := slices.Repeat([]api.Instr{{Op: api.OpNop}}, n)
		types, text := bytes.Repeat([]byte{0x7e}, n), strings.Repeat("x", n)
		for i, m := range []api.Module{
			{Types: make([]api.FuncType, n)},
			{Types: []api.FuncType{{Params: types}}},
			{Types: []api.FuncType{{Results: types}, {Params: types}}},
			{Imports: make([]api.Import, n)},
			{Imports: []api.Import{{Mod: text, Name: text}}},
			withCodes(make([]api.Code, n)...),
			{Tables: make([]api.Limits, n)},
			{Mems: make([]api.Limits, n)},
			{Globals: slices.Repeat([]api.Global{{Type: api.GlobalType{T: 0x7f}}}, n)},
			{Globals: []api.Global{{Type: api.GlobalType{T: 0x7f}, Init: nops}}},
			{Exports: make([]api.Export, n)},
			{Exports: []api.Export{{Name: text}}},
			{Elems: make([]api.Elem, n)},
			{Elems: []api.Elem{{Offset: nops, Funcs: make([]uint32, n)}}},
			withCodes(api.Code{Locals: slices.Repeat([]api.Local{{T: 0x7f}}, n)}),
			withCodes(api.Code{Body: nops}, api.Code{Body: nops}),
			{Datas: make([]api.Data, n)},
			{Datas: []api.Data{{B: make([]byte, n)}}},
			{Datas: []api.Data{{Offset: nops, B: types}}},
		} {
			switch checkModel(t, m) {
			case api.ErrArg:
				t.Errorf("%d of list %d: ErrArg", n, i)
			case api.ErrLong:
				long++
			}
		}
	}
	if long == 0 {
		t.Error("none is too long")
	}
}

// P7.1, P7.2: whatever one part of a module of everything is changed to, held against the model; and no two of these modules have one binary.
func TestEachPart(t *testing.T) {
	m := rich()
	taken, refused := map[string]api.Module{}, 0
	each := func() {
		if e := checkModel(t, m); e != api.OK {
			refused++
			return
		}
		b, _ := enc.Encode(m)
		if was, there := taken[string(b)]; !there {
			taken[string(b)] = copyOf(m)
		} else if !sameModule(was, m) {
			t.Fatalf("% x is the binary of %+v, and of %+v", b, was, m)
		}
	}
	parts(reflect.ValueOf(&m).Elem(), func(part reflect.Value) { changes(part, each) })
	if !sameModule(m, rich()) {
		t.Fatal("the module is another one now")
	}
	if len(taken) < 2000 || refused < 2000 {
		t.Errorf("%d taken, %d refused", len(taken), refused)
	}
}

// P7.2: a module's binaries that are not canonical: numbers of more bytes, sections without entries, custom sections.
func TestNotCanonical(t *testing.T) {
	modules := []api.Module{{}, rich()}
	for _, p := range written() {
		modules = append(modules, p.m)
	}
	for _, m := range modules {
		canonical, _ := modelEncode(m)
		for more := range 5 {
			for i := range 4 {
				loose := model{more: more, empty: i&1 != 0, custom: i&2 != 0}
				loose.module(m)
				if back, e := bin.Decode(loose.b); e != api.OK || !sameModule(back, m) {
					t.Fatalf("% x is %s, %d", loose.b, shown(back), e)
				}
				checkAgain(t, loose.b)
				back, _ := bin.Decode(loose.b)
				if b, e := enc.Encode(back); e != api.OK || !bytes.Equal(b, canonical) {
					t.Errorf("% x is encoded as % x, %d, want % x", loose.b, b, e, canonical)
				}
			}
		}
	}
	for _, x := range [][2]string{
		{"06 0c 01 7f 00 41 ff ff ff ff 7f 01 0b 01", ""},
		{"06 0b 01 7f 00 41 ff ff ff ff 7f 01 0b", "06 07 01 7f 00 41 7f 01 0b"},
		{"0b 0d 01 00 23 83 80 00 28 82 00 80 00 0b 00", "0b 09 01 00 23 03 28 02 00 0b 00"},
		{"0b 0c 01 00 23 83 80 00 28 82 00 00 0b 00", "0b 09 01 00 23 03 28 02 00 0b 00"},
		{"09 08 01 00 0e 80 00 80 00 0b 00", ""},
		{"09 09 01 00 0e 80 00 80 00 0b 00", "09 07 01 00 0e 00 00 0b 00"},
		{"03 82 00 01 00 0a 85 80 00 01 83 00 00 0b", ""},
		{"03 82 00 01 00 0a 85 80 00 01 82 00 00 0b", "03 02 01 00 0a 04 01 02 00 0b"},
	} {
		m, e := bin.Decode(of(x[0]))
		if x[1] == "" {
			if e == api.OK {
				t.Errorf("%s is %s", x[0], shown(m))
			}
			continue
		}
		if b, f := enc.Encode(m); e != api.OK || f != api.OK || !bytes.Equal(b, of(x[1])) {
			t.Errorf("%s is encoded as % x, %d, %d", x[0], b, e, f)
		}
	}
}

// P7.2: MaxModule bytes that are not canonical are a module's whose own are fewer; what is decoded is never too long.
func TestNotCanonicalLong(t *testing.T) {
	m := rich()
	b, _ := enc.Encode(m)
	room := api.MaxModule - len(b) - 4
	full := slices.Concat(b, []byte{0}, (&model{}).within(func(w *model) { w.bytes(make([]byte, room)) }))
	if len(full) != api.MaxModule || !checkAgain(t, full) {
		t.Errorf("%d bytes", len(full))
	}
	loose := model{more: 4}
	loose.module(withCodes(make([]api.Code, 2900)...))
	if len(loose.b) > api.MaxModule || !checkAgain(t, loose.b) {
		t.Errorf("%d bytes", len(loose.b))
	}
}

// random numbers of a fixed rule.
type random uint64

func (r *random) next(n int) int {
	*r = *r*6364136223846793005 + 1442695040888963407
	return int(uint64(*r)>>33) % n
}

// P7.2: bytes of all kinds, most of them a changed module's: what is decoded may be encoded, in no more bytes, and is decoded as the same.
func TestMixedBytes(t *testing.T) {
	r := random(17)
	var sources [][]byte
	for _, p := range written() {
		sources = append(sources, of(p.behind))
	}
	whole, _ := enc.Encode(rich())
	loose := model{more: 1, empty: true, custom: true}
	loose.module(rich())
	sources = append(sources, whole, loose.b, whole, loose.b)
	decoded := 0
	for range 150000 {
		b := slices.Clone(sources[r.next(len(sources))])
		for range r.next(3) {
			at := 8 + r.next(len(b)-7)
			x := []byte{0, 1, 2, 3, 4, 0x0b, 0x05, 0x40, 0x41, 0x60, 0x70, 0x7e, 0x7f, 0x80, 0xff, byte(r.next(256))}[r.next(16)]
			if at == len(b) {
				b = append(b, x)
			} else {
				b[at] = x
			}
		}
		if checkAgain(t, b) {
			decoded++
		}
	}
	if decoded < 10000 {
		t.Errorf("of the mixed bytes %d were a module's", decoded)
	}
}

// fill makes something of a value by chance: most often what may be there.
func fill(r *random, v reflect.Value) {
	switch v.Kind() {
	case reflect.Bool:
		v.SetBool(r.next(2) == 0)
	case reflect.Uint8:
		v.SetUint(uint64([]byte{0x7f, 0x7e, 0x7f, 0x7e, 0x7f, 0x7e, 0, 1, 2, 3, 0x7d, 4}[r.next(8+r.next(5))]))
	case reflect.Uint32:
		v.SetUint(edges()[r.next(len(edges()))])
	case reflect.Int64:
		v.SetInt([]int64{-1, 0, 1, 127, 128, 1<<32 - 1, 1 << 31, -2, 1 << 32}[r.next(7+r.next(3))])
	case reflect.String:
		v.SetString([]string{"", "a", "main", "é", "\xff"}[r.next(4+r.next(2))])
	case reflect.Slice:
		n := max(r.next(5)-2, 0)
		v.Set(reflect.MakeSlice(v.Type(), n, n))
		for i := range n {
			fill(r, v.Index(i))
		}
	case reflect.Struct:
		fillStruct(r, v)
	}
}

func fillStruct(r *random, v reflect.Value) {
	pieces := [][]api.Instr{{{Op: api.OpNop}}, constant(-7), {{Op: api.OpBlock, A: 0x40}, {Op: api.OpEnd}}, {{Op: api.OpGlobalGet, A: 300}}, {{Op: api.OpBrTable, L: []uint32{1, 128}, A: 2}}, {{Op: api.OpIf, A: 0x7f}, {Op: api.OpElse}, {Op: api.OpEnd}}, {{Op: api.OpEnd}}}
	for i := range v.NumField() {
		f := v.Field(i)
		if f.Type() == reflect.TypeFor[[]api.Instr]() {
			f.Set(reflect.ValueOf(slices.Concat(pieces[r.next(6)], pieces[r.next(6+r.next(20)/19)])))
		} else {
			fill(r, f)
		}
	}
	if x, ok := v.Addr().Interface().(*api.Import); ok {
		*x = kept(*x, uint8(r.next(4+r.next(20)/19)), r.next(20) > 0)
	}
	if x, ok := v.Addr().Interface().(*api.Export); ok {
		x.Kind = uint8(r.next(4))
	}
	if m, ok := v.Addr().Interface().(*api.Module); ok {
		for len(m.Codes) < len(m.Funcs) {
			m.Codes = append(m.Codes, api.Code{})
		}
		m.Codes = m.Codes[:len(m.Funcs)]
		if !m.HasStart && r.next(10) > 0 {
			m.Start = 0
		}
	}
}

// kept is the import as one of a kind; with clean it has no more than such a one has.
func kept(x api.Import, kind uint8, clean bool) api.Import {
	only := api.Import{Mod: x.Mod, Name: x.Name, Kind: kind}
	switch kind {
	case 0:
		only.Type = x.Type
	case 1, 2:
		only.Lim = x.Lim
	case 3:
		only.Glob = x.Glob
	}
	if clean {
		return only
	}
	x.Kind = kind
	return x
}

// P7.1, P7.2: modules of all kinds, held against the model; those with one binary are one.
func TestMixedModules(t *testing.T) {
	r := random(5)
	seen, taken := map[api.Errno]int{}, map[string]api.Module{}
	for range 60000 {
		var m api.Module
		fill(&r, reflect.ValueOf(&m).Elem())
		e := checkModel(t, m)
		seen[e]++
		if e != api.OK {
			continue
		}
		b, _ := enc.Encode(m)
		if was, there := taken[string(b)]; there && !sameModule(was, m) {
			t.Fatalf("% x is the binary of %+v, and of %+v", b, was, m)
		}
		taken[string(b)] = m
	}
	if seen[api.OK] < 3000 || seen[api.ErrArg] < 3000 {
		t.Errorf("%v", seen)
	}
}

// spans are where in memory a module's lists lie, with the room that they have.
func spans(v reflect.Value, add func(from, to uintptr)) {
	switch v.Kind() {
	case reflect.Slice:
		if v.Cap() > 0 {
			add(v.Pointer(), v.Pointer()+uintptr(v.Cap())*v.Type().Elem().Size())
		}
		for i := range v.Len() {
			spans(v.Index(i), add)
		}
	case reflect.Struct:
		for i := range v.NumField() {
			spans(v.Field(i), add)
		}
	}
}

// P7.1, R3: what is told lies in memory of its own, with all its room.
func TestOwnMemory(t *testing.T) {
	m := copyOf(rich())
	first, _ := enc.Encode(m)
	second, _ := enc.Encode(m)
	var all [][2]uintptr
	for _, v := range []any{m, first, second} {
		spans(reflect.ValueOf(v), func(from, to uintptr) { all = append(all, [2]uintptr{from, to}) })
	}
	slices.SortFunc(all, func(x, y [2]uintptr) int { return int(x[0]) - int(y[0]) })
	for i := 1; i < len(all); i++ {
		if all[i][0] < all[i-1][1] {
			t.Errorf("lists share memory: %x", all[i-1:i+1])
		}
	}
	if len(all) < 20 {
		t.Errorf("only %d lists", len(all))
	}
	runtime.KeepAlive(m)
	runtime.KeepAlive(first)
	runtime.KeepAlive(second)
}

// whole is a list with the room behind it, and so are those in it.
func whole(v reflect.Value) reflect.Value {
	out := reflect.New(v.Type()).Elem()
	switch v.Kind() {
	case reflect.Slice:
		out.Set(v)
		if v.Cap() > 0 {
			out.Set(copied(v.Slice(0, v.Cap())))
		}
		for i := range out.Len() {
			out.Index(i).Set(whole(v.Slice(0, v.Cap()).Index(i)))
		}
	case reflect.Struct:
		for i := range v.NumField() {
			out.Field(i).Set(whole(v.Field(i)))
		}
	default:
		out.Set(v)
	}
	return out
}

// P7.1, R3, R5: what is handed in is not changed, nor the room behind it, whatever is told; nor is what was told once by what is told, or changed, behind it.
func TestKeepsNothing(t *testing.T) {
	try := func(m api.Module) {
		m = copyOf(m)
		was := whole(reflect.ValueOf(m)).Interface().(api.Module)
		first, e := enc.Encode(m)
		if now := whole(reflect.ValueOf(m)).Interface().(api.Module); !reflect.DeepEqual(now, was) {
			t.Fatalf("now %s, want %s", shown(now), shown(was))
		}
		second, f := enc.Encode(m)
		if e != f || !bytes.Equal(first, second) {
			t.Fatalf("% x, %d, and then % x, %d", first, e, second, f)
		}
		for i := range first {
			first[i] = 0xee
		}
		_ = append(first, 1, 2, 3)
		third, _ := enc.Encode(m)
		if !bytes.Equal(second, third) || !reflect.DeepEqual(whole(reflect.ValueOf(m)).Interface(), any(was)) {
			t.Fatalf("% x is now % x", second, third)
		}
	}
	try(rich())
	for _, p := range written() {
		try(p.m)
	}
	for _, wrong := range wrongs() {
		m := rich()
		wrong(&m)
		try(m)
	}
	m := rich()
	m.Datas = append(m.Datas, api.Data{B: make([]byte, api.MaxModule)})
	try(m)
	kept, _ := enc.Encode(api.Module{Datas: []api.Data{{B: []byte{1, 2, 3}}}})
	want := bytes.Clone(kept)
	for _, p := range written() {
		enc.Encode(p.m)
	}
	if !bytes.Equal(kept, want) {
		t.Errorf("now % x", kept)
	}
}

// P7.1: lists of a module may be the same memory: what is told does not hang on it.
func TestSharedLists(t *testing.T) {
	l, funcs := constant(5), []uint32{1, 2}
	b := []byte{0x7f, 0x7e, 0x7f}
	m := api.Module{
		Types:   []api.FuncType{{Params: b, Results: b}, {Params: b[:1], Results: b[1:]}},
		Funcs:   funcs,
		Globals: []api.Global{{Type: api.GlobalType{T: 0x7f}, Init: l}, {Type: api.GlobalType{T: 0x7e}, Init: l}},
		Elems:   []api.Elem{{Offset: l, Funcs: funcs}},
		Codes:   []api.Code{{Body: l}, {Body: l[:0]}},
		Datas:   []api.Data{{Offset: l, B: b}, {Offset: l[:0], B: b[1:2]}},
	}
	if e := checkModel(t, m); e != api.OK {
		t.Error(e)
	}
}

// R1: blocks in one another as deep as bytes let them be, and deeper; lists and bytes far beyond a module's, for which no room is made.
func TestHuge(t *testing.T) {
	const deep = 20000
	body := append(slices.Repeat([]api.Instr{{Op: api.OpLoop, A: 0x40}}, deep), slices.Repeat([]api.Instr{{Op: api.OpEnd}}, deep)...)
	if e := checkModel(t, withCodes(api.Code{Body: body})); e != api.OK {
		t.Error(e)
	}
	checkError(t, withCodes(api.Code{Body: body[1:]}), api.ErrArg)
	checkError(t, withCodes(api.Code{Body: slices.Concat(body[:deep], body, body[deep:])}), api.ErrLong)

	big := api.Data{B: make([]byte, 1<<26)}
	m := api.Module{Datas: slices.Repeat([]api.Data{big}, 31)}
	var before, behind runtime.MemStats
	runtime.ReadMemStats(&before)
	checkError(t, m, api.ErrLong)
	runtime.ReadMemStats(&behind)
	if made := behind.TotalAlloc - before.TotalAlloc; made > 1<<24 {
		t.Errorf("%d bytes of room were made", made)
	}
	m.Datas[30].Offset = []api.Instr{{Op: api.OpEnd}}
	checkError(t, m, api.ErrArg)
	checkError(t, api.Module{Mems: make([]api.Limits, 1<<21)}, api.ErrLong)
	checkError(t, api.Module{Mems: append(make([]api.Limits, 1<<21), api.Limits{Max: -2})}, api.ErrArg)
}
