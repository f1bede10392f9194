package body_test

import (
	"slices"
	"strconv"
	"strings"
	"testing"

	"gabelle/api"
	"gabelle/body"
	"gabelle/opc"
	"gabelle/space"
)

const (
	i32 = api.I32
	i64 = api.I64
)

func types(l ...uint8) []uint8 { return l }

func takes(l ...uint8) api.FuncType { return api.FuncType{Params: l} }

func gives(l ...uint8) api.FuncType { return api.FuncType{Results: l} }

// run is that many locals of a type.
func run(n uint32, t uint8) api.Local { return api.Local{N: n, T: t} }

// written is a body as the chapter's examples write it: instructions with a comma between; an access with A and B, a br_table with its labels, the last one A.
func written(text string) []api.Instr {
	var l []api.Instr
	for part := range strings.SplitSeq(text, ",") {
		if words := strings.Fields(part); len(words) > 0 {
			l = append(l, instruction(words[0], words[1:]))
		}
	}
	return l
}

func instruction(name string, words []string) api.Instr {
	op, ok := opc.Find(name)
	if !ok {
		panic("no instruction " + name)
	}
	x := api.Instr{Op: op}
	var l []int64
	for _, word := range words {
		l = append(l, number(word))
	}
	switch opc.Form(op) {
	case opc.FmBlock:
		x.A = uint32(api.BlockNone)
		if len(l) > 0 {
			x.A = uint32(l[0])
		}
	case opc.FmI32, opc.FmI64:
		x.C = l[0]
	case opc.FmLabels:
		for _, n := range l[:len(l)-1] {
			x.L = append(x.L, uint32(n))
		}
		x.A = uint32(l[len(l)-1])
	case opc.FmAccess:
		x.A, x.B = uint32(l[0]), uint32(l[1])
	case opc.FmLabel, opc.FmIndex, opc.FmIndirect:
		x.A = uint32(l[0])
	}
	return x
}

func number(word string) int64 {
	switch word {
	case "i32":
		return int64(i32)
	case "i64":
		return int64(i64)
	}
	n, err := strconv.ParseInt(word, 0, 64)
	if err != nil {
		panic("no number " + word)
	}
	return n
}

// told is a body as text, for what a failing test says.
func told(l []api.Instr) string {
	var out []string
	for _, x := range l {
		s := opc.Name(x.Op)
		switch opc.Form(x.Op) {
		case opc.FmBlock, opc.FmLabel, opc.FmIndex, opc.FmIndirect:
			s += " " + strconv.Itoa(int(x.A))
		case opc.FmLabels:
			for _, n := range x.L {
				s += " " + strconv.Itoa(int(n))
			}
			s += " " + strconv.Itoa(int(x.A))
		case opc.FmAccess:
			s += " " + strconv.Itoa(int(x.A)) + " " + strconv.Itoa(int(x.B))
		case opc.FmI32, opc.FmI64:
			s += " " + strconv.FormatInt(x.C, 10)
		}
		out = append(out, s)
	}
	return strings.Join(out, ", ")
}

// whole is a module with some of all that a body may name. Function 6 has no type.
func whole() api.Module {
	return api.Module{
		Types: []api.FuncType{
			{},
			{Params: types(i64), Results: types(i32)},
			{Params: types(i32, i64)},
			{Results: types(i64)},
			{Params: types(i64, i32, i32), Results: types(i64)},
			{Params: types(i32), Results: types(i32, i64)},
		},
		Imports: []api.Import{
			{Mod: "env", Name: "a", Kind: api.ExFunc, Type: 2},
			{Mod: "env", Name: "b", Kind: api.ExGlobal, Glob: api.GlobalType{T: i32}},
			{Mod: "env", Name: "c", Kind: api.ExGlobal, Glob: api.GlobalType{T: i64, Mut: true}},
		},
		Funcs:   []uint32{0, 1, 3, 4, 5, 6},
		Globals: []api.Global{{Type: api.GlobalType{T: i32, Mut: true}}, {Type: api.GlobalType{T: i64}}},
		Tables:  []api.Limits{{Min: 1, Max: -1}},
		Mems:    []api.Limits{{Min: 1, Max: 2}},
	}
}

// lacking has no table and no memory.
func lacking() api.Module {
	m := whole()
	m.Tables, m.Mems = nil, nil
	return m
}

// imported has its table and its memory from elsewhere.
func imported() api.Module {
	m := lacking()
	m.Imports = append(m.Imports,
		api.Import{Mod: "env", Name: "d", Kind: api.ExTable, Lim: api.Limits{Max: -1}},
		api.Import{Mod: "env", Name: "e", Kind: api.ExMem, Lim: api.Limits{Max: -1}})
	return m
}

// someLocals, behind a parameter of i32, are numbered from 1 on: i64, i32, i64.
func someLocals() []api.Local { return []api.Local{run(1, i64), run(0, i32), run(1, i32), run(1, i64)} }

// row is a body of a function that takes an i32 and has someLocals, and what is told of it.
type row struct {
	text   string
	height int
	e      api.Errno
}

func (r row) check(t *testing.T, m api.Module, results ...uint8) {
	t.Helper()
	fn := api.FuncType{Params: types(i32), Results: results}
	checkBody(t, m, fn, api.Code{Locals: someLocals(), Body: written(r.text)}, r.height, r.e)
}

// checkRows are of a function that gives nothing.
func checkRows(t *testing.T, m api.Module, rows ...row) {
	t.Helper()
	for _, r := range rows {
		r.check(t, m)
	}
}

// checkBody asks for what is told, and holds it against the model, too, that the model be right.
func checkBody(t *testing.T, m api.Module, fn api.FuncType, c api.Code, height int, e api.Errno) {
	t.Helper()
	if h, got := body.Check(space.Of(m), fn, c); h != height || got != e {
		t.Errorf("%v gives %v: %s: %d, %d, want %d, %d", fn.Params, fn.Results, told(c.Body), h, got, height, e)
	}
	if h, got := modelled(m, fn, c); h != height || got != e {
		t.Errorf("%v gives %v: %s: by the model %d, %d, want %d, %d", fn.Params, fn.Results, told(c.Body), h, got, height, e)
	}
}

func checkLocal(t *testing.T, fn api.FuncType, c api.Code, i uint32, want uint8, is bool) {
	t.Helper()
	if got, ok := body.Local(fn, c, i); got != want || ok != is {
		t.Errorf("%v, %v: local %d is %d, %v, want %d, %v", fn.Params, c.Locals, i, got, ok, want, is)
	}
}

// joined is bodies one behind the other, in a list of its own.
func joined(l ...[]api.Instr) []api.Instr { return slices.Concat(l...) }

// random numbers of a fixed rule.
type random uint64

func (r *random) next(n int) int {
	*r = *r*6364136223846793005 + 1442695040888963407
	return int(uint64(*r)>>33) % n
}
