package valid_test

import (
	"fmt"
	"reflect"
	"slices"
	"strconv"
	"strings"
	"testing"

	"gabelle/api"
	"gabelle/opc"
	"gabelle/valid"
)

const (
	i32 = api.I32
	i64 = api.I64

	ok        = api.OK
	errArg    = api.ErrArg
	errIndex  = api.ErrIndex
	errType   = api.ErrType
	errLabel  = api.ErrLabel
	errConst  = api.ErrConst
	errTwice  = api.ErrTwice
	errLimits = api.ErrLimits
	errStart  = api.ErrStart

	most = 1<<32 - 1 // of 32 bits
)

func types(l ...uint8) []uint8 { return l }

// fn is a function's type: what it takes, and what it gives.
func fn(takes []uint8, gives ...uint8) api.FuncType {
	return api.FuncType{Params: takes, Results: gives}
}

// val and mut are types of globals.
func val(t uint8) api.GlobalType { return api.GlobalType{T: t} }
func mut(t uint8) api.GlobalType { return api.GlobalType{T: t, Mut: true} }

func funcFrom(typ uint32) api.Import {
	return api.Import{Mod: "env", Name: "f", Kind: api.ExFunc, Type: typ}
}

func tableFrom(l api.Limits) api.Import {
	return api.Import{Mod: "env", Name: "t", Kind: api.ExTable, Lim: l}
}

func memFrom(l api.Limits) api.Import {
	return api.Import{Mod: "env", Name: "m", Kind: api.ExMem, Lim: l}
}

func globalFrom(g api.GlobalType) api.Import {
	return api.Import{Mod: "env", Name: "g", Kind: api.ExGlobal, Glob: g}
}

// written is instructions as the chapter's examples write them, with a comma between; an access with A and B, a br_table with its labels, the last one A. Lists are of their own each time.
func written(text string) []api.Instr {
	if _, was := read[text]; !was {
		var l []api.Instr
		for part := range strings.SplitSeq(text, ",") {
			if words := strings.Fields(part); len(words) > 0 {
				l = append(l, instruction(words[0], words[1:]))
			}
		}
		read[text] = l
	}
	return slices.Clone(read[text])
}

var read = map[string][]api.Instr{}

func instruction(name string, words []string) api.Instr {
	op, is := opc.Find(name)
	if !is {
		panic("no instruction " + name)
	}
	x := api.Instr{Op: op}
	var l []int64
	for _, word := range words {
		l = append(l, number(word))
	}
	switch opc.Form(op) {
	case opc.FmBlock:
		x.A = uint32(api.BlockNone)
		if len(l) > 0 {
			x.A = uint32(l[0])
		}
	case opc.FmI32, opc.FmI64:
		x.C = l[0]
	case opc.FmLabels:
		for _, n := range l[:len(l)-1] {
			x.L = append(x.L, uint32(n))
		}
		x.A = uint32(l[len(l)-1])
	case opc.FmAccess:
		x.A, x.B = uint32(l[0]), uint32(l[1])
	case opc.FmLabel, opc.FmIndex, opc.FmIndirect:
		x.A = uint32(l[0])
	}
	return x
}

func number(word string) int64 {
	switch word {
	case "i32":
		return int64(i32)
	case "i64":
		return int64(i64)
	}
	n, err := strconv.ParseInt(word, 0, 64)
	if err != nil {
		panic("no number " + word)
	}
	return n
}

// whole is a module with some of all. Its functions: 0 to 2 are imported, of types 2, 1, 0; 3 to 7 are its own, of types 0, 1, 3, 4, 0. Its globals: 0 to 3 are imported, an i32, an i64, and these once more, which are Mut; 4 to 8 are its own.
func whole() api.Module {
	return api.Module{
		Types: []api.FuncType{
			fn(nil),
			fn(types(i64), i32),
			fn(types(i32, i64)),
			fn(nil, i64),
			fn(types(i32, i32, i32), i64),
		},
		Imports: []api.Import{funcFrom(2), globalFrom(val(i32)), funcFrom(1), globalFrom(val(i64)), globalFrom(mut(i32)), funcFrom(0), globalFrom(mut(i64))},
		Funcs:   []uint32{0, 1, 3, 4, 0},
		Tables:  []api.Limits{{Min: 1, Max: 5}},
		Mems:    []api.Limits{{Min: 1, Max: 2}},
		Globals: []api.Global{
			{Type: val(i32), Init: written("i32.const 7")},
			{Type: mut(i64), Init: written("i64.const -1")},
			{Type: mut(i32), Init: written("global.get 0")},
			{Type: val(i64), Init: written("global.get 1")},
			{Type: val(i32), Init: written("i32.const -7")},
		},
		Exports: []api.Export{
			{Name: "main", Kind: api.ExFunc, Index: 3},
			{Name: "t", Kind: api.ExTable, Index: 0},
			{Name: "", Kind: api.ExFunc, Index: 2},
			{Name: "Main", Kind: api.ExGlobal, Index: 8},
			{Name: "m", Kind: api.ExMem, Index: 0},
		},
		HasStart: true,
		Start:    7,
		Elems: []api.Elem{
			{Offset: written("i32.const 0"), Funcs: []uint32{0, 3, 7}},
			{Offset: written("global.get 0"), Funcs: []uint32{7, 7, 2}},
			{Offset: written("i32.const -1"), Funcs: []uint32{1, 4, 5}},
		},
		Codes: wholeCodes(),
		Datas: []api.Data{
			{Offset: written("i32.const 5"), B: []byte{1, 2}},
			{Offset: written("global.get 0")},
			{Offset: written("i32.const 65536"), B: []byte{3}},
		},
	}
}

func wholeCodes() []api.Code {
	return []api.Code{
		{Body: written("i32.const 1, i64.const 2, call 0, i64.const 3, i32.const 0, call_indirect 1, drop")},
		{Locals: []api.Local{{N: 1, T: i32}}, Body: written("local.get 0, i32.wrap_i64, local.tee 1")},
		{Body: written("i64.const 1, global.get 3, global.get 7, i64.add, global.set 3")},
		{Locals: []api.Local{{N: 2, T: i64}, {N: 1, T: i32}}, Body: written("block i64, local.get 0, i64.load 3 8, local.get 5, br_if 0, local.tee 4, end")},
		{},
	}
}

// wholeHeights are of the codes of whole.
func wholeHeights() []int { return []int{2, 1, 3, 2, 0} }

// elsewhere is whole with its table and its memory from elsewhere, among its other imports.
func elsewhere() api.Module {
	m := whole()
	m.Imports = slices.Concat(
		[]api.Import{memFrom(m.Mems[0])}, m.Imports[:4],
		[]api.Import{tableFrom(m.Tables[0])}, m.Imports[4:])
	m.Tables, m.Mems = nil, nil
	return m
}

func shown(m api.Module) string {
	s := fmt.Sprintf("%+v", m)
	return s[:min(len(s), 1500)]
}

// check asks for what is told, and holds it against the model, too, that the model be right.
func check(t *testing.T, what string, m api.Module, heights []int, e api.Errno) {
	t.Helper()
	if l, got := valid.Check(m); !slices.Equal(l, heights) || got != e {
		t.Errorf("%s: %v, %d, want %v, %d: %s", what, l, got, heights, e, shown(m))
	}
	if l, got := modelled(m); !slices.Equal(l, heights) || got != e {
		t.Errorf("%s: by the model %v, %d, want %v, %d: %s", what, l, got, heights, e, shown(m))
	}
}

// checkModel holds what is told against the model alone.
func checkModel(t *testing.T, m api.Module) api.Errno {
	t.Helper()
	heights, e := modelled(m)
	if l, got := valid.Check(m); !slices.Equal(l, heights) || got != e {
		t.Fatalf("%v, %d, want %v, %d: %s", l, got, heights, e, shown(m))
	}
	return e
}

// copyOf shares no memory; its lists have room, which is zero.
func copyOf(m api.Module) api.Module {
	return copied(reflect.ValueOf(m)).Interface().(api.Module)
}

func copied(v reflect.Value) reflect.Value {
	out := reflect.New(v.Type()).Elem()
	switch v.Kind() {
	case reflect.Slice:
		if v.IsNil() {
			return out
		}
		out = reflect.MakeSlice(v.Type(), v.Len(), v.Len()+3)
		for i := range v.Len() {
			out.Index(i).Set(copied(v.Index(i)))
		}
	case reflect.Struct:
		for i := range v.NumField() {
			out.Field(i).Set(copied(v.Field(i)))
		}
	default:
		out.Set(v)
	}
	return out
}

// random numbers of a fixed rule.
type random uint64

func (r *random) next(n int) int {
	*r = *r*6364136223846793005 + 1442695040888963407
	return int(uint64(*r)>>33) % n
}
