package enc_test

import (
	"encoding/hex"
	"reflect"
	"slices"
	"strings"

	"gabelle/api"
)

func head() []byte { return []byte{0x00, 0x61, 0x73, 0x6d, 0x01, 0x00, 0x00, 0x00} }

func unhex(s string) []byte {
	b, err := hex.DecodeString(strings.ReplaceAll(s, " ", ""))
	if err != nil {
		panic(err)
	}
	return b
}

// of is a binary: its beginning, and what is written to the base 16.
func of(behind string) []byte { return append(head(), unhex(behind)...) }

func constant(n int64) []api.Instr { return []api.Instr{{Op: api.OpI32Const, C: n}} }

// pair is a module and what its binary has behind its beginning, both written out by hand.
type pair struct {
	m      api.Module
	behind string
}

// written are modules of one section each (or of two, where functions need codes), with one entry and with several.
func written() []pair {
	return []pair{
		{api.Module{Types: []api.FuncType{{}}}, "01 04 01 60 00 00"},
		{api.Module{Types: []api.FuncType{{Params: []uint8{0x7f, 0x7e}, Results: []uint8{0x7f}}, {}, {Results: []uint8{0x7e, 0x7e}}}}, "01 0f 03 60 02 7f 7e 01 7f 60 00 00 60 00 02 7e 7e"},

		{api.Module{Imports: []api.Import{{Mod: "env", Name: "emit", Type: 2}}}, "02 0c 01 03 65 6e 76 04 65 6d 69 74 00 02"},
		{api.Module{Imports: []api.Import{
			{Mod: "m", Name: "t", Kind: 1, Lim: api.Limits{Min: 5, Max: -1}},
			{Kind: 2, Lim: api.Limits{Min: 1, Max: 3}},
			{Mod: "ä", Name: "g", Kind: 3, Glob: api.GlobalType{T: 0x7e, Mut: true}},
			{Mod: "a", Name: "b", Kind: 3, Glob: api.GlobalType{T: 0x7f}},
		}}, "02 1e 04 01 6d 01 74 01 70 00 05 00 00 02 01 01 03 02 c3 a4 01 67 03 7e 01 01 61 01 62 03 7f 00"},
		{api.Module{Imports: []api.Import{{Kind: 1}, {Kind: 2}, {Kind: 0}}}, "02 12 03 00 00 01 70 01 00 00 00 00 02 01 00 00 00 00 00 00"},

		{api.Module{Funcs: []uint32{0}, Codes: []api.Code{{}}}, "03 02 01 00 0a 04 01 02 00 0b"},
		{api.Module{Funcs: []uint32{0, 129, 1<<32 - 1}, Codes: []api.Code{
			{},
			{Locals: []api.Local{{N: 3, T: 0x7f}, {N: 128, T: 0x7e}}, Body: []api.Instr{{Op: api.OpLocalGet}, {Op: api.OpBlock, A: 0x40}, {Op: api.OpBrTable, L: []uint32{0, 129}, A: 3}, {Op: api.OpEnd}, {Op: api.OpDrop}}},
			{Locals: []api.Local{{T: 0x7e}}},
		}}, "03 09 03 00 81 01 ff ff ff ff 0f 0a 1d 03 02 00 0b 13 02 03 7f 80 01 7e 20 00 02 40 0e 02 00 81 01 03 0b 1a 0b 04 01 00 7e 0b"},

		{api.Module{Tables: []api.Limits{{}}}, "04 05 01 70 01 00 00"},
		{api.Module{Tables: []api.Limits{{Min: 10, Max: -1}, {Max: 1<<32 - 1}}}, "04 0c 02 70 00 0a 70 01 00 ff ff ff ff 0f"},

		{api.Module{Mems: []api.Limits{{Min: 2, Max: -1}}}, "05 03 01 00 02"},
		{api.Module{Mems: []api.Limits{{Min: 2, Max: 3}, {Max: 1<<32 - 1}, {Min: 1<<32 - 1}}}, "05 12 03 01 02 03 01 00 ff ff ff ff 0f 01 ff ff ff ff 0f 00"},

		{api.Module{Globals: []api.Global{{Type: api.GlobalType{T: 0x7f}}}}, "06 04 01 7f 00 0b"},
		{api.Module{Globals: []api.Global{
			{Type: api.GlobalType{T: 0x7f}, Init: constant(7)},
			{Type: api.GlobalType{T: 0x7e, Mut: true}, Init: []api.Instr{{Op: api.OpI64Const, C: -1}, {Op: api.OpNop}}},
		}}, "06 0c 02 7f 00 41 07 0b 7e 01 42 7f 01 0b"},

		{api.Module{Exports: []api.Export{{}}}, "07 04 01 00 00 00"},
		{api.Module{Exports: []api.Export{{Name: "main", Index: 5}, {Kind: 3}, {Name: "x", Kind: 2, Index: 128}, {Name: "ö", Kind: 1, Index: 1}}}, "07 15 04 04 6d 61 69 6e 00 05 00 03 00 01 78 02 80 01 02 c3 b6 01 01"},

		{api.Module{HasStart: true}, "08 01 00"},
		{api.Module{HasStart: true, Start: 1}, "08 01 01"},
		{api.Module{HasStart: true, Start: 131}, "08 02 83 01"},
		{api.Module{HasStart: true, Start: 1<<32 - 1}, "08 05 ff ff ff ff 0f"},

		{api.Module{Elems: []api.Elem{{}}}, "09 04 01 00 0b 00"},
		{api.Module{Elems: []api.Elem{{Offset: constant(0), Funcs: []uint32{0, 1}}, {Table: 128, Offset: []api.Instr{{Op: api.OpGlobalGet}}}}}, "09 0e 02 00 41 00 0b 02 00 01 80 01 23 00 0b 00"},

		{api.Module{Datas: []api.Data{{}}}, "0b 04 01 00 0b 00"},
		{api.Module{Datas: []api.Data{{Offset: constant(8), B: []byte("hi")}, {Mem: 1}}}, "0b 0b 02 00 41 08 0b 02 68 69 01 0b 00"},
	}
}

// rich is a module of all that is written, one behind the other; its binary is put together of theirs in rising order.
func rich() api.Module {
	var m api.Module
	to := reflect.ValueOf(&m).Elem()
	for _, p := range written() {
		from := reflect.ValueOf(p.m)
		for i := range from.NumField() {
			if f := from.Field(i); f.Kind() == reflect.Slice {
				to.Field(i).Set(reflect.AppendSlice(to.Field(i), f))
			}
		}
	}
	m.HasStart, m.Start = true, 131
	return m
}

// copied has lists of its own throughout, with room behind them.
func copied(v reflect.Value) reflect.Value {
	out := reflect.New(v.Type()).Elem()
	switch v.Kind() {
	case reflect.Slice:
		if v.IsNil() {
			return out
		}
		out = reflect.MakeSlice(v.Type(), v.Len(), v.Len()+3)
		for i := range v.Len() {
			out.Index(i).Set(copied(v.Index(i)))
		}
	case reflect.Struct:
		for i := range v.NumField() {
			out.Field(i).Set(copied(v.Field(i)))
		}
	default:
		out.Set(v)
	}
	return out
}

func copyOf(m api.Module) api.Module {
	return copied(reflect.ValueOf(m)).Interface().(api.Module)
}

// same takes lists that are nil and empty ones for the same.
func same(x, y reflect.Value) bool {
	switch x.Kind() {
	case reflect.Slice:
		if x.Len() != y.Len() {
			return false
		}
		for i := range x.Len() {
			if !same(x.Index(i), y.Index(i)) {
				return false
			}
		}
		return true
	case reflect.Struct:
		for i := range x.NumField() {
			if !same(x.Field(i), y.Field(i)) {
				return false
			}
		}
		return true
	}
	return x.Equal(y)
}

func sameModule(x, y api.Module) bool { return same(reflect.ValueOf(x), reflect.ValueOf(y)) }

// changes are other values for one of a module's parts; each is set by its function, and the part is what it was behind it.
func changes(v reflect.Value, each func()) {
	was := reflect.New(v.Type()).Elem()
	was.Set(v)
	try := func(x any) {
		v.Set(reflect.ValueOf(x).Convert(v.Type()))
		each()
	}
	switch v.Kind() {
	case reflect.Bool:
		try(!was.Bool())
	case reflect.Uint8:
		for x := range 256 {
			try(uint8(x))
		}
	case reflect.Uint32:
		for _, x := range edges() {
			try(uint32(x))
		}
	case reflect.Int64:
		for _, x := range edges() {
			try(int64(x))
			try(-int64(x))
		}
		for _, x := range []int64{1 << 32, 1<<32 + 1, 1<<63 - 1, -1 << 63, -1 << 32} {
			try(x)
		}
	case reflect.String:
		for _, s := range []string{"", "x", "é", "\x00", strings.Repeat("y", 128), "\xff", "a\xc3", "\xc0\x80", "\xed\xa0\x80", "\xf4\x90\x80\x80"} {
			try(s)
		}
	case reflect.Slice:
		try(reflect.Zero(v.Type()).Interface())
		if n := was.Len(); n > 0 {
			try(was.Slice(0, n-1).Interface())
			try(was.Slice(1, n).Interface())
			try(reflect.AppendSlice(was.Slice3(0, n, n), was.Slice(0, 1)).Interface())
			try(reflect.AppendSlice(was.Slice3(0, n, n), was).Interface())
		}
		try(reflect.Append(was.Slice3(0, was.Len(), was.Len()), reflect.Zero(v.Type().Elem())).Interface())
	}
	v.Set(was)
}

// parts goes over everything that a module is made of.
func parts(v reflect.Value, each func(part reflect.Value)) {
	switch v.Kind() {
	case reflect.Struct:
		for i := range v.NumField() {
			parts(v.Field(i), each)
		}
		return
	case reflect.Slice:
		for i := range v.Len() {
			parts(v.Index(i), each)
		}
	}
	each(v)
}

// edges are numbers at which one byte more is taken, and their neighbours.
func edges() []uint64 {
	l := []uint64{0, 1, 2, 1<<32 - 2, 1<<32 - 1}
	for bits := 6; bits < 32; bits++ {
		l = append(l, 1<<bits-1, 1<<bits)
	}
	slices.Sort(l)
	return l
}
