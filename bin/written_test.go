package bin_test

import (
	"encoding/hex"
	"reflect"
	"slices"
	"strings"

	"gabelle/api"
	"gabelle/leb"
)

// Binaries are written as pieces: bytes to the base 16, with a mark behind them that says what they are; [ a section's number, and its contents ], ( bytes of a code ).
const (
	isKind   = '!' // a byte that says a kind
	isType   = '?' // a value's type
	isBlock  = '^' // a block's type
	isOpcode = '*'
	isName   = '$'
	isCount  = '#' // how many there are
	isNumber = '%' // another number
	isEnd    = '.' // nothing: where a section's contents, or a code's, end
	marks    = "!?^*$#%."
)

// rich has each section, and each of its things once and more than once.
const rich = `
[ 01 03#  60! 00# 00#  60! 02# 7f? 7e? 01# 7f?  60! 00# 01# 7e? . ]
[ 02 05#  03656e76$ 04656d6974$ 00! 02%  016d$ 0174$ 01! 70! 00! 05%  00$ 00$ 02! 01! 01% 03%  02c3a4$ 0167$ 03! 7e? 01!  0161$ 0162$ 03! 7f? 00! . ]
[ 03 03#  00% 8101% 02% . ]
[ 04 02#  70! 00! 0a%  70! 01! 00% ffffffff0f% . ]
[ 05 02#  00! 01%  01! 07% 02% . ]
[ 06 02#  7f? 00! 41* 07 0b*  7e? 01! 42* 7f 01* 0b* . ]
[ 07 04#  046d61696e$ 00! 05%  00$ 03! 00%  0178$ 02! 8001%  02c3b6$ 01! 01% . ]
[ 08 8301% . ]
[ 09 02#  00% 41* 00 0b* 02# 00% 01%  8001% 23* 00 0b* 00# . ]
[ 0a 03#  ( 00# 0b* . )  ( 02# 03% 7f? 8001% 7e? 20* 00 02* 40^ 0e* 0200810103 0b* 1a* 0b* . )  ( 01# 00% 7e? 0b* . ) . ]
[ 0b 02#  00% 41* 08 0b* 02# 6869  01% 0b* 00# . ]`

// richModule is rich, written out by hand.
func richModule() api.Module {
	return api.Module{
		Types: []api.FuncType{{}, {Params: []uint8{api.I32, api.I64}, Results: []uint8{api.I32}}, {Results: []uint8{api.I64}}},
		Imports: []api.Import{
			{Mod: "env", Name: "emit", Kind: api.ExFunc, Type: 2},
			{Mod: "m", Name: "t", Kind: api.ExTable, Lim: api.Limits{Min: 5, Max: -1}},
			{Kind: api.ExMem, Lim: api.Limits{Min: 1, Max: 3}},
			{Mod: "ä", Name: "g", Kind: api.ExGlobal, Glob: api.GlobalType{T: api.I64, Mut: true}},
			{Mod: "a", Name: "b", Kind: api.ExGlobal, Glob: api.GlobalType{T: api.I32}},
		},
		Funcs:  []uint32{0, 129, 2},
		Tables: []api.Limits{{Min: 10, Max: -1}, {Min: 0, Max: 1<<32 - 1}},
		Mems:   []api.Limits{{Min: 1, Max: -1}, {Min: 7, Max: 2}},
		Globals: []api.Global{
			{Type: api.GlobalType{T: api.I32}, Init: []api.Instr{{Op: api.OpI32Const, C: 7}}},
			{Type: api.GlobalType{T: api.I64, Mut: true}, Init: []api.Instr{{Op: api.OpI64Const, C: -1}, {Op: api.OpNop}}},
		},
		Exports:  []api.Export{{Name: "main", Kind: api.ExFunc, Index: 5}, {Kind: api.ExGlobal}, {Name: "x", Kind: api.ExMem, Index: 128}, {Name: "ö", Kind: api.ExTable, Index: 1}},
		HasStart: true,
		Start:    131,
		Elems: []api.Elem{
			{Offset: []api.Instr{{Op: api.OpI32Const}}, Funcs: []uint32{0, 1}},
			{Table: 128, Offset: []api.Instr{{Op: api.OpGlobalGet}}},
		},
		Codes: []api.Code{
			{},
			{
				Locals: []api.Local{{N: 3, T: api.I32}, {N: 128, T: api.I64}},
				Body:   []api.Instr{{Op: api.OpLocalGet}, {Op: api.OpBlock, A: 0x40}, {Op: api.OpBrTable, L: []uint32{0, 129}, A: 3}, {Op: api.OpEnd}, {Op: api.OpDrop}},
			},
			{Locals: []api.Local{{T: api.I64}}},
		},
		Datas: []api.Data{{Offset: []api.Instr{{Op: api.OpI32Const, C: 8}}, B: []byte("hi")}, {Mem: 1}},
	}
}

func head() []byte { return []byte{0x00, 0x61, 0x73, 0x6d, 0x01, 0x00, 0x00, 0x00} }

func number(n uint64) []byte { return leb.AppendU(nil, n) }

// longer are a number's bytes, more of them than it needs.
func longer(b []byte, more int) []byte {
	b = slices.Clone(b)
	for range more {
		b[len(b)-1] |= 0x80
		b = append(b, 0)
	}
	return b
}

func sized(b []byte) []byte { return append(number(uint64(len(b))), b...) }

// section is one, whatever its number.
func section(id uint8, contents ...[]byte) []byte {
	return append([]byte{id}, sized(slices.Concat(contents...))...)
}

// of is a binary of such sections.
func of(sections ...[]byte) []byte { return append(head(), slices.Concat(sections...)...) }

func unhex(s string) []byte {
	b, err := hex.DecodeString(strings.TrimRight(s, marks))
	if err != nil {
		panic(err)
	}
	return b
}

func hexed(b []byte) string { return hex.EncodeToString(b) }

// pieces are those of a text.
func pieces(text string) []string { return strings.Fields(text) }

// put is the pieces with another one in the place of one of them.
func put(l []string, at int, piece string) []string {
	l = slices.Clone(l)
	l[at] = piece
	return l
}

// places are those of the pieces that have one of the marks.
func places(l []string, marks string) []int {
	var at []int
	for i, x := range l {
		if strings.ContainsAny(x, marks) {
			at = append(at, i)
		}
	}
	return at
}

// written is the bytes of pieces, with the lengths of sections and codes.
func written(l []string) []byte {
	open := [][]byte{nil}
	for _, x := range l {
		last := len(open) - 1
		switch x {
		case "[", "(":
			open = append(open, nil)
		case "]":
			open[last-1] = append(open[last-1], section(open[last][0], open[last][1:])...)
			open = open[:last]
		case ")":
			open[last-1] = append(open[last-1], sized(open[last])...)
			open = open[:last]
		default:
			open[last] = append(open[last], unhex(x)...)
		}
	}
	return open[0]
}

// binary is that of a text.
func binary(text string) []byte { return of(written(pieces(text))) }

// richSections are rich's, in order: of each its number and its contents.
func richSections() (ids []uint8, contents [][]byte) {
	for line := range strings.Lines(strings.TrimSpace(rich)) {
		l := pieces(line)
		ids = append(ids, unhex(l[1])[0])
		contents = append(contents, written(l[2:len(l)-1]))
	}
	return ids, contents
}

// richWith is rich's binary, with other contents of the section at a place.
func richWith(at int, b []byte) []byte {
	ids, contents := richSections()
	out := head()
	for i, id := range ids {
		if i == at {
			contents[i] = b
		}
		out = append(out, section(id, contents[i])...)
	}
	return out
}

// same takes lists that are nil and empty ones for the same.
func same(x, y reflect.Value) bool {
	switch x.Kind() {
	case reflect.Slice:
		if x.Len() != y.Len() {
			return false
		}
		for i := range x.Len() {
			if !same(x.Index(i), y.Index(i)) {
				return false
			}
		}
		return true
	case reflect.Struct:
		for i := range x.NumField() {
			if !same(x.Field(i), y.Field(i)) {
				return false
			}
		}
		return true
	}
	return x.Equal(y)
}

func sameModule(x, y api.Module) bool { return same(reflect.ValueOf(x), reflect.ValueOf(y)) }
