package valid_test

import (
	"reflect"
	"slices"
	"strconv"
	"strings"
	"testing"

	"gabelle/api"
	"gabelle/space"
	"gabelle/valid"
)

// parts goes over everything that a module is made of.
func parts(v reflect.Value, each func(part reflect.Value)) {
	switch v.Kind() {
	case reflect.Struct:
		for i := range v.NumField() {
			parts(v.Field(i), each)
		}
		return
	case reflect.Slice:
		for i := range v.Len() {
			parts(v.Index(i), each)
		}
	}
	each(v)
}

// others are values that a part may have in its place.
func others(v reflect.Value) []any {
	var l []any
	switch v.Kind() {
	case reflect.Bool:
		l = append(l, !v.Bool())
	case reflect.Uint8:
		for x := range 256 {
			l = append(l, uint8(x))
		}
	case reflect.Uint32:
		for x := range uint32(12) {
			l = append(l, x)
		}
		l = append(l, uint32(i32), uint32(i64), uint32(65535), uint32(65536), uint32(65537), uint32(1<<31), uint32(most))
	case reflect.Int64:
		for _, x := range []int64{-2, -1, 0, 1, 2, 3, 5, 6, 65536, 65537, most, most + 1, 1<<63 - 1, -1 << 63} {
			l = append(l, x)
		}
	case reflect.String:
		l = append(l, "", "main", "Main", "t", "m", "other", "\xff")
	case reflect.Slice:
		l = otherLists(v)
	}
	return l
}

func otherLists(v reflect.Value) []any {
	n := v.Len()
	clipped := v.Slice3(0, n, n)
	l := []any{reflect.Zero(v.Type()).Interface(), reflect.Append(clipped, reflect.Zero(v.Type().Elem())).Interface()}
	for i := range n {
		l = append(l, reflect.AppendSlice(v.Slice3(0, i, i), v.Slice(i+1, n)).Interface())
		l = append(l, reflect.Append(clipped, v.Index(i)).Interface())
	}
	return l
}

// set is the part with another value, and tells how it is set back.
func set(part reflect.Value, x any) func() {
	was := reflect.New(part.Type()).Elem()
	was.Set(part)
	part.Set(reflect.ValueOf(x).Convert(part.Type()))
	return func() { part.Set(was) }
}

// P11.1, P11.2: each part of a module of everything, with each of many other values.
func TestEachPart(t *testing.T) {
	seen := map[api.Errno]int{}
	for _, base := range []func() api.Module{whole, elsewhere} {
		m := base()
		parts(reflect.ValueOf(&m).Elem(), func(part reflect.Value) {
			for _, x := range others(part) {
				back := set(part, x)
				e := checkModel(t, m)
				seen[e]++
				if e == ok && !numbersThere(m) {
					t.Fatalf("valid, with a number of what is not there: %s", shown(m))
				}
				back()
			}
		})
		if !reflect.DeepEqual(m, base()) {
			t.Fatal("the module is another one now")
		}
	}
	for _, e := range []api.Errno{ok, errArg, errIndex, errType, errConst, errTwice, errLimits, errStart} {
		if seen[e] < 10 {
			t.Errorf("too few of a kind: %v", seen)
		}
	}
}

// P11.1, P11.2: some parts at once, with other values, whichever they are.
func TestMixed(t *testing.T) {
	var r random = 11
	seen := map[api.Errno]int{}
	for n := range 20000 {
		m := whole()
		if n%2 > 0 {
			m = elsewhere()
		}
		for range 1 + r.next(4) {
			var all []reflect.Value
			parts(reflect.ValueOf(&m).Elem(), func(part reflect.Value) { all = append(all, part) })
			part := all[r.next(len(all))]
			values := others(part)
			set(part, values[r.next(len(values))])
		}
		e := checkModel(t, m)
		seen[e]++
		if e == ok && !numbersThere(m) {
			t.Fatalf("valid, with a number of what is not there: %s", shown(m))
		}
	}
	for _, e := range []api.Errno{ok, errArg, errIndex, errType, errConst, errTwice, errLimits, errStart} {
		if seen[e] < 20 {
			t.Errorf("too few of a kind: %v", seen)
		}
	}
}

// numbersThere tells whether all that a module's numbers name is there, counted by hand.
func numbersThere(m api.Module) bool {
	kinds := []int{len(m.Funcs), len(m.Tables), len(m.Mems), len(m.Globals)}
	there := true
	has := func(n uint32, count int) { there = there && int64(n) < int64(count) }
	for _, x := range m.Imports {
		kinds[x.Kind]++
		if x.Kind == api.ExFunc {
			has(x.Type, len(m.Types))
		}
	}
	global := func(l []api.Instr) {
		for _, x := range l {
			if x.Op == api.OpGlobalGet || x.Op == api.OpGlobalSet {
				has(x.A, kinds[3])
			}
		}
	}
	for _, n := range m.Funcs {
		has(n, len(m.Types))
	}
	for _, x := range m.Globals {
		global(x.Init)
	}
	for _, x := range m.Exports {
		has(x.Index, kinds[x.Kind])
	}
	if m.HasStart {
		has(m.Start, kinds[0])
	}
	for _, x := range m.Elems {
		has(x.Table, kinds[1])
		global(x.Offset)
		for _, n := range x.Funcs {
			has(n, kinds[0])
		}
	}
	for _, x := range m.Datas {
		has(x.Mem, kinds[2])
		global(x.Offset)
	}
	for _, c := range m.Codes {
		global(c.Body)
		for _, x := range c.Body {
			switch x.Op {
			case api.OpCall:
				has(x.A, kinds[0])
			case api.OpCallIndirect:
				has(x.A, len(m.Types))
			}
		}
	}
	return there
}

// P11.2: all functions of a valid module have types that are there, as layer 8 tells.
func TestFunctionsHaveTypes(t *testing.T) {
	for _, m := range []api.Module{whole(), elsewhere()} {
		s := space.Of(m)
		for i := range uint32(8) {
			if _, is := s.Func(i); !is {
				t.Errorf("function %d has no type", i)
			}
		}
	}
	for _, x := range []struct {
		name  string
		count int
	}{{"call", 8}, {"call_indirect", 5}, {"global.get", 9}} {
		for n := range 12 {
			m := whole()
			m.Codes[4].Body = written("unreachable, " + x.name + " " + strconv.Itoa(n) + ", unreachable")
			e := errIndex
			if n < x.count {
				e = ok
			}
			if _, got := valid.Check(m); got != e {
				t.Errorf("%s %d: %d, want %d", x.name, n, got, e)
			}
		}
	}
}

// P11.2: a module without codes, elements, data, globals, exports and start is valid just if its types, imports and limits are.
func TestWithoutTheRest(t *testing.T) {
	var r random = 12
	types := []api.FuncType{{}, fn(types(i32, i64), i32), fn(nil, i64), fn(types(i32)), {}, fn(nil, i32, i32), fn(types(api.F32)), fn(nil, api.F64)}
	limits := []api.Limits{{}, {Max: -1}, {Min: 3, Max: 65536}, {Max: -1}, {Min: 2, Max: 1}, {Max: -2}, {Max: most + 1}}
	seen := map[bool]int{}
	for range 40000 {
		var m api.Module
		may := true
		for range r.next(5) {
			n := r.next(5 + r.next(4))
			m.Types = append(m.Types, types[n])
			may = may && n < 5
		}
		tables, mems := 0, 0
		limit := func() api.Limits {
			n := r.next(4 + r.next(4))
			may = may && n < 4
			return limits[n]
		}
		for range r.next(6) {
			switch n := r.next(8); n {
			case 0:
				m.Imports, tables = append(m.Imports, tableFrom(limit())), tables+1
			case 1:
				m.Imports, mems = append(m.Imports, memFrom(limit())), mems+1
			case 2, 3:
				own := []uint8{i32, i64, i32, api.F32}[r.next(3+r.next(2))]
				m.Imports, may = append(m.Imports, globalFrom(mut(own))), may && own != api.F32
			default:
				n := r.next(3)
				m.Imports, may = append(m.Imports, funcFrom(uint32(n))), may && n < len(m.Types)
			}
		}
		if r.next(3) == 0 {
			m.Tables, tables = append(m.Tables, limit()), tables+1
		}
		if r.next(3) == 0 {
			m.Mems, mems = append(m.Mems, limit()), mems+1
		}
		may = may && tables < 2 && mems < 2
		seen[may]++
		if e := checkModel(t, m); (e == ok) != may {
			t.Fatalf("%d: %s", e, shown(m))
		}
	}
	if seen[true] < 5000 || seen[false] < 5000 {
		t.Errorf("too few of a kind: %v", seen)
	}
}

// R1: lists and numbers that are huge.
func TestHuge(t *testing.T) {
	const n = 200000
	m := whole()
	for i := range n {
		m.Exports = append(m.Exports, api.Export{Name: strconv.Itoa(i), Kind: api.ExFunc, Index: uint32(i % 8)})
	}
	m.Elems[1].Funcs = slices.Repeat([]uint32{7, 0}, n)
	m.Types[4].Params = append(m.Types[4].Params, slices.Repeat(types(i64), n)...)
	m.Elems[2].Funcs = slices.Repeat([]uint32{6}, n)
	m.Datas = slices.Repeat(m.Datas, n)
	m.Codes[3].Body = written("i64.const 1")
	heights := []int{2, 1, 3, 1, 0}
	told := func(what string, heights []int, e api.Errno) {
		t.Helper()
		if l, got := valid.Check(m); got != e || !slices.Equal(l, heights) {
			t.Errorf("%s: %v, %d, want %v, %d", what, l, got, heights, e)
		}
	}
	told("many", heights, ok)
	m.Datas[len(m.Datas)-1].Offset = nil
	told("the last one of many data", nil, errConst)
	m.Elems[2].Funcs[n-1] = most
	told("the last one of many functions", nil, errIndex)
	m.Exports[len(m.Exports)-1].Name = "0"
	told("the last one of many exports", nil, errTwice)
	m.Exports[len(m.Exports)-1].Index = most
	told("the last one of many exports, of what is not there", nil, errIndex)
	m.Globals = append(m.Globals, api.Global{Type: val(i32), Init: slices.Repeat(written("i32.const 1"), n)})
	told("a long expression", nil, errConst)
	m.Types[4].Params[n] = api.F32
	told("the last one of many parameters", nil, errType)

	deep := api.Module{Types: []api.FuncType{{}}, Funcs: make([]uint32, n), Codes: make([]api.Code, n)}
	for i := range n {
		deep.Imports = append(deep.Imports, globalFrom(val(i64)))
		deep.Globals = append(deep.Globals, api.Global{Type: val(i64), Init: []api.Instr{{Op: api.OpGlobalGet, A: uint32(i)}}})
	}
	deep.Codes[n-1].Body = written("global.get 199999, drop" + strings.Repeat(", block", n) + strings.Repeat(", end", n))
	l, e := valid.Check(deep)
	if e != ok || len(l) != n || l[n-1] != 1 || slices.Max(l[:n-1]) != 0 {
		t.Errorf("%d heights, %d", len(l), e)
	}
}
