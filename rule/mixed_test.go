package rule_test

import (
	"reflect"
	"slices"
	"strings"
	"testing"

	"gabelle/api"
	"gabelle/rule"
	"gabelle/space"
)

// parts goes over everything that a module is made of.
func parts(v reflect.Value, each func(part reflect.Value)) {
	switch v.Kind() {
	case reflect.Struct:
		for i := range v.NumField() {
			parts(v.Field(i), each)
		}
		return
	case reflect.Slice:
		for i := range v.Len() {
			parts(v.Index(i), each)
		}
	}
	each(v)
}

// others are values that a part may have in its place.
func others(v reflect.Value) []any {
	var l []any
	switch v.Kind() {
	case reflect.Bool:
		l = append(l, !v.Bool())
	case reflect.Uint8:
		for _, x := range []uint8{0, 1, 2, 3, 4, api.OpElse, api.OpEnd, api.OpReturn, api.OpDrop, i32, i64, api.F32, api.BlockNone, 255} {
			l = append(l, x)
		}
	case reflect.Uint32:
		for _, x := range []uint32{0, 1, 2, 3, 10, 15, 16, 17, 18, 19, 20, 127, 253, 254, 255, 256, 257, 1023, 1024, 1025, 1 << 31, most - 1, most} {
			l = append(l, x)
		}
	case reflect.Int64:
		for _, x := range []int64{-2, -1, 0, 1, 16, 17, 1024, 1025, 65536, 65537, most, most + 1} {
			l = append(l, x)
		}
	case reflect.String:
		l = append(l, "", "env", "main", "init", "Main", "self", "caller", "other", "\xff", strings.Repeat("é", 32), strings.Repeat("é", 32)+"a")
	case reflect.Slice:
		l = otherLists(v)
	}
	return l
}

func otherLists(v reflect.Value) []any {
	n := v.Len()
	clipped := v.Slice3(0, n, n)
	l := []any{reflect.Zero(v.Type()).Interface(), reflect.Append(clipped, reflect.Zero(v.Type().Elem())).Interface()}
	for i := range n {
		l = append(l, reflect.AppendSlice(v.Slice3(0, i, i), v.Slice(i+1, n)).Interface())
		l = append(l, reflect.Append(clipped, v.Index(i)).Interface())
	}
	for _, size := range []int{16, 17, 64, 65, 128, 129, 256, 257} {
		if n > 0 && n < size && v.Type().Elem().Kind() != reflect.Struct {
			long := reflect.MakeSlice(v.Type(), size, size)
			for i := range size {
				long.Index(i).Set(v.Index(min(i, n-1)))
			}
			l = append(l, long.Interface())
		}
	}
	return l
}

// set is the part with another value, and tells how it is set back.
func set(part reflect.Value, x any) func() {
	was := reflect.New(part.Type()).Elem()
	was.Set(part)
	part.Set(reflect.ValueOf(x).Convert(part.Type()))
	return func() { part.Set(was) }
}

// checkModel holds what is told against the model alone, and against what follows from it.
func checkModel(t *testing.T, m api.Module) api.Errno {
	t.Helper()
	e := rule.Check(m)
	if want := modelled(m); e != want {
		t.Fatalf("%d, want %d: %s", e, want, shown(m))
	}
	if e == ok {
		checkMayBe(t, m)
	}
	return e
}

// checkMayBe holds a module that may be deployed against what follows: it imports what is offered alone, and may not be with an import more that is not offered, nor without main.
func checkMayBe(t *testing.T, m api.Module) {
	t.Helper()
	s, hosts := space.Of(m), rule.Hosts()
	for i, x := range m.Imports {
		n, is := rule.Find(x.Name)
		typ, there := s.Func(uint32(i))
		if !is || !there || x.Mod != "env" || !space.Same(typ, hosts[n].Type) {
			t.Errorf("it imports %v: %s", x, shown(m))
		}
	}
	without := copyOf(m)
	without.Exports = slices.DeleteFunc(without.Exports, func(x api.Export) bool { return x.Name == "main" })
	if e := rule.Check(without); e != errExport {
		t.Errorf("%d without main: %s", e, shown(m))
	}
	last := uint32(len(m.Types) - 1)
	for _, x := range []api.Import{env("sender", last), {Mod: "meter", Name: "charge", Type: last}, {Mod: "env", Name: "self", Kind: api.ExGlobal, Glob: api.GlobalType{T: i32}}} {
		e := errImport
		if len(m.Imports) == 64 {
			e = errSize
		}
		if got := rule.Check(imported(m, x)); got != e {
			t.Errorf("%d, want %d, with %v, too: %s", got, e, x, shown(m))
		}
	}
}

// P12.3: modules that may be deployed may not be with an import more that is not offered, nor without main.
func TestWhatFollows(t *testing.T) {
	modules := []api.Module{least(), whole(), full()}
	for _, x := range written() {
		modules = append(modules, importing("env", x.name, x.t))
	}
	for _, x := range rows() {
		if x.e == ok {
			modules = append(modules, x.of(x.most/2))
		}
	}
	for _, m := range modules {
		check(t, "it may be", m, ok)
		checkMayBe(t, m)
	}
}

func checkSeen(t *testing.T, seen map[api.Errno]int, least int) {
	t.Helper()
	for _, e := range []api.Errno{ok, errArg, errIndex, errType, errConst, errTwice, errLimits, errStart, errSize, errImport, errExport} {
		if seen[e] < least {
			t.Errorf("too few of a kind: %v", seen)
		}
	}
}

// P12.2, P12.3: each part of a module of everything, with each of many other values.
func TestEachPart(t *testing.T) {
	seen := map[api.Errno]int{}
	m := whole()
	parts(reflect.ValueOf(&m).Elem(), func(part reflect.Value) {
		for _, x := range others(part) {
			back := set(part, x)
			seen[checkModel(t, m)]++
			back()
		}
	})
	if !reflect.DeepEqual(m, whole()) {
		t.Fatal("the module is another one now")
	}
	checkSeen(t, seen, 4)
}

// P12.2, P12.3: some parts at once, with other values, whichever they are.
func TestMixed(t *testing.T) {
	var r random = 121
	seen := map[api.Errno]int{}
	for range 6000 {
		m := whole()
		for range 1 + r.next(4) {
			var all []reflect.Value
			parts(reflect.ValueOf(&m).Elem(), func(part reflect.Value) { all = append(all, part) })
			part := all[r.next(len(all))]
			if values := others(part); len(values) > 0 {
				set(part, values[r.next(len(values))])
			}
		}
		seen[checkModel(t, m)]++
	}
	checkSeen(t, seen, 4)
}

// R1: modules of huge lists and numbers are told as others are.
func TestHuge(t *testing.T) {
	const n = 100000
	for _, set := range []func(m *api.Module){
		func(m *api.Module) { m.Types = append(m.Types, make([]api.FuncType, n)...) },
		func(m *api.Module) { m.Types = append(m.Types, fn(slices.Repeat(types(i32), n))) },
		func(m *api.Module) { m.Imports = append(m.Imports, make([]api.Import, n)...) },
		func(m *api.Module) { m.Elems[0].Funcs = make([]uint32, n) },
		func(m *api.Module) { m.Elems = slices.Repeat(m.Elems, n) },
		func(m *api.Module) { m.Datas = slices.Repeat(m.Datas, n) },
		func(m *api.Module) { m.Exports[0].Name = strings.Repeat("a", n) },
		func(m *api.Module) { m.Imports[0].Mod = strings.Repeat("env", n) },
		func(m *api.Module) { m.Globals = slices.Repeat(m.Globals, n) },
		func(m *api.Module) { m.Tables[0] = api.Limits{Min: most, Max: most} },
		func(m *api.Module) { m.Mems[0] = api.Limits{Min: 1 << 16, Max: 1 << 16} },
		func(m *api.Module) { m.Codes[0].Locals = slices.Repeat([]api.Local{{N: most, T: i32}}, n) },
		func(m *api.Module) { m.Codes[3].Body = nested(n, nil, api.OpLoop) },
		func(m *api.Module) { m.Codes[3].Body = times(n, op(api.OpNop)) },
		func(m *api.Module) { m.Codes[3].Body = branch(n, 0) },
		func(m *api.Module) { m.Codes[3].Body = body(times(n, con(1)), times(n, op(api.OpDrop))) },
	} {
		m := whole()
		set(&m)
		e := modelled(m)
		if got := rule.Check(m); got != e || e == ok {
			t.Errorf("%d, want %d: %s", got, e, shown(m))
		}
	}
}
