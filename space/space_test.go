package space_test

import (
	"fmt"
	"reflect"
	"runtime"
	"slices"
	"testing"

	"gabelle/api"
	"gabelle/space"
)

func shown(m api.Module) string {
	s := fmt.Sprintf("%+v", m)
	return s[:min(len(s), 600)]
}

func checkType(t *testing.T, what string, got api.FuncType, is bool, want api.FuncType, wanted bool) {
	t.Helper()
	if !same(got, want) || is != wanted {
		t.Fatalf("%s = %v, %v, want %v, %v", what, got, is, want, wanted)
	}
}

// check holds all that a space tells against the model.
func check(t *testing.T, s *space.Space, m api.Module) {
	t.Helper()
	x := model{m}
	for kind := range 256 {
		k := uint8(kind)
		if s.Count(k) != x.Count(k) || s.Imported(k) != x.Imported(k) {
			t.Fatalf("of kind %d %d, %d, want %d, %d: %s", k, s.Count(k), s.Imported(k), x.Count(k), x.Imported(k), shown(m))
		}
	}
	most := max(len(m.Types), x.Count(0), x.Count(1), x.Count(2), x.Count(3))
	numbers := beyond(most)
	for i := range most {
		numbers = append(numbers, uint32(i))
	}
	for _, i := range numbers {
		checkNumber(t, s, x, i)
	}
	for _, name := range names(m) {
		for _, k := range []uint8{0, 1, 2, 3, 4, 5, 9, 254, 255} {
			n, is := s.Export(name, k)
			if want, wanted := x.Export(name, k); n != want || is != wanted {
				t.Fatalf("Export(%q, %d) = %d, %v, want %d, %v: %s", name, k, n, is, want, wanted, shown(m))
			}
		}
	}
}

func checkNumber(t *testing.T, s *space.Space, x model, i uint32) {
	t.Helper()
	got, is := s.Type(i)
	want, wanted := x.Type(i)
	checkType(t, fmt.Sprintf("Type(%d)", i), got, is, want, wanted)
	got, is = s.Func(i)
	want, wanted = x.Func(i)
	checkType(t, fmt.Sprintf("Func(%d)", i), got, is, want, wanted)
	l, is := s.Table(i)
	if want, wanted := x.Table(i); l != want || is != wanted {
		t.Fatalf("Table(%d) = %v, %v, want %v, %v", i, l, is, want, wanted)
	}
	l, is = s.Mem(i)
	if want, wanted := x.Mem(i); l != want || is != wanted {
		t.Fatalf("Mem(%d) = %v, %v, want %v, %v", i, l, is, want, wanted)
	}
	g, is := s.Global(i)
	if want, wanted := x.Global(i); g != want || is != wanted {
		t.Fatalf("Global(%d) = %v, %v, want %v, %v", i, g, is, want, wanted)
	}
}

func names(m api.Module) []string {
	l := []string{"", "main", "x", "Main", "main ", "\x00", "é"}
	for _, x := range m.Exports {
		l = append(l, x.Name)
	}
	for _, x := range m.Imports {
		l = append(l, x.Name)
	}
	return l
}

func TestExamples(t *testing.T) {
	s := space.Of(example())
	if n, k := s.Count(api.ExFunc), s.Imported(api.ExFunc); n != 4 || k != 2 {
		t.Errorf("%d functions, %d imported", n, k)
	}
	takes := api.FuncType{Params: []uint8{api.I32}}
	for i, want := range []api.FuncType{takes, {}, takes, {}, {}} {
		got, is := s.Func(uint32(i))
		checkType(t, fmt.Sprintf("Func(%d)", i), got, is, want, i < 3)
	}
	if l, is := s.Mem(0); l != (api.Limits{Min: 1, Max: -1}) || !is {
		t.Error(l, is)
	}
	if l, is := s.Mem(1); l != (api.Limits{}) || is {
		t.Error(l, is)
	}
	if g, is := s.Global(0); g != (api.GlobalType{}) || is {
		t.Error(g, is)
	}
	check(t, s, example())
}

// between puts imports of other kinds ahead of each of those that are there, and behind the last: of each other kind, and of one that counts for none.
func between(m api.Module, kind uint8) api.Module {
	var others []api.Import
	for _, k := range []uint8{0, 1, 2, 3, 4, 255} {
		if k != kind {
			others = append(others, api.Import{Kind: k, Type: 98, Lim: api.Limits{Min: 98, Max: 98}, Glob: api.GlobalType{T: 98}})
		}
	}
	all := slices.Clone(others)
	for _, x := range m.Imports {
		all = append(append(all, x), others...)
	}
	m.Imports = all
	return m
}

// checkMarks holds every number of a kind against the marks in the order in which they were given, and those behind them.
func checkMarks(t *testing.T, m api.Module, kind uint8, imported, own int) {
	t.Helper()
	s := space.Of(m)
	if s.Count(kind) != imported+own || s.Imported(kind) != imported {
		t.Fatalf("of kind %d: %d, %d, want %d, %d", kind, s.Count(kind), s.Imported(kind), imported+own, imported)
	}
	for i := range imported + own {
		if mark, there, _ := markOf(s, kind, uint32(i)); mark != uint64(i+1) || !there {
			t.Fatalf("of kind %d: %d is %d, %v", kind, i, mark, there)
		}
	}
	for _, i := range beyond(imported + own) {
		if mark, there, zero := markOf(s, kind, i); there || !zero {
			t.Fatalf("of kind %d: %d is %d, %v", kind, i, mark, there)
		}
	}
}

// P8.1, P8.2, P8.4: each kind, with none, one and several imported and own ones, among imports of the other kinds or alone: all numbers up to the count, and behind it.
func TestNumbers(t *testing.T) {
	for kind := range uint8(4) {
		for _, imported := range []int{0, 1, 2, 5} {
			for _, own := range []int{0, 1, 2, 5} {
				var m api.Module
				for i := range imported + own {
					marked(&m, kind, i < imported, uint32(i+1))
				}
				checkMarks(t, m, kind, imported, own)
				checkMarks(t, between(m, kind), kind, imported, own)
				check(t, space.Of(m), m)
				check(t, space.Of(between(m, kind)), between(m, kind))
			}
		}
	}
}

// P8.1, P8.2: an import of another kind than the four counts for none of them, wherever it stands.
func TestOtherImports(t *testing.T) {
	var plain api.Module
	for kind := range uint8(4) {
		marked(&plain, kind, true, 1)
		marked(&plain, kind, false, 2)
	}
	for other := 4; other < 256; other++ {
		for place := range len(plain.Imports) + 1 {
			m := plain
			x := api.Import{Kind: uint8(other), Type: 77, Lim: api.Limits{Min: 77, Max: 77}, Glob: api.GlobalType{T: 77}}
			m.Imports = slices.Insert(slices.Clone(m.Imports), place, x)
			for kind := range uint8(4) {
				checkMarks(t, m, kind, 1, 1)
			}
			if s := space.Of(m); s.Count(uint8(other)) != 0 || s.Imported(uint8(other)) != 0 {
				t.Fatalf("%d of kind %d", s.Count(uint8(other)), other)
			}
		}
	}
	m := api.Module{Imports: []api.Import{{Kind: 4}, {Kind: 9}, {Kind: 255}}}
	check(t, space.Of(m), m)
}

// P8.1: Type tells the types by their numbers, imports or not.
func TestType(t *testing.T) {
	i32, i64 := uint8(api.I32), uint8(api.I64)
	types := []api.FuncType{{}, {Params: []uint8{i32, i64}, Results: []uint8{i64}}, {Results: []uint8{i32}}, {Params: []uint8{1, 2, 3}, Results: []uint8{4, 5}}}
	for n := range len(types) + 1 {
		m := api.Module{Types: types[:n], Imports: []api.Import{{Type: 1}}, Funcs: []uint32{0, 1}}
		s := space.Of(m)
		for i, want := range types[:n] {
			got, is := s.Type(uint32(i))
			checkType(t, fmt.Sprintf("Type(%d)", i), got, is, want, true)
		}
		for _, i := range beyond(n) {
			got, is := s.Type(i)
			checkType(t, fmt.Sprintf("Type(%d)", i), got, is, api.FuncType{}, false)
		}
	}
}

// P8.1: a function's type is that which its import, or its own entry, names: the last one, the one behind it, and numbers far from there; it counts, whether it has one or not.
func TestFuncType(t *testing.T) {
	last := api.FuncType{Params: []uint8{api.I64}, Results: []uint8{api.I32}}
	for _, types := range [][]api.FuncType{nil, {}, {last}, {{}, last}, {{}, {Params: []uint8{api.I32}}, {Params: []uint8{api.I64}}, last}} {
		n := uint32(len(types))
		for _, number := range []uint32{n, n + 1, 1 << 31, 1<<32 - 1, n - 1} {
			has := number == n-1 && n > 0
			want := api.FuncType{}
			if has {
				want = last
			}
			for _, m := range []api.Module{
				{Types: types, Imports: []api.Import{{Type: number}}},
				{Types: types, Funcs: []uint32{number}},
			} {
				s := space.Of(m)
				got, is := s.Func(0)
				checkType(t, fmt.Sprintf("Func(0) of type %d of %d", number, n), got, is, want, has)
				if s.Count(api.ExFunc) != 1 || s.Imported(api.ExFunc) != len(m.Imports) {
					t.Errorf("%d functions, %d imported", s.Count(api.ExFunc), s.Imported(api.ExFunc))
				}
			}
			m := api.Module{Types: types, Imports: []api.Import{{Type: number}, {Type: 0}}, Funcs: []uint32{number, 0}}
			check(t, space.Of(m), m)
		}
	}
}

// P8.1: whatever a type, limits or a global have is told as it stands, be it valid or not.
func TestToldAsItStands(t *testing.T) {
	for _, l := range []api.Limits{{}, {Max: -1}, {Min: 5, Max: 4}, {Min: 1<<32 - 1, Max: 1<<63 - 1}, {Min: 1, Max: -1 << 63}} {
		m := api.Module{Imports: []api.Import{{Kind: api.ExTable, Lim: l}, {Kind: api.ExMem, Lim: l}}, Tables: []api.Limits{l}, Mems: []api.Limits{l}}
		s := space.Of(m)
		for i := range uint32(2) {
			if got, is := s.Table(i); got != l || !is {
				t.Error(got, is)
			}
			if got, is := s.Mem(i); got != l || !is {
				t.Error(got, is)
			}
		}
	}
	for b := range 512 {
		g := api.GlobalType{T: uint8(b), Mut: b > 255}
		m := api.Module{Imports: []api.Import{{Kind: api.ExGlobal, Glob: g}}, Globals: []api.Global{{Type: g}}}
		s := space.Of(m)
		for i := range uint32(2) {
			if got, is := s.Global(i); got != g || !is {
				t.Error(got, is)
			}
		}
	}
}

// P8.2: how many there are of each kind, and of kinds that there are not; exports, start, elements, codes and data count for none.
func TestCount(t *testing.T) {
	var m api.Module
	for kind := range uint8(4) {
		for i := range int(kind) + 2 {
			marked(&m, kind, true, uint32(i))
		}
		for i := range 10 * (int(kind) + 1) {
			marked(&m, kind, false, uint32(i))
		}
	}
	m.Exports, m.Elems, m.Codes, m.Datas = make([]api.Export, 50), make([]api.Elem, 60), make([]api.Code, 70), make([]api.Data, 80)
	m.HasStart, m.Start = true, 90
	s := space.Of(m)
	for k := range 256 {
		all, imported := 0, 0
		if k < 4 {
			all, imported = k+2+10*(k+1), k+2
		}
		if n, i := s.Count(uint8(k)), s.Imported(uint8(k)); n != all || i != imported {
			t.Errorf("of kind %d: %d, %d, want %d, %d", k, n, i, all, imported)
		}
	}
	check(t, s, m)
}

// P8.2: Export tells the first one of that name and kind.
func TestExport(t *testing.T) {
	s := space.Of(api.Module{
		Imports: []api.Import{{Mod: "m", Name: "imported", Kind: api.ExFunc}},
		Funcs:   []uint32{0},
		Exports: []api.Export{
			{Name: "main", Kind: api.ExFunc, Index: 3},
			{Name: "mem", Kind: api.ExMem, Index: 4},
			{Name: "main", Kind: api.ExGlobal, Index: 5},
			{Name: "main", Kind: api.ExFunc, Index: 6},
			{Name: "mem", Kind: api.ExMem, Index: 0},
			{Name: "", Kind: api.ExTable, Index: 7},
			{Name: "odd", Kind: 9, Index: 8},
			{Name: "far", Kind: api.ExFunc, Index: 1<<32 - 1},
			{Name: "first", Kind: api.ExGlobal, Index: 0},
			{Name: "first", Kind: api.ExGlobal, Index: 1},
			{Name: "\xff", Kind: api.ExFunc, Index: 11},
		},
	})
	for _, c := range []struct {
		name  string
		kind  uint8
		index uint32
		there bool
	}{
		{"main", api.ExFunc, 3, true},
		{"main", api.ExGlobal, 5, true},
		{"main", api.ExMem, 0, false},
		{"main", api.ExTable, 0, false},
		{"main", 4, 0, false},
		{"main", 255, 0, false},
		{"mem", api.ExMem, 4, true},
		{"mem", api.ExFunc, 0, false},
		{"", api.ExTable, 7, true},
		{"", api.ExFunc, 0, false},
		{"odd", 9, 8, true},
		{"odd", 8, 0, false},
		{"odd", api.ExFunc, 0, false},
		{"far", api.ExFunc, 1<<32 - 1, true},
		{"first", api.ExGlobal, 0, true},
		{"\xff", api.ExFunc, 11, true},
		{"�", api.ExFunc, 0, false},
		{"mai", api.ExFunc, 0, false},
		{"mainn", api.ExFunc, 0, false},
		{"Main", api.ExFunc, 0, false},
		{"imported", api.ExFunc, 0, false},
		{"other", api.ExFunc, 0, false},
	} {
		if n, is := s.Export(c.name, c.kind); n != c.index || is != c.there {
			t.Errorf("Export(%q, %d) = %d, %v, want %d, %v", c.name, c.kind, n, is, c.index, c.there)
		}
	}
	if n, is := space.Of(api.Module{}).Export("", 0); n != 0 || is {
		t.Error(n, is)
	}
}

// P8.3: Same holds what is taken and what is given one behind the other.
func TestSame(t *testing.T) {
	lists := [][]uint8{nil, {}, {api.I32}, {api.I64}, {0}, {api.I32, api.I32}, {api.I32, api.I64}, {api.I64, api.I32}, {api.I32, api.I64, api.I32}, {api.I32, api.I64, api.I64}}
	var types []api.FuncType
	for _, takes := range lists {
		for _, gives := range lists {
			types = append(types, api.FuncType{Params: takes, Results: gives})
		}
	}
	for _, a := range types {
		for _, b := range types {
			want := string(a.Params) == string(b.Params) && string(a.Results) == string(b.Results)
			if space.Same(a, b) != want {
				t.Errorf("Same(%v, %v) = %v", a, b, !want)
			}
		}
	}
	l := []uint8{api.I32, api.I64}
	for _, c := range []struct {
		a, b api.FuncType
		want bool
	}{
		{api.FuncType{}, api.FuncType{}, true},
		{api.FuncType{Params: l, Results: l[:1]}, api.FuncType{Params: slices.Clone(l), Results: []uint8{api.I32}}, true},
		{api.FuncType{Params: l}, api.FuncType{Results: l}, false},
		{api.FuncType{Params: l}, api.FuncType{}, false},
		{api.FuncType{}, api.FuncType{Results: l}, false},
		{api.FuncType{Params: l[:1], Results: l[1:]}, api.FuncType{Params: l}, false},
		{api.FuncType{Params: l[:1]}, api.FuncType{Params: l[1:]}, false},
	} {
		if space.Same(c.a, c.b) != c.want || space.Same(c.b, c.a) != c.want {
			t.Errorf("Same(%v, %v) = %v", c.a, c.b, !c.want)
		}
	}
}

// P8.3: one entry among many makes the difference.
func TestSameLong(t *testing.T) {
	long := func() api.FuncType {
		return api.FuncType{Params: slices.Repeat([]uint8{api.I32}, 300), Results: slices.Repeat([]uint8{api.I64}, 300)}
	}
	if !space.Same(long(), long()) {
		t.Error("not the same")
	}
	for i := range 300 {
		a, b := long(), long()
		a.Params[i] = api.I64
		b.Results[i] = api.I32
		if space.Same(a, long()) || space.Same(b, long()) || space.Same(a, b) {
			t.Errorf("entry %d makes no difference", i)
		}
		a, b = long(), long()
		a.Params, b.Results = a.Params[:i], b.Results[:i]
		if space.Same(a, long()) || space.Same(b, long()) {
			t.Errorf("length %d makes no difference", i)
		}
	}
}

// R4: of a Space that is nil there is nothing; of an empty module no more.
func TestNothing(t *testing.T) {
	empty := api.Module{Types: []api.FuncType{}, Imports: []api.Import{}, Funcs: []uint32{}, Tables: []api.Limits{}, Mems: []api.Limits{}, Globals: []api.Global{}, Exports: []api.Export{}}
	for _, s := range []*space.Space{nil, space.Of(api.Module{}), space.Of(empty)} {
		check(t, s, api.Module{})
	}
	if space.Of(api.Module{}) == nil {
		t.Error("Of an empty module is no space")
	}
}

// rich has several of all kinds, imported and own, and all else that a module may have.
func rich() api.Module {
	m := api.Module{Imports: []api.Import{{Mod: "a", Name: "b", Kind: 7}}}
	for i := range uint32(3) {
		for kind := range uint8(4) {
			marked(&m, kind, true, i+1)
			marked(&m, kind, false, i+4)
			m.Exports = append(m.Exports, api.Export{Name: fmt.Sprint("e", i/2), Kind: kind, Index: 10*i + uint32(kind) + 1})
		}
	}
	for i := range m.Types {
		m.Types[i].Results = []uint8{api.I32, api.I64}
	}
	m.Funcs = append(m.Funcs, 50)
	m.HasStart, m.Start = true, 2
	m.Elems = []api.Elem{{Offset: []api.Instr{{Op: api.OpI32Const}}, Funcs: []uint32{1, 2}}}
	m.Codes = make([]api.Code, len(m.Funcs))
	m.Datas = []api.Data{{B: []byte{1}}}
	return m
}

// P8.1, P8.4: what the caller does with the module behind Of makes no difference.
func TestModuleChanged(t *testing.T) {
	for _, m := range []api.Module{rich(), example(), between(example(), api.ExFunc)} {
		handed := copyOf(m)
		s := space.Of(handed)
		check(t, s, m)
		scribble(reflect.ValueOf(&handed).Elem())
		check(t, s, m)
		check(t, space.Of(handed), handed)
	}
}

// P8.1: what is told of types is the caller's: changing it, or what lies behind it, changes nothing that is told behind it.
func TestToldChanged(t *testing.T) {
	m := rich()
	handed := copyOf(m)
	s := space.Of(handed)
	for i := range uint32(10) {
		for _, ask := range []func(uint32) (api.FuncType, bool){s.Type, s.Func} {
			f, _ := ask(i)
			scribble(reflect.ValueOf(&f).Elem())
			_ = append(f.Params, 1, 2, 3)
			_ = append(f.Results, 1, 2, 3)
		}
	}
	check(t, s, m)
	if !reflect.DeepEqual(handed, m) {
		t.Error("the module is changed")
	}
}

// P8.1, R3: spaces, and what they tell, lie in memory of their own, with all its room.
func TestOwnMemory(t *testing.T) {
	b := []uint8{api.I32, api.I64, api.I32}
	m := rich()
	m.Types = append(m.Types, api.FuncType{Params: b, Results: b}, api.FuncType{Params: b, Results: b})
	n := uint32(len(m.Types))
	m.Funcs = append(m.Funcs, n-1, n-2)
	s, u := space.Of(m), space.Of(m)
	var told []api.FuncType
	for _, ask := range []func(uint32) (api.FuncType, bool){s.Type, s.Func, s.Type, s.Func, u.Type, u.Func} {
		for i := range uint32(20) {
			f, _ := ask(i)
			told = append(told, f)
		}
	}
	var all [][2]uintptr
	add := func(from, to uintptr) { all = append(all, [2]uintptr{from, to}) }
	spans(reflect.ValueOf(b), add)
	spans(reflect.ValueOf(m.Types[:n-2]), add)
	for _, f := range told {
		spans(reflect.ValueOf(f), add)
	}
	slices.SortFunc(all, func(x, y [2]uintptr) int { return int(x[0]) - int(y[0]) })
	for i := 1; i < len(all); i++ {
		if all[i][0] < all[i-1][1] {
			t.Errorf("lists share memory: %x", all[i-1:i+1])
		}
	}
	if len(all) < 100 {
		t.Errorf("only %d lists", len(all))
	}
	runtime.KeepAlive(m)
	runtime.KeepAlive(told)
	runtime.KeepAlive(b)
}

// R3: what is handed in is not changed, nor the room behind it.
func TestHandedIn(t *testing.T) {
	for _, m := range []api.Module{rich(), example(), {}, {Imports: []api.Import{{Kind: api.ExTable}, {Kind: api.ExMem}, {Kind: api.ExGlobal}, {}}, Tables: make([]api.Limits, 0, 4), Mems: make([]api.Limits, 1, 4), Globals: make([]api.Global, 0, 4), Funcs: make([]uint32, 1, 4)}} {
		handed := copyOf(m)
		was := wholeOf(handed)
		s := space.Of(handed)
		check(t, s, m)
		for i := range handed.Types {
			for j := range handed.Types {
				space.Same(handed.Types[i], handed.Types[j])
			}
		}
		if now := wholeOf(handed); !reflect.DeepEqual(now, was) {
			t.Errorf("now %s, want %s", shown(now), shown(was))
		}
	}
}

// R5: spaces do not hang on one another, nor on what was asked before.
func TestApart(t *testing.T) {
	m, n := rich(), example()
	s := space.Of(m)
	u := space.Of(n)
	for range 2 {
		check(t, s, m)
		check(t, u, n)
	}
}

func mixed(r *random) api.Module {
	var m api.Module
	some := func() []uint8 {
		l := make([]uint8, r.next(4))
		for i := range l {
			l[i] = uint8(0x7c + r.next(4))
		}
		return l
	}
	lim := func() api.Limits { return api.Limits{Min: uint32(r.next(9)), Max: int64(r.next(9)) - 1} }
	glob := func() api.GlobalType { return api.GlobalType{T: uint8(r.next(256)), Mut: r.next(2) == 0} }
	for range r.next(6) {
		m.Types = append(m.Types, api.FuncType{Params: some(), Results: some()})
	}
	for range r.next(12) {
		kind := uint8(r.next(4))
		if r.next(8) == 0 {
			kind = uint8(r.next(256))
		}
		m.Imports = append(m.Imports, api.Import{Name: fmt.Sprint(r.next(3)), Kind: kind, Type: uint32(r.next(8)), Lim: lim(), Glob: glob()})
	}
	for range r.next(5) {
		m.Funcs = append(m.Funcs, uint32(r.next(8)))
	}
	for range r.next(4) {
		m.Tables = append(m.Tables, lim())
	}
	for range r.next(4) {
		m.Mems = append(m.Mems, lim())
	}
	for range r.next(4) {
		m.Globals = append(m.Globals, api.Global{Type: glob()})
	}
	for range r.next(8) {
		m.Exports = append(m.Exports, api.Export{Name: fmt.Sprint(r.next(3)), Kind: uint8(r.next(6)), Index: uint32(r.next(100))})
	}
	return m
}

// P8.1, P8.2, P8.4: modules of all kinds, against the model.
func TestMixed(t *testing.T) {
	r := random(8)
	for range 3000 {
		m := mixed(&r)
		check(t, space.Of(m), m)
	}
}

// R1: lists far beyond a module's.
func TestHuge(t *testing.T) {
	const n = 1 << 18
	m := api.Module{Types: make([]api.FuncType, n), Imports: make([]api.Import, 4*n), Funcs: make([]uint32, n), Globals: make([]api.Global, n)}
	for i := range m.Imports {
		m.Imports[i].Kind = uint8(i % 4)
	}
	m.Types[n-1].Params = make([]uint8, n)
	m.Funcs[n-1] = n - 1
	s := space.Of(m)
	for kind, want := range []int{2 * n, n, n, 2 * n, 0} {
		if got := s.Count(uint8(kind)); got != want {
			t.Errorf("%d of kind %d", got, kind)
		}
	}
	if f, is := s.Func(2*n - 1); len(f.Params) != n || !is {
		t.Error(len(f.Params), is)
	}
	if _, is := s.Func(2 * n); is {
		t.Error("one behind the last")
	}
	if _, is := s.Export("x", 0); is {
		t.Error("an export")
	}
}
