package valid_test

import (
	"reflect"
	"slices"
	"strconv"
	"testing"

	"gabelle/api"
	"gabelle/valid"
)

// fault is something that is amiss in a module of everything.
type fault struct {
	what string
	at   []int // where it is asked for: the step, and where within it; of two faults at one place only one can be there
	does func(m *api.Module)
	e    api.Errno
}

// faults are all, in the order in which they are asked for.
func faults(base api.Module) []fault {
	var l []fault
	for _, of := range []func(api.Module) []fault{
		shapeFaults, typeFaults, importFaults, limitsFaults, globalFaults, exportFaults, startFaults, elementFaults, codeFaults, dataFaults,
	} {
		l = append(l, of(base)...)
	}
	return l
}

func shapeFaults(base api.Module) []fault {
	var l []fault
	add := func(what string, does func(m *api.Module)) {
		l = append(l, fault{what, []int{1}, does, errArg})
	}
	for n := range base.Codes {
		add(strconv.Itoa(n)+" codes", func(m *api.Module) { m.Codes = m.Codes[:n] })
		add(strconv.Itoa(n)+" functions", func(m *api.Module) { m.Funcs = m.Funcs[:n] })
	}
	add("a code more", func(m *api.Module) { m.Codes = append(m.Codes, api.Code{}) })
	add("a function more", func(m *api.Module) { m.Funcs = append(m.Funcs, 0) })
	for _, kind := range []uint8{4, 5, 128, 255} {
		for i := range base.Imports {
			add("import of kind "+strconv.Itoa(int(kind)), func(m *api.Module) { m.Imports[i].Kind = kind })
		}
		for i := range base.Exports {
			add("export of kind "+strconv.Itoa(int(kind)), func(m *api.Module) { m.Exports[i].Kind = kind })
		}
	}
	return l
}

func typeFaults(base api.Module) []fault {
	var l []fault
	for i := range base.Types {
		for _, x := range []api.FuncType{
			fn(nil, i32, i32),
			fn(nil, i64, i64, i64),
			fn(types(api.F32)),
			fn(types(i32, api.F64, i64)),
			fn(types(i32, 0)),
			fn(nil, api.F32),
			fn(nil, 0xff),
		} {
			l = append(l, fault{"a wrong type", []int{2, i}, func(m *api.Module) { m.Types[i] = x }, errType})
		}
	}
	return l
}

func importFaults(base api.Module) []fault {
	var l []fault
	for i, x := range base.Imports {
		switch x.Kind {
		case api.ExFunc:
			for _, n := range []uint32{uint32(len(base.Types)), most} {
				l = append(l, fault{"an imported function without a type", []int{3, 0, i}, func(m *api.Module) { m.Imports[i].Type = n }, errIndex})
			}
		case api.ExGlobal:
			for _, own := range []uint8{0, api.F32, api.F64, api.BlockNone} {
				l = append(l, fault{"an imported global of a wrong type", []int{3, 0, i}, func(m *api.Module) { m.Imports[i].Glob.T = own }, errType})
			}
		}
	}
	for i := range base.Funcs {
		for _, n := range []uint32{uint32(len(base.Types)), most} {
			l = append(l, fault{"a function without a type", []int{3, 1, i}, func(m *api.Module) { m.Funcs[i] = n }, errIndex})
		}
	}
	return l
}

func limitsFaults(base api.Module) []fault {
	var l []fault
	add := func(what string, does func(m *api.Module)) {
		l = append(l, fault{what, []int{4}, does, errLimits})
	}
	add("a table more", func(m *api.Module) { m.Tables = append(m.Tables, api.Limits{}) })
	add("a memory more", func(m *api.Module) { m.Mems = append(m.Mems, api.Limits{}) })
	add("an imported table more", func(m *api.Module) { m.Imports = append(m.Imports, tableFrom(api.Limits{})) })
	add("an imported memory more", func(m *api.Module) { m.Imports = append(m.Imports, memFrom(api.Limits{})) })
	for _, x := range []api.Limits{{Min: 2, Max: 1}, {Max: most + 1}, {Max: -2}} {
		add("a table's limits", func(m *api.Module) { *limitsOf(m, api.ExTable, m.Tables) = x })
		add("a memory's limits", func(m *api.Module) { *limitsOf(m, api.ExMem, m.Mems) = x })
	}
	for _, x := range []api.Limits{{Min: 65537, Max: -1}, {Max: 65537}} {
		add("a great memory", func(m *api.Module) { *limitsOf(m, api.ExMem, m.Mems) = x })
	}
	return l
}

// limitsOf is where the limits of the only one of a kind stand.
func limitsOf(m *api.Module, kind uint8, own []api.Limits) *api.Limits {
	for i := range m.Imports {
		if m.Imports[i].Kind == kind {
			return &m.Imports[i].Lim
		}
	}
	return &own[0]
}

func globalFaults(base api.Module) []fault {
	var l []fault
	for i, x := range base.Globals {
		for _, own := range []uint8{0, api.F32, api.F64} {
			l = append(l, fault{"a global of a wrong type", []int{5, i, 0}, func(m *api.Module) { m.Globals[i].Type.T = own }, errType})
		}
		l = append(l, inconstant([]int{5, i, 1}, x.Type.T == i64, func(m *api.Module) *[]api.Instr { return &m.Globals[i].Init })...)
	}
	return l
}

// inconstant are all expressions that are not constant, of an i32 or an i64, at a place.
func inconstant(at []int, wide bool, of func(m *api.Module) *[]api.Instr) []fault {
	var l []fault
	for _, x := range expressions() {
		e := x.ofI32
		if wide {
			e = x.ofI64
		}
		if e != ok {
			l = append(l, fault{x.text, at, func(m *api.Module) { *of(m) = slices.Clone(x.list) }, e})
		}
	}
	return l
}

func exportFaults(base api.Module) []fault {
	var l []fault
	for i := range base.Exports {
		for _, n := range []uint32{9, most} {
			l = append(l, fault{"an export of what is not there", []int{6, i, 0}, func(m *api.Module) { m.Exports[i].Index = n }, errIndex})
		}
		for j := range i {
			name := base.Exports[j].Name
			l = append(l, fault{"a name twice", []int{6, i, 1}, func(m *api.Module) { m.Exports[i].Name = name }, errTwice})
		}
	}
	return l
}

func startFaults(api.Module) []fault {
	var l []fault
	for _, n := range []uint32{0, 1, 4, 5, 6, 8, most} {
		l = append(l, fault{"a start of function " + strconv.Itoa(int(n)), []int{7}, func(m *api.Module) { m.Start = n }, errStart})
	}
	return l
}

func elementFaults(base api.Module) []fault {
	var l []fault
	for i, x := range base.Elems {
		for _, n := range []uint32{1, most} {
			l = append(l, fault{"elements of a table that is not there", []int{8, i, 0}, func(m *api.Module) { m.Elems[i].Table = n }, errIndex})
		}
		l = append(l, inconstant([]int{8, i, 1}, false, func(m *api.Module) *[]api.Instr { return &m.Elems[i].Offset })...)
		for j := range x.Funcs {
			for _, n := range []uint32{8, most} {
				l = append(l, fault{"elements of a function that is not there", []int{8, i, 2, j}, func(m *api.Module) { m.Elems[i].Funcs[j] = n }, errIndex})
			}
		}
	}
	return l
}

func codeFaults(base api.Module) []fault {
	var l []fault
	for i := range base.Codes {
		for _, x := range illTyped() {
			l = append(l, fault{x.text, []int{9, i}, func(m *api.Module) { m.Codes[i].Body = written(x.text) }, x.e})
		}
	}
	return l
}

func dataFaults(base api.Module) []fault {
	var l []fault
	for i := range base.Datas {
		for _, n := range []uint32{1, most} {
			l = append(l, fault{"data of a memory that is not there", []int{10, i, 0}, func(m *api.Module) { m.Datas[i].Mem = n }, errIndex})
		}
		l = append(l, inconstant([]int{10, i, 1}, false, func(m *api.Module) *[]api.Instr { return &m.Datas[i].Offset })...)
	}
	return l
}

// P11.1: everything that may be amiss, alone, at each place where it may be.
func TestFaults(t *testing.T) {
	for _, base := range []func() api.Module{whole, elsewhere} {
		for _, x := range faults(base()) {
			m := base()
			x.does(&m)
			check(t, x.what, m, nil, x.e)
		}
	}
}

// P11.1: of any two that are amiss, what is asked for first is told, whichever the steps are.
func TestFirstFault(t *testing.T) {
	for _, base := range []func() api.Module{whole, elsewhere} {
		all := few(faults(base()))
		for i, x := range all {
			for _, y := range all[i+1:] {
				if slices.Compare(x.at, y.at) >= 0 {
					continue
				}
				m := base()
				y.does(&m)
				x.does(&m)
				if l, e := valid.Check(m); len(l) != 0 || e != x.e {
					t.Fatalf("%v %s, %v %s: %v, %d, want %d: %s", x.at, x.what, y.at, y.what, l, e, x.e, shown(m))
				}
			}
		}
	}
}

// few leaves three faults, at most, of each error at each place.
func few(all []fault) []fault {
	var l []fault
	for _, x := range all {
		same := 0
		for _, y := range l {
			if y.e == x.e && slices.Equal(y.at, x.at) {
				same++
			}
		}
		if same < 3 {
			l = append(l, x)
		}
	}
	return l
}

// P11.1: everything that is amiss at once: what is left, when it is mended from the first place on, is told place by place.
func TestMendedOneByOne(t *testing.T) {
	for _, base := range []func() api.Module{whole, elsewhere} {
		all := faults(base())
		for n := range 6 {
			var chosen []fault
			for i, x := range all {
				if (i+n)%3 == 0 && (len(chosen) == 0 || slices.Compare(chosen[len(chosen)-1].at, x.at) < 0) {
					chosen = append(chosen, x)
				}
			}
			for len(chosen) > 0 {
				m := base()
				for _, x := range slices.Backward(chosen) {
					x.does(&m)
				}
				check(t, chosen[0].what, m, nil, chosen[0].e)
				chosen = chosen[1:]
			}
		}
	}
}

// withRoom is a module with the room behind its lists, and behind those in them.
func withRoom(v reflect.Value) reflect.Value {
	out := reflect.New(v.Type()).Elem()
	switch v.Kind() {
	case reflect.Slice:
		if v.IsNil() {
			return out
		}
		out = reflect.MakeSlice(v.Type(), v.Cap(), v.Cap())
		for i := range v.Cap() {
			out.Index(i).Set(withRoom(v.Slice(0, v.Cap()).Index(i)))
		}
	case reflect.Struct:
		for i := range v.NumField() {
			out.Field(i).Set(withRoom(v.Field(i)))
		}
	default:
		out.Set(v)
	}
	return out
}

// P11.1, R3, R5: what is handed in stays as it is, with its lists' room; asked again it is the same, whatever was done to what was told, and asked meanwhile.
func TestHandedIn(t *testing.T) {
	try := func(what string, m api.Module) {
		t.Helper()
		m = copyOf(m)
		was := withRoom(reflect.ValueOf(m)).Interface()
		first, e := valid.Check(m)
		second, f := valid.Check(copyOf(m))
		if e != f || !slices.Equal(first, second) {
			t.Fatalf("%s: %v, %d, and then %v, %d", what, first, e, second, f)
		}
		for i := range first {
			first[i] = -1
		}
		_ = append(first, 1, 2, 3)
		valid.Check(whole())
		third, g := valid.Check(m)
		if e != g || !slices.Equal(second, third) {
			t.Fatalf("%s: %v, %d, and then %v, %d", what, second, e, third, g)
		}
		if !reflect.DeepEqual(was, withRoom(reflect.ValueOf(m)).Interface()) {
			t.Fatalf("%s: what was handed in is changed", what)
		}
	}
	try("nothing", api.Module{})
	for _, base := range []func() api.Module{whole, elsewhere} {
		try("whole", base())
		for _, x := range faults(base()) {
			m := base()
			x.does(&m)
			try(x.what, m)
		}
	}
}

// P11.1: what is told hangs on no room behind a list.
func TestBehindLists(t *testing.T) {
	for _, x := range faults(whole()) {
		m := whole()
		x.does(&m)
		was := whole()
		v, from := reflect.ValueOf(&was).Elem(), reflect.ValueOf(m)
		for i := range v.NumField() {
			if f := v.Field(i); f.Kind() == reflect.Slice {
				f.Set(reflect.AppendSlice(f, from.Field(i)).Slice(0, f.Len()))
			}
		}
		check(t, "behind it: "+x.what, was, wholeHeights(), ok)
	}
}
