package rule_test

import (
	"slices"
	"strconv"
	"strings"
	"testing"

	"gabelle/api"
)

func TestExamples(t *testing.T) {
	that := func(x api.Import) api.Module {
		m := least()
		m.Types = append(m.Types, fn(types(i64)), fn(types(i32)))
		return imported(m, x)
	}
	memory := func(pages uint32) api.Module {
		m := least()
		m.Mems = []api.Limits{{Min: pages, Max: -1}}
		return m
	}
	check(t, "nothing", api.Module{}, errExport)
	check(t, "a function, exported as main", least(), ok)
	check(t, "env caller, of a type that takes i64", that(env("caller", 1)), errImport)
	check(t, "env caller, of a type that takes i32", that(env("caller", 2)), ok)
	check(t, "env sender", that(env("sender", 2)), errImport)
	check(t, "env sender, of no values", that(env("sender", 0)), errImport)
	check(t, "a memory from elsewhere", that(api.Import{Mod: "env", Name: "memory", Kind: api.ExMem, Lim: api.Limits{Min: 1, Max: -1}}), errImport)
	check(t, "a memory of 17 pages", memory(17), errSize)
	check(t, "a memory of 16 pages", memory(16), ok)
}

// P12.2: a module that has some of all.
func TestWhole(t *testing.T) {
	check(t, "whole", whole(), ok)
}

// importing has one import, of that type, which is the only one but that of main.
func importing(mod, name string, typ api.FuncType) api.Module {
	m := least()
	m.Types = append(m.Types, typ)
	return imported(m, api.Import{Mod: mod, Name: name, Kind: api.ExFunc, Type: 1})
}

// P12.2: each of what is offered, with its own type: alone, twice, all together, in another order, with its type among others.
func TestOffered(t *testing.T) {
	table := written()
	all, turned := least(), least()
	for i, x := range table {
		check(t, x.name, importing("env", x.name, x.t), ok)
		check(t, x.name+" twice", imported(importing("env", x.name, x.t), env(x.name, 1)), ok)

		m := importing("env", x.name, x.t)
		m.Types = append(m.Types, fn(types(i64, i64)), x.t)
		m.Imports[0].Type = 3
		check(t, x.name+" of the same type, which is there twice", m, ok)
		m.Imports[0].Type = 2
		check(t, x.name+" of another type", m, errImport)

		all.Types = append(all.Types, x.t)
		all = imported(all, env(x.name, uint32(i+1)))
		check(t, "all up to "+x.name, all, ok)
		last := table[len(table)-1-i]
		turned.Types = append(turned.Types, last.t)
		turned = imported(turned, env(last.name, uint32(i+1)))
		check(t, "all from "+last.name+" on", turned, ok)
	}
}

// P12.2: each of what is offered with the type of each other one, and with types that are like its own.
func TestOtherTypes(t *testing.T) {
	asked := func(x offered, typ api.FuncType) {
		t.Helper()
		e := errImport
		if slices.Equal(typ.Params, x.t.Params) && slices.Equal(typ.Results, x.t.Results) {
			e = ok
		}
		check(t, x.name, importing("env", x.name, typ), e)
	}
	for _, x := range written() {
		for _, other := range written() {
			asked(x, other.t)
			asked(x, fn(other.t.Params, x.t.Results...))
			asked(x, fn(x.t.Params, other.t.Results...))
		}
		for _, results := range [][]uint8{nil, types(i32), types(i64)} {
			asked(x, fn(x.t.Params, results...))
			asked(x, fn(nil, results...))
		}
		for at := range len(x.t.Params) + 1 {
			for _, own := range types(i32, i64) {
				asked(x, fn(slices.Insert(slices.Clone(x.t.Params), at, own), x.t.Results...))
				if at < len(x.t.Params) {
					swapped := slices.Clone(x.t.Params)
					swapped[at] = own
					asked(x, fn(swapped, x.t.Results...))
					asked(x, fn(slices.Delete(slices.Clone(x.t.Params), at, at+1), x.t.Results...))
				}
			}
		}
		backwards := slices.Clone(x.t.Params)
		slices.Reverse(backwards)
		asked(x, fn(backwards, x.t.Results...))
		asked(x, fn(slices.Concat(x.t.Params, x.t.Results)))
		asked(x, fn(x.t.Results, types(i32)...))
	}
}

// P12.2: an import of another module, and of a name that is not offered.
func TestOtherNames(t *testing.T) {
	for _, x := range written() {
		for _, mod := range []string{"", "Env", "ENV", "en", "envv", " env", "env ", "e", "meter", "env\x00", "nv", x.name, "wasi", "\xff"} {
			check(t, mod+" "+x.name, importing(mod, x.name, x.t), errImport)
		}
		for _, name := range []string{"", strings.ToUpper(x.name), x.name + " ", " " + x.name, x.name + "s", x.name[1:], x.name[:len(x.name)-1], "env", "charge", "main", x.name + "\x00"} {
			check(t, name, importing("env", name, x.t), errImport)
		}
	}
	check(t, "the charge", importing("meter", "charge", fn(types(i64))), errImport)
	check(t, "the charge of env", importing("env", "charge", fn(types(i64))), errImport)
	check(t, "a function of no values", importing("env", "nothing", fn(nil)), errImport)
}

// P12.2: an import that is no function, whatever its name, and whatever else it has.
func TestOtherKinds(t *testing.T) {
	for i, x := range written() {
		for _, kind := range []uint8{api.ExTable, api.ExMem, api.ExGlobal} {
			v := api.Import{Mod: "env", Name: x.name, Kind: kind, Type: uint32(i), Glob: api.GlobalType{T: i64}, Lim: api.Limits{Min: 5, Max: 6}}
			check(t, "no function as "+x.name, imported(whole(), v), errImport)
			v.Type = most
			check(t, "no function as "+x.name, imported(whole(), v), errImport)
			v.Type = 1
			m := least()
			m.Types = append(m.Types, x.t)
			check(t, "no function as "+x.name, imported(m, v), errImport)
		}
	}
	for _, g := range []api.GlobalType{{T: i32}, {T: i64, Mut: true}} {
		check(t, "a global", imported(least(), api.Import{Mod: "env", Name: "g", Kind: api.ExGlobal, Glob: g}), errImport)
	}
}

// P12.2: one wrong import among those that may be, at each place.
func TestOneWrongImport(t *testing.T) {
	for at := range whole().Imports {
		for _, does := range []func(x *api.Import){
			func(x *api.Import) { x.Mod = "Env" },
			func(x *api.Import) { x.Mod = "" },
			func(x *api.Import) { x.Name += "_" },
			func(x *api.Import) { x.Name = "" },
			func(x *api.Import) { x.Type = 17 },
		} {
			m := whole()
			does(&m.Imports[at])
			e := errImport
			if x := m.Imports[at]; at == 2 && x.Type == 17 {
				e = errType // what is called then is another one
			}
			check(t, "import "+strconv.Itoa(at), m, e)
		}
		m := least()
		for i, x := range written() {
			m.Types = append(m.Types, x.t)
			v := env(x.name, uint32(i+1))
			if i == at {
				v = api.Import{Mod: "env", Name: x.name, Kind: api.ExGlobal, Type: uint32(i + 1), Glob: api.GlobalType{T: i32}}
			}
			m = imported(m, v)
		}
		check(t, "a global at "+strconv.Itoa(at), m, errImport)
	}
}

// exported is least with functions of other types behind its one (0): 1 takes, 2 gives, 3 does both, 4 is as 0; and with a table, a memory and a global.
func exported(l ...api.Export) api.Module {
	return api.Module{
		Types:   []api.FuncType{{}, fn(types(i32)), fn(nil, i64), fn(types(i64), i64), fn(types())},
		Funcs:   []uint32{0, 1, 2, 3, 4},
		Tables:  []api.Limits{{Max: -1}},
		Mems:    []api.Limits{{Max: -1}},
		Globals: []api.Global{{Type: api.GlobalType{T: i32}, Init: con(0)}},
		Exports: l,
		Codes:   []api.Code{{}, {}, {Body: con64(1)}, {Body: con64(1)}, {}},
	}
}

// may tells whether that may be main, of what exported has.
func may(x api.Export) bool { return x.Kind == api.ExFunc && (x.Index == 0 || x.Index == 4) }

// all is everything that exported has, as exports of that name.
func all(name string) []api.Export {
	var l []api.Export
	for i := range uint32(5) {
		l = append(l, api.Export{Name: name, Kind: api.ExFunc, Index: i})
	}
	for _, kind := range []uint8{api.ExTable, api.ExMem, api.ExGlobal} {
		l = append(l, api.Export{Name: name, Kind: kind})
	}
	return l
}

// P12.2: what is exported as main, and as init, in both orders, among others or alone.
func TestExports(t *testing.T) {
	others := []api.Export{{Name: "Main", Index: 1}, {Name: "", Kind: api.ExMem}, {Name: "Init", Kind: api.ExGlobal}}
	asked := func(e api.Errno, l ...api.Export) {
		t.Helper()
		check(t, "exports", exported(l...), e)
		check(t, "exports, and others", exported(slices.Concat(l, others)...), e)
		check(t, "others, and exports", exported(slices.Concat(others, l)...), e)
		m := exported(slices.Concat(others[:1], l, others[1:])...)
		m.Types = append(m.Types, fn(types(i32)))
		check(t, "exports among others, and an import", imported(m, env("self", 5)), e)
	}
	unless := func(so bool) api.Errno {
		if so {
			return ok
		}
		return errExport
	}
	asked(errExport)
	for _, x := range all("main") {
		asked(unless(may(x)), x)
		for _, y := range all("init") {
			asked(unless(may(x) && may(y)), x, y)
			asked(unless(may(x) && may(y)), y, x)
		}
	}
	for _, y := range all("init") {
		asked(errExport, y)
	}
}

// P12.2: names that are like main and init are none of them.
func TestLikeMain(t *testing.T) {
	for _, name := range []string{"", "Main", "MAIN", "mai", "mainn", "maim", " main", "main ", "ain", "main\x00", "m", "_main", "start", "init", "maın"} {
		check(t, name+" in the place of main", exported(api.Export{Name: name}), errExport)
	}
	for _, name := range []string{"", "Init", "INIT", "ini", "initt", "inits", " init", "init ", "nit", "init\x00", "i", "_init", "start", "ınit", "Main", "mai", "mains"} {
		for _, x := range all(name) {
			check(t, name+" beside main", exported(x, main(0)), ok)
			check(t, name+" beside main", exported(main(4), x), ok)
		}
	}
}

// P12.2: the start is no main, nor init; what is imported can be neither, for it takes or gives something.
func TestNoOtherMain(t *testing.T) {
	m := exported()
	m.HasStart = true
	check(t, "a start", m, errExport)
	m.Exports = []api.Export{{Name: "start"}}
	check(t, "a start that is exported", m, errExport)
	m.Exports = []api.Export{main(4)}
	check(t, "a start, and main", m, ok)
	m.Exports = []api.Export{main(0)}
	check(t, "a start that is main", m, ok)
	for i := range written() {
		m := whole()
		m.Exports[1].Index = uint32(i)
		check(t, "main from elsewhere", m, errExport)
		m = whole()
		m.Exports[3].Index = uint32(i)
		check(t, "init from elsewhere", m, errExport)
	}
	for i := range uint32(4) {
		e := ok
		if i == 1 {
			e = errExport
		}
		m := whole()
		m.Exports[1].Index = 16 + i
		check(t, "main of the module's own", m, e)
		m = whole()
		m.Exports[3].Index = 16 + i
		check(t, "init of the module's own", m, e)
	}
}
