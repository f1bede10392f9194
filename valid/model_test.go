package valid_test

import (
	"slices"

	"gabelle/api"
	"gabelle/body"
	"gabelle/space"
)

// model is the chapter's words: all steps are gone through, whatever is amiss; it is noted in order, and the first is told in the end.
type model struct {
	m       api.Module
	amiss   []api.Errno
	heights []int
}

// modelled is what Check tells.
func modelled(m api.Module) ([]int, api.Errno) {
	x := &model{m: m}
	x.kinds()
	x.types()
	x.named()
	x.limits()
	x.globals()
	x.exports()
	x.start()
	for _, v := range m.Elems {
		x.want(x.there(1, v.Table), errIndex)
		x.constant(v.Offset, 0x7f)
		for _, f := range v.Funcs {
			x.want(x.there(0, f), errIndex)
		}
	}
	x.codes()
	for _, v := range m.Datas {
		x.want(x.there(2, v.Mem), errIndex)
		x.constant(v.Offset, 0x7f)
	}
	if len(x.amiss) > 0 {
		return nil, x.amiss[0]
	}
	return x.heights, api.OK
}

func (x *model) want(so bool, e api.Errno) {
	if !so {
		x.amiss = append(x.amiss, e)
	}
}

// of is the imports of that kind.
func (x *model) of(kind uint8) []api.Import {
	var l []api.Import
	for _, v := range x.m.Imports {
		if v.Kind == kind {
			l = append(l, v)
		}
	}
	return l
}

func (x *model) there(kind uint8, i uint32) bool {
	own := map[uint8]int{0: len(x.m.Funcs), 1: len(x.m.Tables), 2: len(x.m.Mems), 3: len(x.m.Globals)}[kind]
	return int64(i) < int64(len(x.of(kind))+own)
}

func wholeNumber(t uint8) bool { return t == 0x7f || t == 0x7e }

func (x *model) kinds() {
	x.want(len(x.m.Codes) == len(x.m.Funcs), errArg)
	for _, v := range x.m.Imports {
		x.want(v.Kind < 4, errArg)
	}
	for _, v := range x.m.Exports {
		x.want(v.Kind < 4, errArg)
	}
}

func (x *model) types() {
	for _, v := range x.m.Types {
		x.want(len(v.Results) < 2, errType)
		for _, t := range slices.Concat(v.Params, v.Results) {
			x.want(wholeNumber(t), errType)
		}
	}
}

func (x *model) named() {
	for _, v := range x.m.Imports {
		x.want(v.Kind != 0 || int64(v.Type) < int64(len(x.m.Types)), errIndex)
		x.want(v.Kind != 3 || wholeNumber(v.Glob.T), errType)
	}
	for _, n := range x.m.Funcs {
		x.want(int64(n) < int64(len(x.m.Types)), errIndex)
	}
}

func (x *model) limits() {
	tables, mems := slices.Clone(x.m.Tables), slices.Clone(x.m.Mems)
	for _, v := range x.of(1) {
		tables = append(tables, v.Lim)
	}
	for _, v := range x.of(2) {
		mems = append(mems, v.Lim)
	}
	x.want(len(tables) < 2 && len(mems) < 2, errLimits)
	for _, l := range slices.Concat(tables, mems) {
		x.want(l.Max == -1 || int64(l.Min) <= l.Max && l.Max < 1<<32, errLimits)
	}
	for _, l := range mems {
		x.want(max(int64(l.Min), l.Max) <= 65536, errLimits)
	}
}

func (x *model) globals() {
	for _, v := range x.m.Globals {
		x.want(wholeNumber(v.Type.T), errType)
		x.constant(v.Init, v.Type.T)
	}
}

func (x *model) constant(l []api.Instr, t uint8) {
	if len(l) != 1 || !slices.Contains([]uint8{0x41, 0x42, 0x23}, l[0].Op) {
		x.want(false, errConst)
		return
	}
	given := map[uint8]uint8{0x41: 0x7f, 0x42: 0x7e}[l[0].Op]
	if l[0].Op == 0x23 {
		from := x.of(3)
		if int64(l[0].A) >= int64(len(from)) {
			x.want(false, errIndex)
			return
		}
		g := from[l[0].A].Glob
		x.want(!g.Mut, errConst)
		given = g.T
	}
	x.want(given == t, errType)
}

func (x *model) exports() {
	for i, v := range x.m.Exports {
		x.want(x.there(v.Kind, v.Index), errIndex)
		for _, other := range x.m.Exports[:i] {
			x.want(other.Name != v.Name, errTwice)
		}
	}
}

// function is what a function takes and gives, as far as there is one.
func (x *model) function(i int) (api.FuncType, bool) {
	var numbers []uint32
	for _, v := range x.of(0) {
		numbers = append(numbers, v.Type)
	}
	numbers = append(numbers, x.m.Funcs...)
	if i >= len(numbers) || int64(numbers[i]) >= int64(len(x.m.Types)) {
		return api.FuncType{}, false
	}
	return x.m.Types[numbers[i]], true
}

func (x *model) start() {
	t, is := x.function(int(x.m.Start))
	x.want(!x.m.HasStart || is && len(t.Params) == 0 && len(t.Results) == 0, errStart)
}

func (x *model) codes() {
	for i, c := range x.m.Codes {
		t, _ := x.function(len(x.of(0)) + i)
		height, e := body.Check(space.Of(x.m), t, c)
		x.want(e == api.OK, e)
		x.heights = append(x.heights, height)
	}
}
