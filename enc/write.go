package enc

import (
	"math"

	"gabelle/api"
	"gabelle/instr"
	"gabelle/leb"
	"gabelle/name"
)

const (
	ofFuncs = 0x60 // what a function's type begins with
	tableOf = 0x70 // what a table's elements are
)

// writer has what was written so far, and whether any of it is of what has no bytes. It goes on behind that, and behind what is too long: what is wrong is told ahead of what is long, wherever the two stand.
type writer struct {
	b     []byte
	wrong bool
}

// put keeps no more bytes than a module may have: as many are too long already, with the binary's beginning ahead of them, however many more there would be.
func (w *writer) put(b ...byte) {
	room := api.MaxModule - len(w.b)
	w.b = append(w.b, b[:min(len(b), room)]...)
}

func (w *writer) must(ok bool) { w.wrong = w.wrong || !ok }

func list[T any](w *writer, l []T, one func(T)) {
	w.length(len(l))
	for _, x := range l {
		one(x)
	}
}

func (w *writer) funcType(x api.FuncType) {
	w.put(ofFuncs)
	list(w, x.Params, w.valueType)
	list(w, x.Results, w.valueType)
}

func (w *writer) imported(x api.Import) {
	w.name(x.Mod)
	w.name(x.Name)
	w.kind(x.Kind)
	rest := x
	switch x.Kind {
	case api.ExFunc:
		w.number(x.Type)
		rest.Type = 0
	case api.ExTable:
		w.table(x.Lim)
		rest.Lim = api.Limits{}
	case api.ExMem:
		w.limits(x.Lim)
		rest.Lim = api.Limits{}
	case api.ExGlobal:
		w.globalType(x.Glob)
		rest.Glob = api.GlobalType{}
	}
	w.must(rest == api.Import{Mod: x.Mod, Name: x.Name, Kind: x.Kind})
}

func (w *writer) table(x api.Limits) {
	w.put(tableOf)
	w.limits(x)
}

func (w *writer) limits(x api.Limits) {
	w.must(x.Max >= -1 && x.Max <= math.MaxUint32)
	hasMax := x.Max != -1
	w.flag(hasMax)
	w.number(x.Min)
	if hasMax {
		w.number(uint32(x.Max))
	}
}

func (w *writer) global(x api.Global) {
	w.globalType(x.Type)
	w.expr(x.Init)
}

func (w *writer) globalType(x api.GlobalType) {
	w.valueType(x.T)
	w.flag(x.Mut)
}

func (w *writer) export(x api.Export) {
	w.name(x.Name)
	w.kind(x.Kind)
	w.number(x.Index)
}

func (w *writer) elem(x api.Elem) {
	w.number(x.Table)
	w.expr(x.Offset)
	list(w, x.Funcs, w.number)
}

// code writes into bytes of its own first, for how many they are stands ahead of them.
func (w *writer) code(x api.Code) {
	own := &writer{}
	own.locals(x.Locals)
	own.expr(x.Body)
	w.must(!own.wrong)
	w.sized(own.b)
}

func (w *writer) locals(l []api.Local) {
	list(w, l, w.local)
	var sum uint64
	for _, run := range l {
		sum += uint64(run.N)
	}
	w.must(sum <= math.MaxUint32)
}

func (w *writer) local(x api.Local) {
	w.number(x.N)
	w.valueType(x.T)
}

func (w *writer) data(x api.Data) {
	w.number(x.Mem)
	w.expr(x.Offset)
	w.sized(x.B)
}

func (w *writer) valueType(t uint8) {
	w.must(t == api.I32 || t == api.I64)
	w.put(t)
}

func (w *writer) expr(l []api.Instr) {
	b, e := instr.AppendExpr(nil, l)
	w.must(e == api.OK)
	w.put(b...)
}

// name asks by itself whether s is a text, since name.Append takes whatever it is.
func (w *writer) name(s string) {
	w.must(name.Valid([]byte(s)))
	w.put(name.Append(nil, s)...)
}

func (w *writer) kind(x uint8) {
	w.must(x <= api.ExGlobal)
	w.put(x)
}

func (w *writer) flag(set bool) {
	if set {
		w.put(1)
	} else {
		w.put(0)
	}
}

func (w *writer) sized(b []byte) {
	w.length(len(b))
	w.put(b...)
}

func (w *writer) number(n uint32) { w.put(leb.AppendU(nil, uint64(n))...) }

func (w *writer) length(n int) { w.put(leb.AppendU(nil, uint64(n))...) }
