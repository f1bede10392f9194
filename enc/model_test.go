package enc_test

import (
	"math"

	"gabelle/api"
	"gabelle/instr"
	"gabelle/leb"
	"gabelle/name"
)

// modelHas is the chapter's words of when a module has a binary, clause by clause.
func modelHas(m api.Module) bool {
	return allTypes(m) && allNames(m) && allLimits(m) && allKinds(m) && allExprs(m) && allLocals(m) &&
		len(m.Codes) == len(m.Funcs) && (m.HasStart || m.Start == 0)
}

func allTypes(m api.Module) bool {
	var l []uint8
	for _, x := range m.Types {
		l = append(append(l, x.Params...), x.Results...)
	}
	for _, x := range m.Imports {
		if x.Kind == 3 {
			l = append(l, x.Glob.T)
		}
	}
	for _, x := range m.Globals {
		l = append(l, x.Type.T)
	}
	for _, x := range m.Codes {
		for _, run := range x.Locals {
			l = append(l, run.T)
		}
	}
	for _, t := range l {
		if t != 0x7f && t != 0x7e {
			return false
		}
	}
	return true
}

func allNames(m api.Module) bool {
	var l []string
	for _, x := range m.Imports {
		l = append(l, x.Mod, x.Name)
	}
	for _, x := range m.Exports {
		l = append(l, x.Name)
	}
	for _, s := range l {
		if !name.Valid([]byte(s)) {
			return false
		}
	}
	return true
}

func allLimits(m api.Module) bool {
	l := append(append([]api.Limits{}, m.Tables...), m.Mems...)
	for _, x := range m.Imports {
		if x.Kind == 1 || x.Kind == 2 {
			l = append(l, x.Lim)
		}
	}
	for _, x := range l {
		if x.Max < -1 || x.Max >= 1<<32 {
			return false
		}
	}
	return true
}

func allKinds(m api.Module) bool {
	for _, x := range m.Imports {
		isType, isLim, isGlob := x.Type == 0, x.Lim.Min == 0 && x.Lim.Max == 0, x.Glob.T == 0 && !x.Glob.Mut
		switch x.Kind {
		case 0:
			isType = true
		case 1, 2:
			isLim = true
		case 3:
			isGlob = true
		default:
			return false
		}
		if !isType || !isLim || !isGlob {
			return false
		}
	}
	for _, x := range m.Exports {
		if x.Kind > 3 {
			return false
		}
	}
	return true
}

func allExprs(m api.Module) bool {
	var l [][]api.Instr
	for _, x := range m.Globals {
		l = append(l, x.Init)
	}
	for _, x := range m.Elems {
		l = append(l, x.Offset)
	}
	for _, x := range m.Codes {
		l = append(l, x.Body)
	}
	for _, x := range m.Datas {
		l = append(l, x.Offset)
	}
	for _, expr := range l {
		if _, e := instr.AppendExpr(nil, expr); e != api.OK {
			return false
		}
	}
	return true
}

func allLocals(m api.Module) bool {
	for _, x := range m.Codes {
		sum := uint64(0)
		for _, run := range x.Locals {
			sum += uint64(run.N)
		}
		if sum > math.MaxUint32 {
			return false
		}
	}
	return true
}

// model writes a module by the words of chapters 5 and 6. With more above 0 each number has so many bytes more than it needs (as many as it may have); with empty, sections without entries are there; with custom, custom ones stand all about.
type model struct {
	b             []byte
	more          int
	empty, custom bool
}

func (w *model) byte(b byte) { w.b = append(w.b, b) }

func (w *model) flag(set bool) {
	if set {
		w.byte(1)
	} else {
		w.byte(0)
	}
}

func (w *model) u32(n uint64) {
	b := leb.AppendU(nil, n)
	for i := 0; i < w.more && len(b) < 5; i++ {
		b[len(b)-1] |= 0x80
		b = append(b, 0)
	}
	w.b = append(w.b, b...)
}

func (w *model) bytes(b []byte) {
	w.u32(uint64(len(b)))
	w.b = append(w.b, b...)
}

func (w *model) expr(l []api.Instr) {
	b, _ := instr.AppendExpr(nil, l)
	w.b = append(w.b, b...)
}

func (w *model) limits(x api.Limits) {
	w.flag(x.Max >= 0)
	w.u32(uint64(x.Min))
	if x.Max >= 0 {
		w.u32(uint64(x.Max))
	}
}

func (w *model) numbers(l []uint32) {
	w.u32(uint64(len(l)))
	for _, n := range l {
		w.u32(uint64(n))
	}
}

// within is what write writes, by itself.
func (w *model) within(write func(w *model)) []byte {
	in := &model{more: w.more}
	write(in)
	return in.b
}

func (w *model) imported(x api.Import) {
	w.bytes([]byte(x.Mod))
	w.bytes([]byte(x.Name))
	w.byte(x.Kind)
	switch x.Kind {
	case 0:
		w.u32(uint64(x.Type))
	case 1:
		w.byte(0x70)
		w.limits(x.Lim)
	case 2:
		w.limits(x.Lim)
	case 3:
		w.byte(x.Glob.T)
		w.flag(x.Glob.Mut)
	}
}

// section writes one of n entries; those of number 8 have one without a count.
func (w *model) section(id byte, n int, entry func(w *model, i int)) {
	if w.custom {
		w.byte(0)
		w.bytes(append([]byte{1, 'c'}, id, 0xff))
	}
	if n == 0 && (!w.empty || id == 8) {
		return
	}
	w.byte(id)
	w.bytes(w.within(func(in *model) {
		if id != 8 {
			in.u32(uint64(n))
		}
		for i := range n {
			entry(in, i)
		}
	}))
}

func (w *model) module(m api.Module) {
	w.b = append(w.b, 0x00, 0x61, 0x73, 0x6d, 0x01, 0x00, 0x00, 0x00)
	w.section(1, len(m.Types), func(w *model, i int) {
		w.byte(0x60)
		w.bytes(m.Types[i].Params)
		w.bytes(m.Types[i].Results)
	})
	w.section(2, len(m.Imports), func(w *model, i int) { w.imported(m.Imports[i]) })
	w.section(3, len(m.Funcs), func(w *model, i int) { w.u32(uint64(m.Funcs[i])) })
	w.section(4, len(m.Tables), func(w *model, i int) {
		w.byte(0x70)
		w.limits(m.Tables[i])
	})
	w.section(5, len(m.Mems), func(w *model, i int) { w.limits(m.Mems[i]) })
	w.section(6, len(m.Globals), func(w *model, i int) {
		w.byte(m.Globals[i].Type.T)
		w.flag(m.Globals[i].Type.Mut)
		w.expr(m.Globals[i].Init)
	})
	w.section(7, len(m.Exports), func(w *model, i int) {
		w.bytes([]byte(m.Exports[i].Name))
		w.byte(m.Exports[i].Kind)
		w.u32(uint64(m.Exports[i].Index))
	})
	starts := 0
	if m.HasStart {
		starts = 1
	}
	w.section(8, starts, func(w *model, i int) { w.u32(uint64(m.Start)) })
	w.section(9, len(m.Elems), func(w *model, i int) {
		w.u32(uint64(m.Elems[i].Table))
		w.expr(m.Elems[i].Offset)
		w.numbers(m.Elems[i].Funcs)
	})
	w.section(10, len(m.Codes), func(w *model, i int) { w.code(m.Codes[i]) })
	w.section(11, len(m.Datas), func(w *model, i int) {
		w.u32(uint64(m.Datas[i].Mem))
		w.expr(m.Datas[i].Offset)
		w.bytes(m.Datas[i].B)
	})
}

func (w *model) code(x api.Code) {
	w.bytes(w.within(func(in *model) {
		in.u32(uint64(len(x.Locals)))
		for _, run := range x.Locals {
			in.u32(uint64(run.N))
			in.byte(run.T)
		}
		in.expr(x.Body)
	}))
}

func modelEncode(m api.Module) ([]byte, api.Errno) {
	if !modelHas(m) {
		return nil, api.ErrArg
	}
	var w model
	w.module(m)
	if len(w.b) > 65536 {
		return nil, api.ErrLong
	}
	return w.b, api.OK
}
