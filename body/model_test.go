package body_test

import (
	"slices"

	"gabelle/api"
	"gabelle/instr"
	"gabelle/opc"
)

// level is a frame of the model, with the operands that were pushed since it began.
type level struct {
	op               uint8
	label, ends, own []uint8
	dead             bool
}

// model is the chapter's words, with the module's lists gone through as they are, and each frame's operands apart.
type model struct {
	m      api.Module
	fn     api.FuncType
	locals []api.Local
	levels []level
	most   int
}

func modelOf(m api.Module, fn api.FuncType, c api.Code) *model {
	return &model{m: m, fn: fn, locals: c.Locals, levels: []level{{label: fn.Results, ends: fn.Results}}}
}

// modelled is what Check tells, of a module that is there.
func modelled(m api.Module, fn api.FuncType, c api.Code) (int, api.Errno) {
	if _, e := instr.AppendExpr(nil, c.Body); e != api.OK {
		return 0, api.ErrArg
	}
	for _, l := range c.Locals {
		if l.N != 0 && l.T != 0x7f && l.T != 0x7e {
			return 0, api.ErrType
		}
	}
	w := modelOf(m, fn, c)
	for _, x := range c.Body {
		if e := w.step(x); e != api.OK {
			return 0, e
		}
	}
	if !w.closed() {
		return 0, api.ErrType
	}
	return w.most, api.OK
}

// copied is a model of its own, that goes on apart.
func (w *model) copied() *model {
	other := *w
	other.levels = slices.Clone(w.levels)
	for i := range other.levels {
		other.levels[i].own = slices.Clone(other.levels[i].own)
	}
	return &other
}

func (w *model) inner() *level { return &w.levels[len(w.levels)-1] }

func (w *model) push(l []uint8) {
	v := w.inner()
	v.own = append(v.own, l...)
	n := 0
	for _, v := range w.levels {
		n += len(v.own)
	}
	w.most = max(w.most, n)
}

func (w *model) pop() (uint8, bool) {
	v := w.inner()
	if n := len(v.own); n > 0 {
		t := v.own[n-1]
		v.own = v.own[:n-1]
		return t, true
	}
	return 0, v.dead
}

// want leaves what it took behind where something lacks: the body has an error then.
func (w *model) want(l []uint8) bool {
	for i := len(l) - 1; i >= 0; i-- {
		if t, ok := w.pop(); !ok || !ofOne(t, l[i]) {
			return false
		}
	}
	return true
}

func ofOne(a, b uint8) bool { return a == 0 || b == 0 || a == b }

func (w *model) closed() bool {
	v := w.inner()
	if !w.want(v.ends) || len(v.own) > 0 {
		return false
	}
	w.levels = w.levels[:len(w.levels)-1]
	return true
}

func (w *model) die() {
	v := w.inner()
	v.own, v.dead = nil, true
}

func (w *model) label(n uint32) ([]uint8, bool) {
	for i := len(w.levels) - 1; i >= 0; i-- {
		if n == 0 {
			return w.levels[i].label, true
		}
		n--
	}
	return nil, false
}

// local counts one by one, as far as the numbers go that a test of the model asks for.
func (w *model) local(i uint32) (uint8, bool) {
	all := slices.Clone(w.fn.Params)
	for _, l := range w.locals {
		for n := uint32(0); n < l.N && len(all) < 1<<10; n++ {
			all = append(all, l.T)
		}
	}
	if int64(i) < int64(len(all)) {
		return all[i], true
	}
	return 0, false
}

func (w *model) function(i uint32) (api.FuncType, bool) {
	var numbers []uint32
	for _, x := range w.m.Imports {
		if x.Kind == api.ExFunc {
			numbers = append(numbers, x.Type)
		}
	}
	numbers = append(numbers, w.m.Funcs...)
	if int64(i) >= int64(len(numbers)) {
		return api.FuncType{}, false
	}
	return w.typed(numbers[i])
}

func (w *model) typed(i uint32) (api.FuncType, bool) {
	if int64(i) >= int64(len(w.m.Types)) {
		return api.FuncType{}, false
	}
	return w.m.Types[i], true
}

func (w *model) global(i uint32) (api.GlobalType, bool) {
	var all []api.GlobalType
	for _, x := range w.m.Imports {
		if x.Kind == api.ExGlobal {
			all = append(all, x.Glob)
		}
	}
	for _, x := range w.m.Globals {
		all = append(all, x.Type)
	}
	if int64(i) >= int64(len(all)) {
		return api.GlobalType{}, false
	}
	return all[i], true
}

// has tells whether there is a table, or a memory.
func (w *model) has(kind uint8, own []api.Limits) bool {
	return len(own) > 0 || slices.ContainsFunc(w.m.Imports, func(x api.Import) bool { return x.Kind == kind })
}

// step is one instruction, or mark; behind an error the model is of no more use.
func (w *model) step(x api.Instr) api.Errno {
	switch x.Op {
	case 0x00, 0x02, 0x03, 0x04, 0x05, 0x0b, 0x0c, 0x0d, 0x0e, 0x0f:
		return w.control(x)
	case 0x01:
		return api.OK
	case 0x10:
		t, ok := w.function(x.A)
		if !ok {
			return api.ErrIndex
		}
		return w.fits(w.want(t.Params), t.Results)
	case 0x11:
		t, ok := w.typed(x.A)
		if !w.has(api.ExTable, w.m.Tables) || !ok {
			return api.ErrIndex
		}
		return w.fits(w.want(types(i32)) && w.want(t.Params), t.Results)
	case 0x1a:
		_, ok := w.pop()
		return w.fits(ok, nil)
	case 0x1b:
		if !w.want(types(i32)) {
			return api.ErrType
		}
		b, is := w.pop()
		a, ok := w.pop()
		if a == 0 {
			return w.fits(is && ok, types(b))
		}
		return w.fits(is && ok && ofOne(a, b), types(a))
	case 0x20, 0x21, 0x22, 0x23, 0x24:
		return w.variable(x)
	}
	return w.plain(x)
}

// fits pushes, where all that was asked is so.
func (w *model) fits(is bool, l []uint8) api.Errno {
	if !is {
		return api.ErrType
	}
	w.push(l)
	return api.OK
}

func (w *model) control(x api.Instr) api.Errno {
	switch x.Op {
	case 0x00:
		w.die()
	case 0x02, 0x03, 0x04:
		if x.Op == 0x04 && !w.want(types(i32)) {
			return api.ErrType
		}
		v := level{op: x.Op}
		if x.A != 0x40 {
			v.ends = types(uint8(x.A))
		}
		if x.Op != 0x03 {
			v.label = v.ends
		}
		w.levels = append(w.levels, v)
	case 0x05:
		ends := w.inner().ends
		if !w.closed() {
			return api.ErrType
		}
		w.levels = append(w.levels, level{op: x.Op, label: ends, ends: ends})
	case 0x0b:
		v := *w.inner()
		return w.fits(w.closed() && (v.op != 0x04 || len(v.ends) == 0), v.ends)
	case 0x0f:
		if !w.want(w.fn.Results) {
			return api.ErrType
		}
		w.die()
	default:
		return w.branch(x)
	}
	return api.OK
}

func (w *model) branch(x api.Instr) api.Errno {
	l, ok := w.label(x.A)
	same := true
	for _, n := range x.L {
		other, is := w.label(n)
		ok = ok && is
		same = same && slices.Equal(other, l)
	}
	if !ok {
		return api.ErrLabel
	}
	if x.Op != 0x0c && !w.want(types(i32)) || !same || !w.want(l) {
		return api.ErrType
	}
	if x.Op == 0x0d {
		w.push(l)
		return api.OK
	}
	w.die()
	return api.OK
}

func (w *model) variable(x api.Instr) api.Errno {
	var t uint8
	var g api.GlobalType
	var ok bool
	if x.Op < 0x23 {
		t, ok = w.local(x.A)
	} else {
		g, ok = w.global(x.A)
		t = g.T
	}
	switch {
	case !ok:
		return api.ErrIndex
	case x.Op == 0x24 && !g.Mut:
		return api.ErrType
	case x.Op == 0x20 || x.Op == 0x23:
		return w.fits(true, types(t))
	case x.Op == 0x22:
		return w.fits(w.want(types(t)), types(t))
	}
	return w.fits(w.want(types(t)), nil)
}

func (w *model) plain(x api.Instr) api.Errno {
	width := opc.Width(x.Op)
	if (width > 0 || x.Op == 0x3f || x.Op == 0x40) && !w.has(api.ExMem, w.m.Mems) {
		return api.ErrIndex
	}
	if width > 0 {
		bytes := 1
		for range min(x.A, 40) {
			bytes *= 2
		}
		if bytes > width {
			return api.ErrType
		}
	}
	takes, gives, _ := opc.Sig(x.Op)
	return w.fits(w.want(takes), gives)
}
