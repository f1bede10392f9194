package body_test

import (
	"slices"
	"testing"

	"gabelle/api"
	"gabelle/body"
	"gabelle/space"
)

// some instructions of each kind, those that fit and those that do not.
var some = written(`i32.const 1, i64.const 1, i32.eqz, i64.eqz, i32.add, i64.add, i32.wrap_i64, i64.extend_i32_u,
		drop, select, nop, unreachable, return, br 0, br 1, br_if 0, br_if 1, br_table 0 0, br_table 0 1, br_table 1 0, br_table 0 1 0 0,
		block, block i32, loop i64, if, if i64, else, end, call 0, call 2, call 3, call 6, call_indirect 1,
		local.get 0, local.set 1, local.tee 1, local.get 4, global.get 1, global.set 1, global.set 0,
		i32.load 2 0, i64.store 3 0, i32.store 3 0, memory.size, memory.grow`)

// marks are the blocks that are open, of a body's part that may have bytes.
type marks []uint8

// pass tells the marks behind it, where the instruction or mark may stand there.
func (open marks) pass(x api.Instr) (marks, bool) {
	last := len(open) - 1
	switch x.Op {
	case api.OpBlock, api.OpLoop, api.OpIf:
		return append(slices.Clone(open), x.Op), true
	case api.OpElse:
		if last < 0 || open[last] != api.OpIf {
			return nil, false
		}
		return append(slices.Clone(open[:last]), x.Op), true
	case api.OpEnd:
		if last < 0 {
			return nil, false
		}
		return open[:last], true
	}
	return open, true
}

func ends(n int) []api.Instr { return slices.Repeat(written("end"), n) }

// held is a function with all that it is asked by.
type held struct {
	m      api.Module
	s      *space.Space
	fn     api.FuncType
	locals []api.Local
}

func heldBy(m api.Module, results ...uint8) held {
	return held{m, space.Of(m), api.FuncType{Params: types(i32), Results: results}, someLocals()}
}

// check holds Check against the model.
func (h held) check(t *testing.T, l []api.Instr) (int, api.Errno) {
	t.Helper()
	c := api.Code{Locals: h.locals, Body: l}
	height, e := body.Check(h.s, h.fn, c)
	if want, is := modelled(h.m, h.fn, c); height != want || e != is {
		t.Fatalf("gives %v: %s: %d, %d, want %d, %d", h.fn.Results, told(l), height, e, want, is)
	}
	return height, e
}

// P10.2: all bodies of few instructions, as long as none has an error, with ends for what is open.
func TestAllShort(t *testing.T) {
	var grow func(h held, w *model, l []api.Instr, open marks, more int)
	grow = func(h held, w *model, l []api.Instr, open marks, more int) {
		for _, x := range some {
			longer := joined(l, []api.Instr{x})
			behind, may := open.pass(x)
			h.check(t, joined(longer, ends(len(behind))))
			if !may || more == 0 {
				continue
			}
			if w := w.copied(); w.step(x) == api.OK {
				grow(h, w, longer, behind, more-1)
			}
		}
	}
	for _, results := range [][]uint8{nil, types(i32), types(i64)} {
		for _, m := range []api.Module{whole(), lacking()} {
			h := heldBy(m, results...)
			more := 2
			if len(m.Tables) == 0 {
				more = 1
			}
			grow(h, modelOf(h.m, h.fn, api.Code{Locals: h.locals}), nil, nil, more)
		}
	}
}

// body is a body of random instructions, most of which fit.
func (r *random) body(h held, length int) []api.Instr {
	w := modelOf(h.m, h.fn, api.Code{Locals: h.locals})
	var l []api.Instr
	var open marks
	for amiss := false; len(l) < length; {
		x := r.instruction(len(open))
		behind, may := open.pass(x)
		if !may {
			continue
		}
		if !amiss {
			next := w.copied()
			fits := next.step(x) == api.OK
			if !fits && r.next(100) > 0 {
				continue
			}
			w, amiss = next, !fits
		}
		l, open = append(l, x), behind
		if amiss && r.next(2) > 0 {
			return joined(l, ends(len(open)))
		}
	}
	for n := len(open); n > 0 && len(w.levels) == n+1; n-- {
		for _, x := range joined(r.settled(w), r.otherwise(w), written("end")) {
			l = append(l, x)
			w.step(x)
		}
	}
	if len(w.levels) > 1 {
		return l
	}
	return joined(l, r.settled(w))
}

// settled leaves the innermost frame's ends, and no more.
func (r *random) settled(w *model) []api.Instr {
	v := *w.inner()
	if r.next(4) == 0 {
		return written("unreachable")
	}
	l := slices.Repeat(written("drop"), len(v.own))
	for _, own := range v.ends {
		op := api.OpI32Const
		if own == i64 {
			op = api.OpI64Const
		}
		l = append(l, api.Instr{Op: op})
	}
	return l
}

// otherwise is an else for what needs one.
func (r *random) otherwise(w *model) []api.Instr {
	v := *w.inner()
	if v.op == api.OpIf && len(v.ends) > 0 {
		return written("else, unreachable")
	}
	return nil
}

// instruction is one with numbers that are there, and sometimes one that is not.
func (r *random) instruction(open int) api.Instr {
	x := some[r.next(len(some))]
	switch x.Op {
	case api.OpUnreachable, api.OpReturn, api.OpBr, api.OpBrTable:
		if r.next(4) > 0 {
			return r.instruction(open)
		}
	}
	switch x.Op {
	case api.OpBr, api.OpBrIf, api.OpBrTable:
		x.A = uint32(r.next(open + 2))
		x.L = slices.Clone(x.L)
		for n := range x.L {
			x.L[n] = uint32(r.next(open + 2))
		}
	case api.OpBlock, api.OpLoop, api.OpIf:
		x.A = uint32([]uint8{api.BlockNone, i32, i64}[r.next(3)])
	case api.OpLocalGet, api.OpLocalSet, api.OpLocalTee, api.OpGlobalGet, api.OpGlobalSet:
		x.A = uint32(r.next(5))
	case api.OpCall, api.OpCallIndirect:
		x.A = uint32(r.next(8))
	case 0x28, 0x36, 0x37:
		x.A = uint32(r.next(5))
	}
	return x
}

// P10.2, P10.3: bodies of many instructions; the same with nops, with a block around all, and with one thing otherwise.
func TestMixed(t *testing.T) {
	var r random = 10
	oks, errs := 0, map[api.Errno]int{}
	for n := range 12000 {
		h := heldBy([]api.Module{whole(), whole(), whole(), lacking()}[n%4], [][]uint8{nil, types(i32), types(i64), types(i64, i32)}[r.next(4)]...)
		l := r.body(h, r.next(40))
		height, e := h.check(t, l)
		if e == api.OK {
			oks++
		} else {
			errs[e]++
		}
		checkNops(t, &r, h, l, height, e)
		checkAround(t, h, l, height, e)
		for range 3 {
			h.check(t, r.otherwiseOne(l))
		}
	}
	if oks < 8000 || errs[errType] < 100 || errs[errIndex] < 100 || errs[errLabel] < 50 {
		t.Errorf("too few of a kind: %d, %v", oks, errs)
	}
}

func checkNops(t *testing.T, r *random, h held, l []api.Instr, height int, e api.Errno) {
	t.Helper()
	at := r.next(len(l) + 1)
	all := written("nop")
	for _, x := range l {
		all = append(all, x, api.Instr{Op: api.OpNop})
	}
	for _, nops := range [][]api.Instr{slices.Insert(slices.Clone(l), at, written("nop, nop")...), all} {
		if got, is := h.check(t, nops); got != height || is != e {
			t.Fatalf("%s: %d, %d, want %d, %d", told(nops), got, is, height, e)
		}
	}
}

// checkAround holds a body against that in a block. The block's end pushes the result, which may not have stood there, if what is behind the body's end is not reached.
func checkAround(t *testing.T, h held, l []api.Instr, height int, e api.Errno) {
	t.Helper()
	if len(h.fn.Results) > 1 || e == api.ErrLabel {
		return
	}
	start := written("block")
	for _, own := range h.fn.Results {
		start[0].A = uint32(own)
	}
	if e == api.OK {
		height = max(height, len(h.fn.Results))
	}
	around := joined(start, l, written("end"))
	if got, is := h.check(t, around); got != height || is != e {
		t.Fatalf("%s: %d, %d, want %d, %d", told(around), got, is, height, e)
	}
}

// otherwiseOne is a body with one instruction less, more, twice, or another one.
func (r *random) otherwiseOne(l []api.Instr) []api.Instr {
	l = slices.Clone(l)
	at := r.next(len(l) + 1)
	x := r.instruction(2)
	if at == len(l) {
		return append(l, x)
	}
	switch r.next(4) {
	case 0:
		return slices.Delete(l, at, at+1)
	case 1:
		return slices.Insert(l, at, x)
	case 2:
		return slices.Insert(l, at, l[at])
	}
	l[at] = x
	return l
}

// P10.3: a block around all by hand: where the function's label is taken, by return and br, and where a label beyond it is.
func TestAround(t *testing.T) {
	for _, c := range []struct {
		text           string
		height, around int
		e, is          api.Errno
	}{
		{"i64.const 1", 1, 1, ok, ok},
		{"i64.const 1, return", 1, 1, ok, ok},
		{"i64.const 1, br 0", 1, 1, ok, ok},
		{"block, i64.const 1, br 1, end, unreachable", 1, 1, ok, ok},
		{"i64.const 1, i32.const 1, br_table 0 0", 2, 2, ok, ok},
		{"i64.const 1, i32.const 1, br_if 0, nop", 2, 2, ok, ok},
		{"unreachable", 0, 1, ok, ok},
		{"", 0, 0, errType, errType},
		{"i32.const 1", 0, 0, errType, errType},
		{"i64.const 1, drop", 0, 0, errType, errType},
		{"call 9", 0, 0, errIndex, errIndex},
		{"i64.const 1, br 1", 0, 1, errLabel, ok},
		{"i64.const 1, br 2", 0, 0, errLabel, errLabel},
		{"block", 0, 0, api.ErrArg, api.ErrArg},
		{"nop, end", 0, 0, api.ErrArg, api.ErrArg},
	} {
		row{c.text, c.height, c.e}.check(t, whole(), i64)
		row{"block i64, " + c.text + ", end", c.around, c.is}.check(t, whole(), i64)
	}
}
