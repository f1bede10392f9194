package instr_test

import (
	"bytes"
	"slices"
	"testing"

	"gabelle/api"
	"gabelle/instr"
)

// sequences are all lists of up to most of the pieces.
func sequences[T any](pieces []T, most int, each func(l []T)) {
	var from func(l []T)
	from = func(l []T) {
		each(l)
		if len(l) == most {
			return
		}
		for _, p := range pieces {
			from(append(slices.Clip(l), p))
		}
	}
	from(nil)
}

// P4.3: all bytes of some blocks, marks and others one behind the other, held against the model.
func TestTakeExprAll(t *testing.T) {
	pieces := [][]byte{{0x02, 0x40}, {0x03, 0x7f}, {0x04, 0x7e}, {0x05}, {0x0b}, {0x01}}
	taken := 0
	sequences(pieces, 7, func(l [][]byte) {
		b := slices.Concat(l...)
		checkTakeExprModel(t, b)
		if _, _, e := instr.TakeExpr(b); e == api.OK {
			taken++
		}
	})
	if taken == 0 {
		t.Error("none is an expression")
	}
}

// P4.3: what is wrong first is told, be it an instruction or an else.
func TestTakeExprFirstError(t *testing.T) {
	pieces := [][]byte{{0x02, 0x40}, {0x04, 0x40}, {0x05}, {0x0b}, {0x43}, {0xc0}, {0x02, 0x7d}, {0x04, 0x00}, {0x41, 0x07}}
	sequences(pieces, 5, func(l [][]byte) { checkTakeExprModel(t, slices.Concat(l...)) })
	for _, x := range []struct {
		b []byte
		e api.Errno
	}{
		{[]byte{0x01, 0x43, 0xc0, 0x0b}, api.ErrFloat},
		{[]byte{0x01, 0xc0, 0x43, 0x0b}, api.ErrBin},
		{[]byte{0x02, 0x7d, 0xc0}, api.ErrFloat},
		{[]byte{0x02, 0x00, 0x43}, api.ErrBin},
		{[]byte{0x05, 0x43, 0x0b}, api.ErrBin},
		{[]byte{0x43, 0x05, 0x0b}, api.ErrFloat},
		{[]byte{0x01, 0x43}, api.ErrFloat},
		{[]byte{0x01, 0x41, 0x80}, api.ErrBin},
	} {
		checkTakeExpr(t, x.b, nil, 0, x.e)
	}
}

// P4.3: an else stands once in an if, and not in what else is in it or around it.
func TestTakeExprElse(t *testing.T) {
	for _, b := range [][]byte{
		{0x04, 0x40, 0x05, 0x0b, 0x0b},
		{0x04, 0x40, 0x04, 0x40, 0x05, 0x0b, 0x05, 0x0b, 0x0b},
		{0x04, 0x40, 0x05, 0x04, 0x40, 0x05, 0x0b, 0x0b, 0x0b},
		{0x04, 0x40, 0x02, 0x40, 0x0b, 0x05, 0x0b, 0x0b},
		{0x02, 0x40, 0x04, 0x40, 0x05, 0x0b, 0x0b, 0x0b},
		{0x04, 0x40, 0x05, 0x0b, 0x04, 0x40, 0x05, 0x0b, 0x0b},
	} {
		if _, n, e := instr.TakeExpr(b); n != len(b) || e != api.OK {
			t.Errorf("TakeExpr(% x) = %d, %d", b, n, e)
		}
	}
	for _, b := range [][]byte{
		{0x05, 0x0b},
		{0x01, 0x05, 0x0b, 0x0b},
		{0x02, 0x40, 0x05, 0x0b, 0x0b},
		{0x03, 0x40, 0x05, 0x0b, 0x0b},
		{0x04, 0x40, 0x05, 0x05, 0x0b, 0x0b},
		{0x04, 0x40, 0x02, 0x40, 0x05, 0x0b, 0x0b, 0x0b},
		{0x04, 0x40, 0x0b, 0x05, 0x0b, 0x0b},
		{0x04, 0x40, 0x05, 0x04, 0x40, 0x0b, 0x05, 0x0b, 0x0b},
	} {
		checkTakeExpr(t, b, nil, 0, api.ErrBin)
	}
}

// P4.3: the last end is the one with which no block is open; without it there is no expression, and what stands behind it does not count.
func TestTakeExprEnds(t *testing.T) {
	checkTakeExpr(t, []byte{0x0b}, nil, 1, api.OK)
	checkTakeExpr(t, []byte{0x0b, 0x0b}, nil, 1, api.OK)
	checkTakeExpr(t, []byte{0x0b, 0x05}, nil, 1, api.OK)
	checkTakeExpr(t, []byte{0x0b, 0x43}, nil, 1, api.OK)
	checkTakeExpr(t, nil, nil, 0, api.ErrBin)
	checkTakeExpr(t, []byte{0x02, 0x40, 0x0b}, nil, 0, api.ErrBin)
	checkTakeExpr(t, []byte{0x04, 0x40, 0x05, 0x0b}, nil, 0, api.ErrBin)
	checkTakeExpr(t, []byte{0x41, 0x0b}, nil, 0, api.ErrBin)
	checkTakeExpr(t, []byte{0x41, 0x0b, 0x0b}, []api.Instr{{Op: api.OpI32Const, C: 11}}, 3, api.OK)
	checkTakeExpr(t, []byte{0x0e, 0x01, 0x0b, 0x05, 0x0b}, []api.Instr{{Op: api.OpBrTable, L: []uint32{11}, A: 5}}, 5, api.OK)
}

// P4.3, P4.4, P4.5: each form of instruction within an expression, there and back, whatever stands behind.
func TestExprThereAndBack(t *testing.T) {
	var l []api.Instr
	var b []byte
	for _, p := range pairs() {
		switch p.x.Op {
		case api.OpElse, api.OpEnd:
			continue
		case api.OpBlock, api.OpLoop:
			l, b = append(l, p.x, api.Instr{Op: api.OpEnd}), append(append(b, p.b...), 0x0b)
		case api.OpIf:
			l, b = append(l, p.x, api.Instr{Op: api.OpElse}, api.Instr{Op: api.OpEnd}), append(append(b, p.b...), 0x05, 0x0b)
		default:
			l, b = append(l, p.x), append(b, p.b...)
		}
	}
	b = append(b, 0x0b)
	checkAppendExpr(t, l, b)
	for _, tail := range tails() {
		checkTakeExpr(t, slices.Concat(b, tail), l, len(b), api.OK)
	}
	for n := range len(b) {
		checkTakeExpr(t, b[:n], nil, 0, api.ErrBin)
	}
}

// P4.4, P4.5: all lists of some blocks, marks and others, held against the model; what is appended is taken as it was.
func TestAppendExprAll(t *testing.T) {
	pieces := []api.Instr{{Op: api.OpBlock, A: 0x40}, {Op: api.OpLoop, A: 0x7f}, {Op: api.OpIf, A: 0x7e}, {Op: api.OpElse}, {Op: api.OpEnd}, {Op: api.OpI32Const, C: 11}, {Op: api.OpBlock}}
	appended := 0
	sequences(pieces, 6, func(l []api.Instr) {
		want, ok := modelAppendExpr(l)
		checkAppendExpr(t, l, want)
		if ok {
			appended++
			checkTakeExpr(t, append(want, 0x05, 0x43), l, len(want), api.OK)
		}
	})
	if appended == 0 {
		t.Error("none is an expression")
	}
}

// P4.4: ends that are missing or too many, an else elsewhere than in an if, and an instruction that may not be.
func TestAppendExprWrong(t *testing.T) {
	block, loop, when := api.Instr{Op: api.OpBlock, A: 0x40}, api.Instr{Op: api.OpLoop, A: 0x40}, api.Instr{Op: api.OpIf, A: 0x40}
	other, end, nop := api.Instr{Op: api.OpElse}, api.Instr{Op: api.OpEnd}, api.Instr{Op: api.OpNop}
	for _, l := range [][]api.Instr{
		{end}, {nop, end}, {block, end, end}, {end, block}, {end, block, end}, {when, other, end, end},
		{block}, {when}, {when, other}, {block, block, end}, {block, when, other, end},
		{other}, {other, end}, {block, other, end}, {loop, other, end}, {when, other, other, end}, {when, end, other}, {when, block, other, end, end},
		{nop, {Op: 0xc0}}, {nop, {Op: 0x43}}, {{Op: api.OpNop, A: 1}}, {{Op: api.OpIf}, end}, {when, {Op: api.OpElse, A: 1}, end}, {when, {Op: api.OpEnd, A: 0x40}},
	} {
		checkAppendExpr(t, l, nil)
	}
	checkAppendExpr(t, nil, []byte{0x0b})
	checkAppendExpr(t, []api.Instr{}, []byte{0x0b})
	checkAppendExpr(t, []api.Instr{when, when, other, end, other, nop, end}, []byte{4, 0x40, 4, 0x40, 5, 0x0b, 5, 1, 0x0b, 0x0b})
}

// P4.3, P4.5: bytes of all kinds; what is taken may be appended, in as many bytes at most, and is taken as the same.
func TestTakeExprMixed(t *testing.T) {
	taken := 0
	mixed(func(b []byte) {
		checkTakeExprModel(t, b)
		l, n, e := instr.TakeExpr(b)
		if e != api.OK {
			return
		}
		taken++
		again, e := instr.AppendExpr(nil, l)
		if e != api.OK || len(again) > n {
			t.Fatalf("% x is appended as % x, %d", b[:n], again, e)
		}
		checkTakeExpr(t, slices.Concat(again, b), l, len(again), api.OK)
	})
	if taken < 1000 {
		t.Errorf("of the mixed bytes %d were an expression's", taken)
	}
}

// R3, R5: no two lists of one answer share memory with one another, with another answer, or with what was handed in.
func TestTakeExprOwnLists(t *testing.T) {
	b := []byte{0x0e, 1, 3, 0, 0x0e, 2, 4, 5, 0, 0x0b}
	l, _, _ := instr.TakeExpr(b)
	m, _, _ := instr.TakeExpr(b)
	for i := range b {
		b[i] = 0xee
	}
	_ = append(l[0].L, 77, 78, 79)
	l[1].L[0] = 99
	want := []api.Instr{{Op: api.OpBrTable, L: []uint32{3}}, {Op: api.OpBrTable, L: []uint32{4, 5}}}
	if !sameAll(m, want) || !slices.Equal(l[0].L, []uint32{3}) || !slices.Equal(l[1].L, []uint32{99, 5}) {
		t.Errorf("now %v, %v", l, m)
	}
}

// R1: blocks in one another far deeper than calls could be, and lists so long that copying what is there for each of them would not end in time.
func TestLongExpr(t *testing.T) {
	const deep = 1 << 20
	b := bytes.Repeat([]byte{0x02, 0x40}, deep)
	checkTooShort := func() {
		if l, n, e := instr.TakeExpr(b); len(l) != 0 || n != 0 || e != api.ErrBin {
			t.Errorf("%d, %d, %d", len(l), n, e)
		}
	}
	checkTooShort()
	b = append(b, bytes.Repeat([]byte{0x0b}, deep)...)
	checkTooShort()
	l, n, e := instr.TakeExpr(append(b, 0x0b))
	if len(l) != 2*deep || n != 3*deep+1 || e != api.OK {
		t.Errorf("%d, %d, %d", len(l), n, e)
	}
	again, e := instr.AppendExpr(nil, l)
	if !bytes.Equal(again, append(b, 0x0b)) || e != api.OK {
		t.Errorf("%d bytes, %d", len(again), e)
	}
}
