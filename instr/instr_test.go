package instr_test

import (
	"bytes"
	"math"
	"slices"
	"testing"

	"gabelle/api"
	"gabelle/instr"
)

func same(x, y api.Instr) bool {
	return x.Op == y.Op && x.A == y.A && x.B == y.B && x.C == y.C && slices.Equal(x.L, y.L)
}

func sameAll(l, m []api.Instr) bool { return slices.EqualFunc(l, m, same) }

func checkTake(t *testing.T, b []byte, want api.Instr, n int, e api.Errno) {
	t.Helper()
	if got, gotN, gotE := instr.Take(b); !same(got, want) || gotN != n || gotE != e {
		t.Fatalf("Take(% x) = %v, %d, %d, want %v, %d, %d", b, got, gotN, gotE, want, n, e)
	}
}

func checkTakeExpr(t *testing.T, b []byte, want []api.Instr, n int, e api.Errno) {
	t.Helper()
	if got, gotN, gotE := instr.TakeExpr(b); !sameAll(got, want) || gotN != n || gotE != e {
		t.Fatalf("TakeExpr(% x) = %v, %d, %d, want %v, %d, %d", b, got, gotN, gotE, want, n, e)
	}
}

// checkAppend: want nil is an instruction that may not be.
func checkAppend(t *testing.T, x api.Instr, want []byte) {
	t.Helper()
	got, e := instr.Append(nil, x)
	if want == nil && (e != api.ErrArg || len(got) > 0) || want != nil && (e != api.OK || !bytes.Equal(got, want)) {
		t.Fatalf("Append of %v = % x, %d, want % x", x, got, e, want)
	}
}

func checkAppendExpr(t *testing.T, l []api.Instr, want []byte) {
	t.Helper()
	got, e := instr.AppendExpr(nil, l)
	if want == nil && (e != api.ErrArg || len(got) > 0) || want != nil && (e != api.OK || !bytes.Equal(got, want)) {
		t.Fatalf("AppendExpr of %v = % x, %d, want % x", l, got, e, want)
	}
}

func checkTakeModel(t *testing.T, b []byte) {
	t.Helper()
	x, n, e := modelTake(b)
	checkTake(t, b, x, n, e)
}

func checkTakeExprModel(t *testing.T, b []byte) {
	t.Helper()
	l, n, e := modelTakeExpr(b)
	checkTakeExpr(t, b, l, n, e)
}

// pair is an instruction and its bytes, written out by hand.
type pair struct {
	x api.Instr
	b []byte
}

// pairs are of each form, with its edges; numbers in the fewest bytes.
func pairs() []pair {
	const most = math.MaxUint32
	mostBytes := []byte{0xff, 0xff, 0xff, 0xff, 0x0f}
	behind := func(op byte, l ...[]byte) []byte { return slices.Concat(append([][]byte{{op}}, l...)...) }
	return []pair{
		{api.Instr{Op: api.OpUnreachable}, []byte{0x00}},
		{api.Instr{Op: api.OpNop}, []byte{0x01}},
		{api.Instr{Op: api.OpElse}, []byte{0x05}},
		{api.Instr{Op: api.OpEnd}, []byte{0x0b}},
		{api.Instr{Op: 0x6a}, []byte{0x6a}},
		{api.Instr{Op: api.OpI64ExtendU}, []byte{0xad}},
		{api.Instr{Op: api.OpBlock, A: 0x40}, []byte{0x02, 0x40}},
		{api.Instr{Op: api.OpLoop, A: 0x7f}, []byte{0x03, 0x7f}},
		{api.Instr{Op: api.OpIf, A: 0x7e}, []byte{0x04, 0x7e}},
		{api.Instr{Op: api.OpBr}, []byte{0x0c, 0}},
		{api.Instr{Op: api.OpBrIf, A: 128}, []byte{0x0d, 0x80, 1}},
		{api.Instr{Op: api.OpCall, A: most}, behind(0x10, mostBytes)},
		{api.Instr{Op: api.OpGlobalSet, A: 127}, []byte{0x24, 0x7f}},
		{api.Instr{Op: api.OpBrTable}, []byte{0x0e, 0, 0}},
		{api.Instr{Op: api.OpBrTable, A: 5}, []byte{0x0e, 0, 5}},
		{api.Instr{Op: api.OpBrTable, L: []uint32{0}}, []byte{0x0e, 1, 0, 0}},
		{api.Instr{Op: api.OpBrTable, L: []uint32{most, 3}, A: most}, behind(0x0e, []byte{2}, mostBytes, []byte{3}, mostBytes)},
		{api.Instr{Op: api.OpBrTable, L: make([]uint32, 200), A: 1}, behind(0x0e, []byte{0xc8, 1}, make([]byte, 200), []byte{1})},
		{api.Instr{Op: api.OpCallIndirect}, []byte{0x11, 0, 0}},
		{api.Instr{Op: api.OpCallIndirect, A: most}, behind(0x11, mostBytes, []byte{0})},
		{api.Instr{Op: 0x28}, []byte{0x28, 0, 0}},
		{api.Instr{Op: 0x37, A: 3}, []byte{0x37, 3, 0}},
		{api.Instr{Op: 0x3e, B: 300}, []byte{0x3e, 0, 0xac, 2}},
		{api.Instr{Op: 0x35, A: most, B: most}, behind(0x35, mostBytes, mostBytes)},
		{api.Instr{Op: api.OpMemSize}, []byte{0x3f, 0}},
		{api.Instr{Op: api.OpMemGrow}, []byte{0x40, 0}},
		{api.Instr{Op: api.OpI32Const}, []byte{0x41, 0}},
		{api.Instr{Op: api.OpI32Const, C: -64}, []byte{0x41, 0x40}},
		{api.Instr{Op: api.OpI32Const, C: 64}, []byte{0x41, 0xc0, 0}},
		{api.Instr{Op: api.OpI32Const, C: math.MaxInt32}, []byte{0x41, 0xff, 0xff, 0xff, 0xff, 0x07}},
		{api.Instr{Op: api.OpI32Const, C: math.MinInt32}, []byte{0x41, 0x80, 0x80, 0x80, 0x80, 0x78}},
		{api.Instr{Op: api.OpI64Const, C: -1}, []byte{0x42, 0x7f}},
		{api.Instr{Op: api.OpI64Const, C: math.MaxInt32 + 1}, []byte{0x42, 0x80, 0x80, 0x80, 0x80, 0x08}},
		{api.Instr{Op: api.OpI64Const, C: math.MaxInt64}, append(behind(0x42, bytes.Repeat([]byte{0xff}, 9)), 0)},
		{api.Instr{Op: api.OpI64Const, C: math.MinInt64}, append(behind(0x42, bytes.Repeat([]byte{0x80}, 9)), 0x7f)},
	}
}

func TestExamples(t *testing.T) {
	checkTake(t, []byte{0x41, 0x7f}, api.Instr{Op: api.OpI32Const, C: -1}, 2, api.OK)
	checkTake(t, []byte{0x28, 0x02, 0x10}, api.Instr{Op: 0x28, A: 2, B: 16}, 3, api.OK)
	checkTake(t, []byte{0x0e, 0x02, 0x00, 0x01, 0x02}, api.Instr{Op: api.OpBrTable, L: []uint32{0, 1}, A: 2}, 5, api.OK)
	checkTake(t, []byte{0x11, 0x03, 0x00}, api.Instr{Op: api.OpCallIndirect, A: 3}, 3, api.OK)

	checkTake(t, []byte{0x02, 0x7d}, api.Instr{}, 0, api.ErrFloat)
	checkTake(t, []byte{0x43}, api.Instr{}, 0, api.ErrFloat)
	checkTake(t, []byte{0xc0}, api.Instr{}, 0, api.ErrBin)
	checkTake(t, []byte{0x3f, 0x01}, api.Instr{}, 0, api.ErrBin)
	checkTake(t, nil, api.Instr{}, 0, api.ErrBin)
	checkTake(t, []byte{}, api.Instr{}, 0, api.ErrBin)

	l := []api.Instr{{Op: api.OpBlock, A: 0x40}, {Op: api.OpNop}, {Op: api.OpEnd}}
	checkTakeExpr(t, []byte{0x02, 0x40, 0x01, 0x0b, 0x0b, 0x01}, l, 5, api.OK)
	checkTakeExpr(t, []byte{0x05, 0x0b}, nil, 0, api.ErrBin)
	checkTakeExpr(t, []byte{0x01}, nil, 0, api.ErrBin)
}

// tails are what may stand behind an instruction.
func tails() [][]byte {
	return [][]byte{nil, {0}, {0x0b}, {0x7f}, {0x80}, {0xff, 0xff}, {0x43}, {0xc0}}
}

// P4.1, P4.2, P4.5: each form there and back, whatever stands behind.
func TestThereAndBack(t *testing.T) {
	for _, p := range pairs() {
		checkAppend(t, p.x, p.b)
		for _, tail := range tails() {
			checkTake(t, slices.Concat(p.b, tail), p.x, len(p.b), api.OK)
		}
	}
}

// P4.1, P4.2: all opcodes that are known, and nothing but their form's behind them.
func TestAllKnown(t *testing.T) {
	behind := map[string][]byte{none: {}, blockType: {0x7e}, number: {9}, labels: {1, 7, 9}, indirect: {9, 0}, access: {9, 8}, zero: {0}, constant: {0x77}, long: {0x77}}
	if n := len(known()); n != 104 {
		t.Fatalf("%d opcodes are known", n)
	}
	for _, op := range known() {
		pieces, _ := form(op)
		b := append([]byte{op}, behind[pieces]...)
		x, n, e := instr.Take(append(bytes.Clone(b), 0xee))
		if x.Op != op || n != len(b) || e != api.OK {
			t.Errorf("Take(% x) = %v, %d, %d", b, x, n, e)
		}
		checkAppend(t, x, b)
	}
}

// P4.1: all opcodes with all bytes behind them, held against the model.
func TestTakeAllOpcodes(t *testing.T) {
	for op := range 256 {
		checkTakeModel(t, []byte{byte(op)})
		for second := range 256 {
			checkTakeModel(t, []byte{byte(op), byte(second)})
			checkTakeModel(t, []byte{byte(op), byte(second), 0, 0, 0, 0})
			checkTakeModel(t, []byte{byte(op), 1, byte(second), 1, 0, 0})
			checkTakeModel(t, []byte{byte(op), 0x80, 0, byte(second)})
		}
	}
}

// P4.1: opcodes of floats, whatever stands behind them, or nothing; and such as are none.
func TestTakeNoOpcode(t *testing.T) {
	for i := range 256 {
		op := byte(i)
		_, ok := form(op)
		if ok {
			continue
		}
		want := api.ErrBin
		if isFloat(op) {
			want = api.ErrFloat
		}
		for _, tail := range tails() {
			checkTake(t, append([]byte{op}, tail...), api.Instr{}, 0, want)
		}
	}
}

// P4.1: of a block's types three are taken, two are of floats, and 7f is no number of one byte.
func TestTakeBlockTypes(t *testing.T) {
	for _, op := range []uint8{api.OpBlock, api.OpLoop, api.OpIf} {
		for i := range 256 {
			b := []byte{op, byte(i), 0, 0}
			switch byte(i) {
			case 0x40, 0x7f, 0x7e:
				checkTake(t, b, api.Instr{Op: op, A: uint32(i)}, 2, api.OK)
			case 0x7d, 0x7c:
				checkTake(t, b, api.Instr{}, 0, api.ErrFloat)
			default:
				checkTake(t, b, api.Instr{}, 0, api.ErrBin)
			}
		}
		checkTake(t, []byte{op, 0xc0, 0x00}, api.Instr{}, 0, api.ErrBin)
		checkTake(t, []byte{op, 0xff, 0x7f}, api.Instr{}, 0, api.ErrBin)
	}
}

// P4.1: bytes that end too early begin with no instruction.
func TestTakeEndsEarly(t *testing.T) {
	for _, p := range pairs() {
		for n := range len(p.b) {
			checkTake(t, p.b[:n], api.Instr{}, 0, api.ErrBin)
		}
	}
}

// P4.1, P4.5: numbers in more bytes than they need are taken, and appended in the fewest.
func TestTakeMoreBytesThanNeeded(t *testing.T) {
	for _, x := range []struct {
		b    []byte
		want api.Instr
	}{
		{[]byte{0x0c, 0x80, 0x80, 0x80, 0x80, 0x00}, api.Instr{Op: api.OpBr}},
		{[]byte{0x20, 0x83, 0x00}, api.Instr{Op: api.OpLocalGet, A: 3}},
		{[]byte{0x11, 0x83, 0x80, 0x00, 0x00}, api.Instr{Op: api.OpCallIndirect, A: 3}},
		{[]byte{0x28, 0x82, 0x00, 0x90, 0x80, 0x00}, api.Instr{Op: 0x28, A: 2, B: 16}},
		{[]byte{0x0e, 0x82, 0x00, 0x81, 0x00, 0x85, 0x80, 0x00, 0x84, 0x00}, api.Instr{Op: api.OpBrTable, L: []uint32{1, 5}, A: 4}},
		{[]byte{0x0e, 0x80, 0x80, 0x00, 0x84, 0x00}, api.Instr{Op: api.OpBrTable, A: 4}},
		{[]byte{0x41, 0xff, 0xff, 0xff, 0xff, 0x7f}, api.Instr{Op: api.OpI32Const, C: -1}},
		{[]byte{0x42, 0xff, 0xff, 0xff, 0xff, 0xff, 0x7f}, api.Instr{Op: api.OpI64Const, C: -1}},
	} {
		checkTake(t, x.b, x.want, len(x.b), api.OK)
		want, ok := modelAppend(x.want)
		if !ok || len(want) >= len(x.b) {
			t.Fatalf("% x is not in more bytes", x.b)
		}
		checkAppend(t, x.want, want)
	}
}

// P4.1: numbers of more bits than they may have, and bytes that are not 0.
func TestTakeWrongNumbers(t *testing.T) {
	tooMuch := []byte{0xff, 0xff, 0xff, 0xff, 0x1f}
	tooMany := []byte{0x80, 0x80, 0x80, 0x80, 0x80, 0x00}
	for _, n := range [][]byte{tooMuch, tooMany} {
		for _, ahead := range [][]byte{{0x0c}, {0x0d}, {0x10}, {0x20}, {0x24}, {0x0e}, {0x0e, 0}, {0x0e, 1}, {0x0e, 1, 0}, {0x11}, {0x28}, {0x28, 0}, {0x37}, {0x41}} {
			checkTake(t, slices.Concat(ahead, n, make([]byte, 8)), api.Instr{}, 0, api.ErrBin)
		}
	}
	for _, b := range [][]byte{
		{0x41, 0xff, 0xff, 0xff, 0xff, 0x0f},
		{0x41, 0x80, 0x80, 0x80, 0x80, 0x08},
		{0x41, 0xff, 0xff, 0xff, 0xff, 0x77},
		{0x42, 0xff, 0xff, 0xff, 0xff, 0xff, 0xff, 0xff, 0xff, 0xff, 0x01},
		{0x42, 0x80, 0x80, 0x80, 0x80, 0x80, 0x80, 0x80, 0x80, 0x80, 0x80, 0x00},
		{0x3f, 0x80, 0x00}, {0x40, 0x80, 0x00}, {0x40, 0x01}, {0x3f, 0xff},
		{0x11, 0x03, 0x01}, {0x11, 0x03, 0x80, 0x00}, {0x11, 0x03, 0x70},
	} {
		checkTake(t, b, api.Instr{}, 0, api.ErrBin)
	}
}

// P4.1, R1: more labels than there are bytes for are told at once, without room for them.
func TestTakeManyLabels(t *testing.T) {
	for _, b := range [][]byte{
		{0x0e, 0xff, 0xff, 0xff, 0xff, 0x0f},
		{0x0e, 0xff, 0xff, 0xff, 0xff, 0x0f, 1, 2, 3},
		{0x0e, 0x80, 0x80, 0x80, 0x80, 0x08, 0},
		{0x0e, 3, 0, 0, 0},
	} {
		if allocated := testing.AllocsPerRun(1, func() { instr.Take(b) }); allocated > 100 {
			t.Errorf("Take(% x) makes %v things", b, allocated)
		}
		checkTake(t, b, api.Instr{}, 0, api.ErrBin)
	}
	checkTake(t, []byte{0x0e, 3, 0, 0, 0, 0}, api.Instr{Op: api.OpBrTable, L: []uint32{0, 0, 0}}, 6, api.OK)
}

// P4.2: whatever one field more or another one makes of an instruction of each opcode, held against the model.
func TestAppendWhatMayNotBe(t *testing.T) {
	for i := range 256 {
		op := uint8(i)
		for _, a := range []uint32{0, 1, 0x3f, 0x40, 0x41, 0x7b, 0x7c, 0x7d, 0x7e, 0x7f, 0x80, 0x140, 0x17f, 0x7f00, 1<<24 | 0x7e, math.MaxUint32} {
			for _, b := range []uint32{0, 1, 0x40, math.MaxUint32} {
				for _, c := range []int64{0, 1, -1, math.MaxInt32, math.MaxInt32 + 1, math.MinInt32, math.MinInt32 - 1, math.MaxUint32, math.MaxInt64, math.MinInt64, 1 << 32} {
					for _, l := range [][]uint32{nil, {}, {0}, {1, math.MaxUint32}} {
						x := api.Instr{Op: op, A: a, B: b, C: c, L: l}
						want, _ := modelAppend(x)
						checkAppend(t, x, want)
					}
				}
			}
		}
	}
}

// P4.2: something that its form has not, each by itself; and a constant of 32 bits that is none.
func TestAppendWrong(t *testing.T) {
	for _, x := range []api.Instr{
		{Op: api.OpNop, A: 1}, {Op: api.OpNop, B: 1}, {Op: api.OpNop, C: 1}, {Op: api.OpNop, L: []uint32{0}},
		{Op: api.OpElse, A: 1}, {Op: api.OpEnd, A: 0x40},
		{Op: api.OpBlock}, {Op: api.OpBlock, A: 0x7d}, {Op: api.OpIf, A: 0x7c}, {Op: api.OpLoop, A: 0x140}, {Op: api.OpBlock, A: 0x40, B: 1},
		{Op: api.OpBr, B: 1}, {Op: api.OpCall, C: 1}, {Op: api.OpLocalGet, L: []uint32{1}},
		{Op: api.OpBrTable, B: 1}, {Op: api.OpBrTable, C: -1},
		{Op: api.OpCallIndirect, B: 1}, {Op: api.OpMemSize, A: 1}, {Op: api.OpMemGrow, B: 1},
		{Op: 0x28, C: 1}, {Op: 0x37, L: []uint32{1}},
		{Op: api.OpI32Const, C: math.MaxInt32 + 1}, {Op: api.OpI32Const, C: math.MinInt32 - 1}, {Op: api.OpI32Const, C: math.MaxUint32}, {Op: api.OpI32Const, A: 1},
		{Op: api.OpI64Const, A: 1}, {Op: api.OpI64Const, L: []uint32{1}},
		{Op: 0x06}, {Op: 0x0a}, {Op: 0x12}, {Op: 0x1c}, {Op: 0x25}, {Op: 0x2a}, {Op: 0x39, A: 1}, {Op: 0x43}, {Op: 0x44}, {Op: 0x8b}, {Op: 0xbf}, {Op: 0xc0}, {Op: 0xff},
	} {
		checkAppend(t, x, nil)
		checkAppendExpr(t, []api.Instr{{Op: api.OpNop}, x}, nil)
	}
}

// P4.2, P4.4, R3: behind b, whatever b is and has room for; in bytes of their own.
func TestAppendOwnBytes(t *testing.T) {
	l := []api.Instr{{Op: api.OpBrTable, L: []uint32{300, 1}, A: 2}, {Op: api.OpBr, A: 1}}
	for what, add := range map[string]func([]byte) ([]byte, api.Errno){
		"Append":                func(b []byte) ([]byte, api.Errno) { return instr.Append(b, l[0]) },
		"Append of one byte":    func(b []byte) ([]byte, api.Errno) { return instr.Append(b, api.Instr{Op: api.OpNop}) },
		"AppendExpr":            func(b []byte) ([]byte, api.Errno) { return instr.AppendExpr(b, l) },
		"AppendExpr of nothing": func(b []byte) ([]byte, api.Errno) { return instr.AppendExpr(b, nil) },
	} {
		alone, _ := add(nil)
		room := bytes.Repeat([]byte{9}, 60)
		for _, b := range [][]byte{nil, {}, {0xff}, room[:0], room[:3], bytes.Repeat([]byte{7}, 1000)} {
			first, e := add(b)
			second, _ := add(b)
			want := slices.Concat(b, alone)
			if e != api.OK || !bytes.Equal(first, want) {
				t.Errorf("%s behind %d bytes: % x, %d, want % x", what, len(b), first, e, want)
			}
			for i := range first {
				first[i] = 0xee
			}
			if !bytes.Equal(second, want) || !bytes.Equal(room, bytes.Repeat([]byte{9}, 60)) {
				t.Errorf("%s shares bytes", what)
			}
		}
	}
	if !slices.Equal(l[0].L, []uint32{300, 1}) {
		t.Errorf("labels are now %v", l[0].L)
	}
}

// R3: what is taken has labels of its own, and what is taken from is as it was.
func TestTakeOwnLabels(t *testing.T) {
	b := []byte{0x0e, 2, 5, 6, 7, 0x0b}
	was := bytes.Clone(b)
	x, _, _ := instr.Take(b)
	y, _, _ := instr.Take(b)
	x.L[0] = 99
	b[2] = 88
	if !slices.Equal(y.L, []uint32{5, 6}) {
		t.Errorf("labels are now %v", y.L)
	}
	b[2] = 5
	instr.TakeExpr(b)
	if !bytes.Equal(b, was) {
		t.Errorf("now % x", b)
	}
}

// mixed are bytes made by a fixed rule: often of instructions, often not.
func mixed(each func(b []byte)) {
	state := uint64(7)
	next := func(n int) int {
		state = state*6364136223846793005 + 1442695040888963407
		return int(state>>33) % n
	}
	for range 200000 {
		b := make([]byte, next(24))
		for i := range b {
			if next(2) == 0 {
				b[i] = []byte{0x02, 0x04, 0x40, 0x05, 0x0b, 0x01, 0x41, 0x00, 0x0e, 0x7f, 0x80, 0x28, 0x3f, 0x42}[next(14)]
			} else {
				b[i] = byte(next(256))
			}
		}
		each(b)
	}
}

// P4.1, P4.5: bytes of all kinds; what is taken may be appended, in as many bytes at most, and is taken as the same.
func TestTakeMixed(t *testing.T) {
	mixed(func(b []byte) {
		checkTakeModel(t, b)
		x, n, e := instr.Take(b)
		if e != api.OK {
			return
		}
		again, e := instr.Append(nil, x)
		if e != api.OK || len(again) > n {
			t.Fatalf("% x is appended as % x, %d", b[:n], again, e)
		}
		checkTake(t, slices.Concat(again, b), x, len(again), api.OK)
	})
}
