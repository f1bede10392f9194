package cost_test

import (
	"math"
	"reflect"
	"slices"
	"testing"

	"gabelle/api"
	"gabelle/cost"
	"gabelle/opc"
)

func checkOf(t *testing.T, x api.Instr, want uint64) {
	t.Helper()
	if got := cost.Of(x); got != want {
		t.Errorf("Of(%02x, A %d, B %d, C %d, %d of L) = %d, want %d", x.Op, x.A, x.B, x.C, len(x.L), got, want)
	}
}

func checkSum(t *testing.T, what string, l []api.Instr, want uint64) {
	t.Helper()
	if got := cost.Sum(l); got != want {
		t.Errorf("Sum of %s = %d, want %d", what, got, want)
	}
}

func TestExamples(t *testing.T) {
	for _, row := range []struct {
		name string
		cost uint64
	}{
		{"nop", 1}, {"i64.const", 1}, {"end", 0}, {"loop", 0},
		{"i64.rem_u", 5}, {"i32.mul", 2}, {"i64.store32", 3}, {"call", 8},
	} {
		code, ok := opc.Find(row.name)
		if !ok {
			t.Fatalf("no opcode: %q", row.name)
		}
		checkOf(t, op(code), row.cost)
	}
}

// P13.1: all opcodes, held against the chapter's words, and against what is written out by hand.
func TestOf(t *testing.T) {
	m := read(t)
	costs, known := rows(t)
	for i := range 256 {
		code := uint8(i)
		if opc.Known(code) != known[i] {
			t.Errorf("%02x: known, or not, otherwise than is written", code)
		}
		checkOf(t, op(code), m.of(code))
		checkOf(t, op(code), costs[i])
	}
}

// P13.1: each group of the words, opcode by opcode.
func TestGroups(t *testing.T) {
	for _, group := range []struct {
		cost uint64
		ops  []uint8
	}{
		{0, []uint8{api.OpBlock, api.OpLoop, api.OpElse, api.OpEnd}},
		{2, []uint8{api.OpBr, api.OpBrIf, api.OpIf, api.OpReturn}},
		{3, []uint8{api.OpBrTable}},
		{8, []uint8{api.OpCall}},
		{10, []uint8{api.OpCallIndirect}},
		{20, []uint8{api.OpMemGrow}},
		{2, []uint8{0x6c, api.OpI64Mul}},
		{5, []uint8{0x6d, 0x6e, 0x6f, 0x70, 0x7f, 0x80, 0x81, 0x82}},
		{1, []uint8{api.OpUnreachable, api.OpNop, api.OpDrop, api.OpSelect, api.OpLocalGet, api.OpLocalSet, api.OpLocalTee, api.OpGlobalGet, api.OpGlobalSet}},
		{1, []uint8{api.OpMemSize, api.OpI32Const, api.OpI64Const, 0x45, 0x5a, 0x6b, 0x71, 0x7d, 0x83, 0x8a, 0xa7, 0xac, api.OpI64ExtendU}},
	} {
		for _, code := range group.ops {
			checkOf(t, op(code), group.cost)
		}
	}
}

// P13.1: each access costs the same, of whatever width and type; and nothing else does but br_table.
func TestAccesses(t *testing.T) {
	accesses := 0
	for i := range 256 {
		code := uint8(i)
		access := opc.Form(code) == opc.FmAccess
		if access {
			accesses++
		}
		if three := cost.Of(op(code)) == 3; three != (access || code == api.OpBrTable) {
			t.Errorf("Of(%02x) = %d", code, cost.Of(op(code)))
		}
	}
	if accesses != 12+7 {
		t.Errorf("%d accesses", accesses)
	}
}

// P13.1: what is not known costs nothing, opcodes of floats among it; of what is known that is so of four alone.
func TestNotKnown(t *testing.T) {
	floats := 0
	for i := range 256 {
		code := uint8(i)
		free := slices.Contains([]uint8{api.OpBlock, api.OpLoop, api.OpElse, api.OpEnd}, code)
		if nothing := cost.Of(op(code)) == 0; nothing != (free || !opc.Known(code)) {
			t.Errorf("Of(%02x) = %d", code, cost.Of(op(code)))
		}
		if opc.Float(code) {
			floats++
			checkOf(t, op(code), 0)
			checkSum(t, "one of floats", []api.Instr{op(code)}, 0)
		}
	}
	if floats != 6+12+28+4+18 {
		t.Errorf("%d opcodes of floats", floats)
	}
	for _, code := range []uint8{0x06, 0x0a, 0x12, 0x19, 0x1c, 0x1f, 0x25, 0x27, 0xc0, 0xfc, 0xff} {
		checkOf(t, op(code), 0)
	}
}

// P13.1: an instruction's other parts are nothing to its cost, whether its form has them or not.
func TestOtherParts(t *testing.T) {
	costs, _ := rows(t)
	long := make([]uint32, 1<<17)
	for i := range long {
		long[i] = math.MaxUint32 - uint32(i)
	}
	numbers := []uint32{0, 1, uint32(api.BlockNone), uint32(api.I32), uint32(api.F32), 256, 65536, math.MaxInt32, 1 << 31, math.MaxUint32}
	constants := []int64{0, 1, -1, 20, math.MaxInt32, math.MinInt32, 1 << 32, math.MaxInt64, math.MinInt64}
	lists := [][]uint32{nil, {}, {0}, {math.MaxUint32}, long[:256], long[:257], long}
	for i, want := range costs {
		for _, a := range numbers {
			for _, b := range numbers {
				for _, c := range constants {
					for _, l := range lists {
						checkOf(t, api.Instr{Op: uint8(i), A: a, B: b, C: c, L: l}, want)
					}
				}
			}
		}
		x := api.Instr{Op: uint8(i), A: math.MaxUint32, B: math.MaxUint32, C: math.MinInt64, L: long}
		checkSum(t, "one with other parts", []api.Instr{x, x, x}, 3*want)
	}
}

// P13.1: of no list, a nil one, and one behind whose end something stands.
func TestSumOfNone(t *testing.T) {
	checkSum(t, "nil", nil, 0)
	checkSum(t, "nothing", []api.Instr{}, 0)
	checkSum(t, "nothing, with room", make([]api.Instr, 0, 9), 0)
	checkSum(t, "what stands ahead of the rest", every()[:0], 0)
	checkSum(t, "what stands behind all", every()[256:], 0)
	checkSum(t, "what costs nothing", ops(api.OpBlock, api.OpLoop, api.OpElse, api.OpEnd, 0x06, 0x2a, 0xff), 0)
}

// P13.1: of one of each opcode, of some of it, and of all in one list.
func TestSumOfEach(t *testing.T) {
	costs, _ := rows(t)
	all := every()
	for i, want := range costs {
		checkSum(t, "one", []api.Instr{op(uint8(i))}, want)
		checkSum(t, "one of many", all[i:i+1], want)
		for _, n := range []int{2, 3, 127, 128, 255, 256, 257} {
			checkSum(t, "some", slices.Repeat([]api.Instr{op(uint8(i))}, n), uint64(n)*want)
		}
	}
	// Four cost 2, one each 3, 8, 10 and 20, nineteen accesses 3, two 2, eight 5, four nothing; 104 are known.
	const want = 4*2 + 3 + 8 + 10 + 20 + 19*3 + 2*2 + 8*5 + (104 - 4 - 4 - 19 - 2 - 8 - 4)
	checkSum(t, "all", all, want)
	slices.Reverse(all)
	checkSum(t, "all, from the last one on", all, want)
	checkSum(t, "all, three times", slices.Repeat(all, 3), 3*want)
}

// P13.1: what is not known, or is no expression, takes nothing from what stands beside it.
func TestSumAmong(t *testing.T) {
	checkSum(t, "ends and elses without a block", ops(api.OpEnd, api.OpNop, api.OpElse, api.OpEnd, api.OpNop), 2)
	checkSum(t, "blocks that stay open", ops(api.OpBlock, api.OpLoop, api.OpIf, api.OpCall), 10)
	checkSum(t, "behind what never ends", ops(api.OpUnreachable, api.OpReturn, api.OpBr, api.OpMemGrow), 25)
	checkSum(t, "the first is not known", ops(0xff, api.OpCall), 8)
	checkSum(t, "the last is of floats", ops(api.OpCall, 0xa0), 8)
	checkSum(t, "one between is not known", ops(api.OpCall, 0x12, api.OpCallIndirect), 18)
	checkSum(t, "const, if, end", ops(api.OpI32Const, api.OpIf, api.OpEnd), 3)
}

// P13.1: of more than 16 bits count, and of sums of more than that, each one is counted.
func TestSumOfMany(t *testing.T) {
	for _, n := range []int{1<<16 - 1, 1 << 16, 1<<16 + 1, 1 << 20} {
		dearest := slices.Repeat(ops(api.OpMemGrow), n)
		checkSum(t, "many of the dearest", dearest, 20*uint64(n))
		checkSum(t, "those, and one more", append(dearest, op(api.OpNop)), 20*uint64(n)+1)
		checkSum(t, "many of the cheapest", slices.Repeat(ops(api.OpNop), n), uint64(n))
		checkSum(t, "many that cost nothing", slices.Repeat(ops(api.OpEnd), n), 0)
		checkSum(t, "those, and one that costs", append(slices.Repeat(ops(api.OpEnd), n), op(api.OpCall)), 8)
	}
}

// number is a small one as often as a great one.
func number(r *random) uint32 {
	if r.next(2) > 0 {
		return uint32(r.next(300))
	}
	return math.MaxUint32 - uint32(r.next(1<<31))
}

// mixed is a list of some length, of whatever opcodes and other parts.
func mixed(r *random, n int) []api.Instr {
	out := make([]api.Instr, n)
	for i := range out {
		c := int64(number(r)) - int64(number(r))<<31
		out[i] = api.Instr{Op: uint8(r.next(256)), A: number(r), B: number(r), C: c, L: make([]uint32, r.next(4))}
	}
	return out
}

// P13.1: lists of whatever, held against the model; in whichever order they stand, they cost the same.
func TestMixed(t *testing.T) {
	m := read(t)
	var r random = 13
	for range 3000 {
		l := mixed(&r, r.next(300))
		want := m.sum(l)
		checkSum(t, "a mixed list", l, want)
		for i := range l {
			j := i + r.next(len(l)-i)
			l[i], l[j] = l[j], l[i]
		}
		checkSum(t, "a mixed list in another order", l, want)
	}
}

// checkBoth holds two lists, one behind the other, against both.
func checkBoth(t *testing.T, a, b []api.Instr) {
	t.Helper()
	checkSum(t, "two lists", slices.Concat(a, b), cost.Sum(a)+cost.Sum(b))
	checkSum(t, "two lists, the other way round", slices.Concat(b, a), cost.Sum(a)+cost.Sum(b))
}

// P13.2: two lists, of one opcode each, whichever they are.
func TestOneBehindTheOther(t *testing.T) {
	all := every()
	costs, _ := rows(t)
	for i := range all {
		for j := range all {
			checkBoth(t, all[i:i+1], all[j:j+1])
			checkSum(t, "two", []api.Instr{all[i], all[j]}, costs[i]+costs[j])
		}
	}
}

// P13.2: where one list is empty, or nil, or both are.
func TestBehindNothing(t *testing.T) {
	var r random = 14
	for _, none := range [][]api.Instr{nil, {}, every()[:0]} {
		checkBoth(t, none, nil)
		checkBoth(t, none, []api.Instr{})
		checkBoth(t, none, every())
		for i := range 256 {
			checkBoth(t, none, ops(uint8(i)))
		}
		for range 100 {
			l := mixed(&r, r.next(50))
			checkBoth(t, none, l)
			checkSum(t, "a list, and nothing behind it", slices.Concat(l, none), cost.Sum(l))
		}
	}
}

// P13.2: a list that is cut anywhere costs what its two parts do, each one in its place; and so do lists of many.
func TestCut(t *testing.T) {
	m := read(t)
	var r random = 15
	for _, l := range [][]api.Instr{every(), mixed(&r, 1), mixed(&r, 2), mixed(&r, 500)} {
		want := m.sum(l)
		for at := range len(l) + 1 {
			if got := cost.Sum(l[:at]) + cost.Sum(l[at:]); got != want {
				t.Errorf("cut at %d: %d, want %d", at, got, want)
			}
			checkBoth(t, l[:at], l[at:])
		}
	}
	many := slices.Repeat(ops(api.OpMemGrow), 1<<16+1)
	checkBoth(t, many, many)
	checkBoth(t, many, slices.Repeat(ops(api.OpEnd), 1<<16+1))
	for range 1000 {
		checkBoth(t, mixed(&r, r.next(100)), mixed(&r, r.next(100)))
	}
}

// P13.2: what can go round costs something, whatever its label or number is, and a list with one does.
func TestGoesRound(t *testing.T) {
	var r random = 16
	for _, code := range []uint8{api.OpBr, api.OpBrIf, api.OpBrTable, api.OpCall} {
		for range 1000 {
			x := mixed(&r, 1)[0]
			x.Op = code
			if cost.Of(x) == 0 {
				t.Errorf("%s costs nothing: %v", opc.Name(code), x)
			}
			loop := []api.Instr{{Op: api.OpLoop, A: uint32(api.BlockNone)}, x, op(api.OpEnd)}
			if cost.Sum(loop) == 0 {
				t.Errorf("a loop with %s costs nothing", opc.Name(code))
			}
		}
	}
}

// copyOf is a list like that, in memory of its own, its lists of labels, too.
func copyOf(l []api.Instr) []api.Instr {
	out := slices.Clone(l)
	for i := range out {
		out[i].L = slices.Clone(out[i].L)
	}
	return out
}

// R3, R5: what is handed in is not changed, behind the lists' ends, too; asked again, and of another like it, it is the same.
func TestHandedIn(t *testing.T) {
	var r random = 17
	for range 1000 {
		whole := mixed(&r, 40)
		for i := range whole {
			labels := []uint32{uint32(r.next(9)), uint32(r.next(9)), uint32(r.next(9))}
			whole[i].L = labels[:r.next(3)]
		}
		was := copyOf(whole)
		rest := make([][]uint32, len(whole))
		for i, x := range whole {
			rest[i] = slices.Clone(x.L[:3])
		}
		from := r.next(20)
		part := whole[from : from+r.next(20)]
		sum, of := cost.Sum(part), cost.Of(whole[from])
		cost.Sum(whole)
		checkSum(t, "the same again", part, sum)
		checkSum(t, "another like it", copyOf(part), sum)
		checkOf(t, whole[from], of)
		if !reflect.DeepEqual(whole, was) {
			t.Fatal("what was handed in is otherwise")
		}
		for i, x := range whole {
			if !slices.Equal(x.L[:3], rest[i]) {
				t.Fatal("what stands behind the labels is otherwise")
			}
		}
	}
}

// R3, R5: nothing is kept of a list: what is changed in it is told when it is asked again.
func TestChangedBehind(t *testing.T) {
	costs, _ := rows(t)
	l := ops(api.OpNop, api.OpNop, api.OpNop)
	for i, want := range costs {
		l[1].Op = uint8(i)
		checkSum(t, "a list that was changed", l, 2+want)
		checkOf(t, l[1], want)
	}
	for i := range costs {
		l[1].Op = uint8(255 - i)
		checkSum(t, "a list that was changed back", l, 2+costs[255-i])
	}
}
