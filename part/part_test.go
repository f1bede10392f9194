package part_test

import (
	"math"
	"reflect"
	"slices"
	"testing"

	"gabelle/api"
	"gabelle/cost"
	"gabelle/opc"
	"gabelle/part"
)

// The chapter's examples.
func TestExamples(t *testing.T) {
	local, add := uint8(api.OpLocalGet), uint8(0x6a)
	check(t, "local.get, local.get, i32.add", ops(local, local, add), []part.Part{{At: 0, To: 3, Cost: 3}})
	check(t, "loop, nop, br_if, nop, end", ops(api.OpLoop, api.OpNop, api.OpBrIf, api.OpNop, api.OpEnd), []part.Part{{At: 1, To: 3, Cost: 3}, {At: 3, To: 5, Cost: 1}})
	check(t, "block, end, call, call", ops(api.OpBlock, api.OpEnd, api.OpCall, api.OpCall), []part.Part{{At: 2, To: 3, Cost: 8}, {At: 3, To: 4, Cost: 8}})
}

// P14.1: each opcode is held against the chapter's list, by its name and by its number.
func TestEnds(t *testing.T) {
	behind := cuts(t)
	told := 0
	for i := range 256 {
		code := uint8(i)
		got := part.Ends(code)
		if got != (behind[code] > 0) || got != slices.Contains(ends(), code) {
			t.Errorf("Ends(%02x) = %t: %q", code, got, opc.Name(code))
		}
		if got {
			told++
		}
		if got != part.Ends(code) {
			t.Errorf("Ends(%02x) is otherwise the second time", code)
		}
	}
	if told != 12 {
		t.Errorf("%d opcodes end a part", told)
	}
}

// P14.1: a block begins no part of its own, nor does what is not known, or of floats; memory.size is not memory.grow.
func TestEndsNot(t *testing.T) {
	for _, code := range []uint8{api.OpBlock, api.OpNop, api.OpDrop, api.OpSelect, api.OpMemSize, api.OpI32Const, 0x06, 0x0a, 0x12, 0x19, 0xc0, 0xfc, 0xff} {
		if part.Ends(code) {
			t.Errorf("Ends(%02x)", code)
		}
	}
	for i := range 256 {
		if code := uint8(i); part.Ends(code) && (!opc.Known(code) || opc.Float(code)) {
			t.Errorf("Ends(%02x): it is not known", code)
		}
	}
}

// P14.2: of no body, a nil one, and one behind whose end something stands.
func TestNone(t *testing.T) {
	check(t, "nil", nil, nil)
	check(t, "nothing", []api.Instr{}, nil)
	check(t, "nothing, with room", make([]api.Instr, 0, 9), nil)
	check(t, "what stands ahead of the rest", every()[:0], nil)
	check(t, "what stands behind all", every()[256:], nil)
	if part.All(nil) == nil || part.All([]api.Instr{}) == nil {
		t.Error("a nil iterator")
	}
}

// P14.2: one of each opcode alone is one part, if it costs something, else none.
func TestAlone(t *testing.T) {
	for i := range 256 {
		x := op(uint8(i))
		var want []part.Part
		if c := cost.Of(x); c > 0 {
			want = []part.Part{{At: 0, To: 1, Cost: c}}
		}
		check(t, "one alone", []api.Instr{x}, want)
		check(t, "one of many", every()[i:i+1], want)
	}
}

// two are the parts of a nop, or more of them, and of what is cut off behind it, where those cost something.
func two(at, to int, ahead uint64, end int, behind uint64) []part.Part {
	var out []part.Part
	if ahead > 0 {
		out = append(out, part.Part{At: at, To: to, Cost: ahead})
	}
	if behind > 0 {
		out = append(out, part.Part{At: to, To: end, Cost: behind})
	}
	return out
}

// P14.2: each opcode at a body's first place, in its middle, and at its last: what ends a part stands in it itself.
func TestPlaces(t *testing.T) {
	for i := range 256 {
		code := uint8(i)
		c := cost.Of(op(code))
		first, middle, last := ops(code, api.OpNop, api.OpDrop), ops(api.OpNop, code, api.OpDrop), ops(api.OpNop, api.OpDrop, code)
		if slices.Contains(ends(), code) {
			check(t, "first", first, two(0, 1, c, 3, 2))
			check(t, "in the middle", middle, two(0, 2, 1+c, 3, 1))
		} else {
			check(t, "first", first, two(0, 3, c+2, 3, 0))
			check(t, "in the middle", middle, two(0, 3, c+2, 3, 0))
		}
		check(t, "last", last, two(0, 3, c+2, 3, 0))
	}
}

// P14.2: two of each opcode, one behind the other, alone and with a nop between or around them.
func TestPairs(t *testing.T) {
	behind := cuts(t)
	for i := range 256 {
		for j := range 256 {
			a, b := uint8(i), uint8(j)
			for _, body := range [][]api.Instr{ops(a, b), ops(a, api.OpNop, b), ops(api.OpNop, a, b, api.OpNop)} {
				if got, want := part.Parts(body), model(behind, body); !slices.Equal(got, want) {
					t.Fatalf("%02x %02x: %v, want %v", a, b, got, want)
				}
			}
		}
	}
}

// P14.2: behind a last one that ends a part none is told; behind one that doesn't, the part goes to the body's end.
func TestLast(t *testing.T) {
	for _, code := range ends() {
		c := cost.Of(op(code))
		check(t, "a last one that ends a part", ops(api.OpCall, api.OpNop, code), []part.Part{{At: 0, To: 1, Cost: 8}, {At: 1, To: 3, Cost: 1 + c}})
		check(t, "and twice", ops(api.OpNop, code, code), two(0, 2, 1+c, 3, c))
	}
	for _, code := range stays() {
		c := cost.Of(op(code))
		check(t, "a last one that ends none", ops(api.OpCall, code, api.OpNop, code), []part.Part{{At: 0, To: 1, Cost: 8}, {At: 1, To: 4, Cost: 1 + 2*c}})
		check(t, "it alone in its part", ops(api.OpCall, code), two(0, 1, 8, 2, c))
	}
}

// P14.2: parts that cost nothing are left out, wherever they stand; what stands behind them begins where it does.
func TestFree(t *testing.T) {
	for _, body := range [][]api.Instr{
		ops(api.OpEnd), ops(api.OpBlock), ops(api.OpLoop), ops(api.OpElse), ops(0xff),
		ops(api.OpBlock, api.OpBlock, api.OpLoop, api.OpEnd, api.OpEnd, api.OpEnd),
		ops(api.OpElse, api.OpEnd, api.OpEnd, api.OpBlock), ops(0x06, 0x2a, 0xff, api.OpEnd, 0x12),
		slices.Repeat(ops(api.OpEnd), 1000),
	} {
		check(t, "nothing that costs", body, nil)
	}
	check(t, "at the beginning", ops(api.OpLoop, api.OpBlock, api.OpEnd, api.OpNop), []part.Part{{At: 3, To: 4, Cost: 1}})
	check(t, "between", ops(api.OpCall, api.OpBlock, api.OpEnd, api.OpLoop, api.OpNop, api.OpEnd), []part.Part{{At: 0, To: 1, Cost: 8}, {At: 4, To: 6, Cost: 1}})
	check(t, "at the end", ops(api.OpNop, api.OpReturn, api.OpElse, api.OpEnd, api.OpBlock), []part.Part{{At: 0, To: 2, Cost: 3}})
	check(t, "one of what is not known", ops(api.OpBr, 0xff, 0x2a, api.OpEnd, api.OpBr), []part.Part{{At: 0, To: 1, Cost: 2}, {At: 4, To: 5, Cost: 2}})
	check(t, "everywhere", ops(api.OpEnd, api.OpEnd, api.OpNop, api.OpElse, api.OpEnd, api.OpLoop, api.OpDrop, api.OpEnd, api.OpEnd),
		[]part.Part{{At: 2, To: 4, Cost: 1}, {At: 6, To: 8, Cost: 1}})
}

// P14.2: a part may begin, and end, with what costs nothing.
func TestFreeWithin(t *testing.T) {
	check(t, "a block ahead", ops(api.OpBlock, api.OpNop, api.OpEnd), []part.Part{{At: 0, To: 3, Cost: 1}})
	check(t, "blocks ahead", ops(api.OpCall, api.OpBlock, api.OpBlock, api.OpCall), []part.Part{{At: 0, To: 1, Cost: 8}, {At: 1, To: 4, Cost: 8}})
	check(t, "what is not known ahead", ops(0xff, 0x06, api.OpMemGrow), []part.Part{{At: 0, To: 3, Cost: 20}})
	check(t, "between", ops(api.OpNop, api.OpBlock, 0x2a, api.OpNop), []part.Part{{At: 0, To: 4, Cost: 2}})
	check(t, "a loop behind", ops(api.OpNop, api.OpLoop, api.OpNop), []part.Part{{At: 0, To: 2, Cost: 1}, {At: 2, To: 3, Cost: 1}})
	check(t, "a block behind", ops(api.OpEnd, api.OpNop, api.OpBlock), []part.Part{{At: 1, To: 3, Cost: 1}})
}

// P14.2: a body of each kind of part, worked out by hand.
func TestWritten(t *testing.T) {
	body := ops(
		api.OpLocalGet, api.OpBlock, api.OpIf,
		api.OpBlock, api.OpI64Const, 0x24, api.OpElse,
		api.OpLoop,
		0x28, 0x36, 0x6c, api.OpBrIf,
		api.OpEnd,
		api.OpEnd,
		0x80, api.OpCallIndirect,
		api.OpMemSize, api.OpMemGrow,
		api.OpBrTable,
		api.OpUnreachable,
		api.OpEnd,
		api.OpBr,
		api.OpReturn,
		0x42, 0x42)
	check(t, "written", body, []part.Part{
		{At: 0, To: 3, Cost: 3}, {At: 3, To: 7, Cost: 2}, {At: 8, To: 12, Cost: 10}, {At: 14, To: 16, Cost: 15}, {At: 16, To: 18, Cost: 21},
		{At: 18, To: 19, Cost: 3}, {At: 19, To: 20, Cost: 1}, {At: 21, To: 22, Cost: 2}, {At: 22, To: 23, Cost: 2}, {At: 23, To: 25, Cost: 2}})
}

// P14.2: of many: one long part, and many short ones; numbers are not cut off.
func TestMany(t *testing.T) {
	for _, n := range []int{255, 256, 257, 1<<16 - 1, 1 << 16, 1<<16 + 1, 1 << 18} {
		stores := slices.Repeat(ops(0x36), n)
		check(t, "one long part", stores, []part.Part{{At: 0, To: n, Cost: 3 * uint64(n)}})
		long := append(slices.Repeat(ops(api.OpEnd), n), append(stores, op(api.OpMemGrow), op(api.OpNop))...)
		check(t, "one that begins late", long, []part.Part{{At: n, To: 2*n + 1, Cost: 3*uint64(n) + 20}, {At: 2*n + 1, To: 2*n + 2, Cost: 1}})
		got := part.Parts(slices.Repeat(ops(api.OpNop, api.OpCall, api.OpEnd), n))
		if len(got) != n {
			t.Fatalf("%d parts of %d calls", len(got), n)
		}
		for i, p := range got {
			if want := (part.Part{At: 3 * i, To: 3*i + 2, Cost: 9}); p != want {
				t.Fatalf("part %d is %v, want %v", i, p, want)
			}
		}
	}
}

// P14.2: an instruction's other parts are nothing to where it is cut, nor to what it costs.
func TestOtherParts(t *testing.T) {
	long := make([]uint32, 1<<16)
	for _, other := range []api.Instr{
		{A: math.MaxUint32, B: math.MaxUint32, C: math.MinInt64, L: []uint32{}},
		{A: uint32(api.BlockNone), C: math.MaxInt64, L: long}, {A: 1 << 31, B: 3, C: -1, L: []uint32{math.MaxUint32, 0}},
	} {
		body := every()
		for i := range body {
			other.Op = body[i].Op
			body[i] = other
		}
		check(t, "with other parts", body, part.Parts(every()))
	}
}

// leave goes over the parts till that many are told.
func leave(body []api.Instr, n int) []part.Part {
	return leaveOf(part.All(body), n)
}

func leaveOf(all func(func(part.Part) bool), n int) []part.Part {
	var out []part.Part
	for p := range all {
		out = append(out, p)
		if len(out) == n {
			break
		}
	}
	return out
}

// P14.2: All may be left behind its first part, behind each other one, and never; what it told till then is the same.
func TestLeft(t *testing.T) {
	var r random = 14
	for range 200 {
		body := r.mixed(r.next(60))
		want := part.Parts(body)
		for n := 1; n <= len(want)+1; n++ {
			if got := leave(body, n); !slices.Equal(got, want[:min(n, len(want))]) {
				t.Errorf("left behind %d: %v, of %v", n, got, want)
			}
		}
	}
	// Nothing more is told to whoever said to have enough.
	for n := range 5 {
		asked := 0
		part.All(slices.Repeat(ops(api.OpCall), 5))(func(part.Part) bool { asked++; return asked <= n })
		if asked != n+1 {
			t.Errorf("asked %d times, want %d", asked, n+1)
		}
	}
}

// P14.2: All is gone over twice, anew after it was left, and within itself; each time from its beginning on.
func TestTwice(t *testing.T) {
	var r random = 15
	for range 200 {
		body := r.mixed(r.next(40))
		want := part.Parts(body)
		all := part.All(body)
		for n := range len(want) + 2 {
			leaveOf(all, n)
			if got := leaveOf(all, -1); !slices.Equal(got, want) {
				t.Errorf("anew, left behind %d: %v, want %v", n, got, want)
			}
		}
		for p := range all {
			for q := range all {
				if q == p {
					break
				}
				if q.To > p.At {
					t.Fatalf("%v is told ahead of %v", q, p)
				}
			}
			if got := leaveOf(all, -1); !slices.Equal(got, want) {
				t.Errorf("within itself: %v, want %v", got, want)
			}
		}
	}
}

// P14.2: two that are gone over by turns don't meet.
func TestTwoAtOnce(t *testing.T) {
	a, b := slices.Repeat(ops(api.OpCall), 9), slices.Repeat(ops(api.OpNop, api.OpEnd, api.OpEnd), 9)
	one, other := part.All(a), part.All(b)
	n := 0
	for p := range one {
		if p != (part.Part{At: n, To: n + 1, Cost: 8}) {
			t.Errorf("part %d of calls is %v", n, p)
		}
		m := 0
		for q := range other {
			if q != (part.Part{At: 3 * m, To: 3*m + 2, Cost: 1}) {
				t.Errorf("part %d of nops is %v", m, q)
			}
			m++
		}
		if m != 9 {
			t.Errorf("%d parts of nops", m)
		}
		n++
	}
	if n != 9 {
		t.Errorf("%d parts of calls", n)
	}
}

// P14.2: bodies of whatever, held against the model.
func TestMixed(t *testing.T) {
	behind := cuts(t)
	var r random = 16
	for range 3000 {
		body := r.mixed(r.next(200))
		check(t, "a mixed body", body, model(behind, body))
	}
	check(t, "one of each", every(), model(behind, every()))
}

// P14.3: parts together cost what the body does; they stand one behind the other; what is in none costs nothing; within one, but at its end, nothing ends a part; a part begins behind what ends one.
func TestFollows(t *testing.T) {
	var r random = 17
	bodies := [][]api.Instr{nil, every(), slices.Repeat(ops(api.OpBlock, api.OpNop, api.OpEnd), 1000)}
	for range 2000 {
		bodies = append(bodies, r.mixed(r.next(150)))
	}
	for _, body := range bodies {
		all, to := uint64(0), 0
		for p := range part.All(body) {
			if p.At < to || p.To <= p.At || p.To > len(body) || p.Cost == 0 {
				t.Fatalf("part %v of %d, behind %d", p, len(body), to)
			}
			if p.Cost != cost.Sum(body[p.At:p.To]) || cost.Sum(body[to:p.At]) != 0 {
				t.Errorf("part %v: what it has costs %d, what is ahead %d", p, cost.Sum(body[p.At:p.To]), cost.Sum(body[to:p.At]))
			}
			if p.At > 0 && !part.Ends(body[p.At-1].Op) || p.To < len(body) && !part.Ends(body[p.To-1].Op) {
				t.Errorf("part %v is not cut where it should be", p)
			}
			for _, x := range body[p.At : p.To-1] {
				if part.Ends(x.Op) {
					t.Errorf("part %v has %02x within", p, x.Op)
				}
			}
			all, to = all+p.Cost, p.To
		}
		if all != cost.Sum(body) || cost.Sum(body[to:]) != 0 {
			t.Errorf("parts cost %d, the body %d", all, cost.Sum(body))
		}
	}
}

// R3, R5: what is handed in is not changed, behind its end, too; asked again, and of another like it, it is the same.
func TestHandedIn(t *testing.T) {
	var r random = 18
	for range 1000 {
		rows := r.mixed(40)
		for i := range rows {
			rows[i].L = []uint32{uint32(r.next(9)), uint32(r.next(9))}[:r.next(3)]
		}
		was := slices.Clone(rows)
		for i := range was {
			was[i].L = slices.Clone(was[i].L)
		}
		from := r.next(20)
		body := rows[from : from+r.next(20)]
		want := part.Parts(body)
		leave(body, 2)
		check(t, "the same again", body, want)
		check(t, "another like it", slices.Clone(body), want)
		if !reflect.DeepEqual(rows, was) {
			t.Fatal("what was handed in is otherwise")
		}
	}
}

// R3: what is answered is its own: written into, or appended to, it changes neither the body nor a later answer.
func TestOwnMemory(t *testing.T) {
	var r random = 19
	for range 500 {
		body := r.mixed(r.next(50))
		was := slices.Clone(body)
		got := part.Parts(body)
		want := slices.Clone(got)
		got = append(got, part.Part{At: 1})
		for i := range got {
			got[i] = part.Part{At: -1, To: -1, Cost: math.MaxUint64}
		}
		for p := range part.All(body) {
			p.At, p.To, p.Cost = p.To, 0, 0
		}
		check(t, "behind an answer that was written into", body, want)
		if !reflect.DeepEqual(body, was) {
			t.Fatal("the body is otherwise")
		}
	}
}

// R3, R5: nothing is kept: what is changed in a body is told when it is asked again, and All that was made ahead goes over what it was handed.
func TestChangedBehind(t *testing.T) {
	behind := cuts(t)
	body := ops(api.OpNop, api.OpNop, api.OpNop)
	for i := range 256 {
		was := model(behind, body)
		all := part.All(body)
		body[1].Op = uint8(i)
		check(t, "a body that was changed", body, model(behind, body))
		if got := leaveOf(all, -1); !slices.Equal(got, was) {
			t.Errorf("All of what was handed in: %v, want %v", got, was)
		}
	}
	body = slices.Repeat(ops(api.OpCall), 4)
	want := part.Parts(body)
	var got []part.Part
	for p := range part.All(body) {
		got = append(got, p)
		for i := range body {
			body[i].Op = api.OpEnd
		}
	}
	if !slices.Equal(got, want) {
		t.Errorf("written into on the way: %v, want %v", got, want)
	}
}
