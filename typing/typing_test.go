package typing_test

import (
	"reflect"
	"runtime"
	"slices"
	"testing"

	"gabelle/api"
	"gabelle/typing"
)

func TestExamples(t *testing.T) {
	s := typing.New(i32)
	s.Push(i32, i64)
	checkWant(t, s, true, i32, i64)
	checkPop(t, s, 0, false)

	s = typing.New(i32)
	s.Dead()
	checkPop(t, s, 0, true)
	s.Push(i64)
	checkWant(t, s, true, i32, i64)
	checkWant(t, s, true, i64)
	checkClose(t, s, types(i32), true)

	s = typing.New(i32)
	s.Open(types(i64), nil)
	checkLabel(t, s, 0, types(i64), true)
	checkLabel(t, s, 1, types(i32), true)
	checkLabel(t, s, 2, nil, false)
	checkPop(t, s, 0, false)
	checkClose(t, s, nil, true)
}

// P9.1: a stack as at first has no operands, and one frame, not dead, whose label's and ends' types are those handed in.
func TestNew(t *testing.T) {
	for _, ends := range append(lists(3), types(api.F32), types(1, 255, 64), slices.Repeat(types(i32), 300)) {
		p := pairOf(ends...)
		checkCounts(t, p.s, 1, 0, 0)
		checkLabel(t, p.s, 0, ends, true)
		checkLabel(t, p.s, 1, nil, false)
		p.check(t)
		checkPop(t, p.s, 0, false)
		checkWant(t, p.s, true)
		checkWant(t, p.s, false, 0)
		if len(ends) > 0 {
			checkClose(t, p.s, nil, false)
		}
		p.push(ends...)
		checkCounts(t, p.s, 1, len(ends), len(ends))
		checkClose(t, p.s, ends, true)
		checkCounts(t, p.s, 0, 0, len(ends))
	}
}

// P9.1, P9.2: what is pushed stands there with its last one on top, above what stood there.
func TestPush(t *testing.T) {
	all := append(lists(3), types(api.F32, api.F64, api.BlockNone, 1, 255), slices.Repeat(types(i32, 0, i64, 7), 100))
	for _, first := range all {
		for _, then := range all {
			s := typing.New()
			s.Push(first...)
			checkCounts(t, s, 1, len(first), len(first))
			s.Push(then...)
			both := listed(first, then...)
			for n := len(both); n > 0; n-- {
				checkCounts(t, s, 1, n, len(both))
				checkPop(t, s, both[n-1], true)
			}
			checkPop(t, s, 0, false)
			checkCounts(t, s, 1, 0, len(both))
		}
	}
}

// P9.2: Pop takes what stands above the innermost frame's beginning alone; from there on it is any one, if that is dead.
func TestPop(t *testing.T) {
	s := typing.New()
	s.Push(i32, i64)
	s.Open(nil, nil)
	checkPop(t, s, 0, false)
	s.Push(i64, 0, i32)
	checkPop(t, s, i32, true)
	checkPop(t, s, 0, true)
	checkPop(t, s, i64, true)
	checkPop(t, s, 0, false)
	checkCounts(t, s, 2, 2, 5)
	s.Dead()
	for range 3 {
		checkPop(t, s, 0, true)
		checkCounts(t, s, 2, 2, 5)
	}
	s.Push(i64)
	checkPop(t, s, i64, true)
	checkPop(t, s, 0, true)
	checkCounts(t, s, 2, 2, 5)
	checkClose(t, s, nil, true)
	checkPop(t, s, i64, true)
	checkPop(t, s, i32, true)
	checkPop(t, s, 0, false)
	checkCounts(t, s, 1, 0, 5)
}

// P9.2: operands by types that fit, and that do not, in frames that are dead and not; where they do not, nothing is otherwise.
func TestWant(t *testing.T) {
	for _, c := range []struct {
		dead       bool
		stand, ask []uint8
		want       bool
		left       []uint8
	}{
		{false, nil, nil, true, nil},
		{false, types(i32), nil, true, types(i32)},
		{false, types(i32), types(i32), true, nil},
		{false, types(i32), types(i64), false, types(i32)},
		{false, types(0), types(i64), true, nil},
		{false, types(i64), types(0), true, nil},
		{false, types(0), types(0), true, nil},
		{false, nil, types(i32), false, nil},
		{false, nil, types(0), false, nil},
		{false, types(i32, i64), types(i64), true, types(i32)},
		{false, types(i32, i64), types(i32), false, types(i32, i64)},
		{false, types(i32, i64), types(i64, i32), false, types(i32, i64)},
		{false, types(i32, i64, i32), types(i32, i64, i32), true, nil},
		{false, types(i32, i64, i32), types(i32, i64, i64), false, types(i32, i64, i32)},
		{false, types(i32, i64, i32), types(i64, i64, i32), false, types(i32, i64, i32)},
		{false, types(i32, i64, i32), types(i32, i32, i32), false, types(i32, i64, i32)},
		{false, types(i32, 0, i32), types(i32, i32, i32), true, nil},
		{false, types(i32, i64, i32), types(i32, 0, i32), true, nil},
		{false, types(i64, i32), types(i32, i64, i32), false, types(i64, i32)},
		{false, types(0, 0), types(0, 0, 0), false, types(0, 0)},
		{true, nil, nil, true, nil},
		{true, nil, types(i32), true, nil},
		{true, nil, types(i32, i64, 0), true, nil},
		{true, types(i64), types(i32, i64), true, nil},
		{true, types(i64), types(i64, i32), false, types(i64)},
		{true, types(0), types(i64, i32), true, nil},
		{true, types(i64, i32), types(i32), true, types(i64)},
		{true, types(i64, i32), types(i32, i64, i32), true, nil},
		{true, types(i64, i32), types(i64, i32, i32), false, types(i64, i32)},
		{true, types(i64, i32), types(i32, i64, i64), false, types(i64, i32)},
		{true, types(i64, i32), nil, true, types(i64, i32)},
	} {
		s := typing.New(i32)
		s.Push(i64, i32, i64)
		s.Open(types(i64), types(i32))
		if c.dead {
			s.Dead()
		}
		s.Push(c.stand...)
		checkWant(t, s, c.want, c.ask...)
		checkCounts(t, s, 2, 3+len(c.left), 3+len(c.stand))
		checkLabel(t, s, 0, types(i64), true)
		for n := len(c.left) - 1; n >= 0; n-- {
			checkPop(t, s, c.left[n], true)
		}
		checkPop(t, s, 0, c.dead)
		checkCounts(t, s, 2, 3, 3+len(c.stand))
	}
}

// P9.2, P9.5: all short lists against all, at all heights at which the frame may begin, against the model.
func TestWantAll(t *testing.T) {
	for _, stand := range lists(3) {
		for from := range len(stand) + 1 {
			for _, ask := range lists(4) {
				for _, dead := range []bool{false, true} {
					p := pairOf()
					p.push(stand[:from]...)
					p.open(nil, nil)
					if dead {
						p.dead()
					}
					p.push(stand[from:]...)
					p.want(t, ask...)
					p.emptied(t)
				}
			}
		}
	}
}

// P9.2: each type fits itself and any one, and no other; what a frame's ends are like is the same.
func TestTypes(t *testing.T) {
	for a := range 256 {
		for b := range 256 {
			x, y := uint8(a), uint8(b)
			want := a == 0 || b == 0 || a == b
			s := typing.New(y)
			s.Push(x)
			checkWant(t, s, want, y)
			s.Want(0)
			s.Push(x)
			if l, ok := s.Close(); ok != want || slices.Equal(l, types(y)) != want {
				t.Fatalf("%d closed by %d: %v, %v", x, y, l, ok)
			}
		}
	}
}

// P9.3: a frame is closed where its own operands are just its ends; else nothing is otherwise.
func TestClose(t *testing.T) {
	for _, c := range []struct {
		dead       bool
		ends, have []uint8
		want       bool
	}{
		{false, nil, nil, true},
		{false, nil, types(i32), false},
		{false, nil, types(0), false},
		{false, types(i32), types(i32), true},
		{false, types(i32), types(0), true},
		{false, types(0), types(i64), true},
		{false, types(i32), types(i64), false},
		{false, types(i32), nil, false},
		{false, types(i32), types(i32, i32), false},
		{false, types(i32), types(i64, i32), false},
		{false, types(i32, i64), types(i32, i64), true},
		{false, types(i32, i64), types(i64), false},
		{false, types(i32, i64), types(i64, i32), false},
		{false, types(i32, i64), types(i32, i32), false},
		{false, types(i32, i64), types(i64, i64), false},
		{false, types(i32, i64), types(i32, i32, i64), false},
		{true, nil, nil, true},
		{true, nil, types(i32), false},
		{true, nil, types(0), false},
		{true, types(i32), nil, true},
		{true, types(i32), types(i32), true},
		{true, types(i32), types(i64), false},
		{true, types(i32), types(0, 0), false},
		{true, types(i32, i64), nil, true},
		{true, types(i32, i64), types(i64), true},
		{true, types(i32, i64), types(i32), false},
		{true, types(i32, i64), types(i32, i64), true},
		{true, types(i32, i64), types(i32, i32, i64), false},
		{true, types(i32, i64), types(i64, i64), false},
	} {
		s := typing.New(i64)
		s.Push(i32, i64)
		s.Open(types(i64, i64, i64), c.ends)
		if c.dead {
			s.Dead()
		}
		s.Push(c.have...)
		most := 2 + len(c.have)
		if c.want {
			checkClose(t, s, c.ends, true)
			checkCounts(t, s, 1, 2, most)
			checkLabel(t, s, 0, types(i64), true)
			checkPop(t, s, i64, true)
			checkPop(t, s, i32, true)
			checkPop(t, s, 0, false)
			continue
		}
		for range 2 {
			checkClose(t, s, nil, false)
			checkCounts(t, s, 2, most, most)
			checkLabel(t, s, 0, types(i64, i64, i64), true)
		}
		for n := len(c.have) - 1; n >= 0; n-- {
			checkPop(t, s, c.have[n], true)
		}
		checkPop(t, s, 0, c.dead)
		s.Push(c.ends...)
		checkClose(t, s, c.ends, true)
		checkCounts(t, s, 1, 2, max(most, 2+len(c.ends)))
	}
}

// P9.3, P9.5: all short ends against all that may stand there, against the model.
func TestCloseAll(t *testing.T) {
	for _, ends := range lists(3) {
		for _, have := range lists(4) {
			for _, dead := range []bool{false, true} {
				for _, under := range [][]uint8{nil, ends, types(i64, 0)} {
					p := pairOf(i32)
					p.push(under...)
					p.open(types(i64), ends)
					if dead {
						p.dead()
					}
					p.push(have...)
					p.close(t)
					p.check(t)
					p.emptied(t)
				}
			}
		}
	}
}

// P9.3: a frame that is dead leaves the one that is then innermost as it was, dead or not.
func TestCloseDead(t *testing.T) {
	for _, outer := range []bool{false, true} {
		for _, inner := range []bool{false, true} {
			s := typing.New()
			if outer {
				s.Dead()
			}
			s.Open(nil, nil)
			if inner {
				s.Dead()
			}
			checkPop(t, s, 0, inner)
			checkClose(t, s, nil, true)
			checkPop(t, s, 0, outer)
			s.Open(nil, types(i32))
			checkPop(t, s, 0, false)
			checkClose(t, s, nil, false)
		}
	}
}

// checkShut holds that no frame is open, and that what is asked then answers nothing and does nothing.
func checkShut(t *testing.T, s *typing.Stack, height, most int) {
	t.Helper()
	for range 2 {
		checkCounts(t, s, 0, height, most)
		checkPop(t, s, 0, false)
		checkWant(t, s, false)
		checkWant(t, s, false, 0)
		checkWant(t, s, false, i32, i64)
		checkClose(t, s, nil, false)
		for _, n := range []uint32{0, 1, 2, 1 << 31, 1<<32 - 1} {
			checkLabel(t, s, n, nil, false)
		}
		s.Dead()
	}
}

// P9.1 to P9.4: where no frame is open just Push, Open, Frames, Height and Most do what they say.
func TestLastClosed(t *testing.T) {
	for _, dead := range []bool{false, true} {
		s := typing.New(i32, i64)
		s.Push(i32, i64, i64)
		checkPop(t, s, i64, true)
		if dead {
			s.Dead()
		}
		checkClose(t, s, types(i32, i64), true)
		checkShut(t, s, 0, 3)
		s.Push()
		s.Push(i32, i64)
		checkShut(t, s, 2, 3)
		s.Push(0, 0)
		checkShut(t, s, 4, 4)

		s.Open(types(i64), types(i32))
		checkCounts(t, s, 1, 4, 4)
		checkLabel(t, s, 0, types(i64), true)
		checkLabel(t, s, 1, nil, false)
		checkPop(t, s, 0, false)
		checkWant(t, s, true)
		checkWant(t, s, false, 0)
		checkClose(t, s, nil, false)
		s.Push(i32)
		checkCounts(t, s, 1, 5, 5)
		checkClose(t, s, types(i32), true)
		checkShut(t, s, 4, 5)

		s.Open(nil, nil)
		s.Open(types(i32), types(i32))
		s.Dead()
		checkCounts(t, s, 2, 4, 5)
		checkPop(t, s, 0, true)
		checkClose(t, s, types(i32), true)
		checkPop(t, s, 0, false)
		checkClose(t, s, nil, true)
		checkShut(t, s, 4, 5)
	}
}

// P9.1, P9.3, P9.4: frames in one another begin where operands stand, each with its own label and ends.
func TestOpen(t *testing.T) {
	s := typing.New(i32)
	s.Open(types(i64), types(i32, i32))
	checkCounts(t, s, 2, 0, 0)
	s.Push(i32)
	s.Open(nil, types(i64))
	checkCounts(t, s, 3, 1, 1)
	s.Push(i64)
	s.Open(types(i32, i64), nil)
	s.Open(types(0), types(i64, i32, i64))
	checkCounts(t, s, 5, 2, 2)
	for n, l := range [][]uint8{{0}, {i32, i64}, {}, {i64}, {i32}} {
		checkLabel(t, s, uint32(n), l, true)
	}
	checkLabel(t, s, 5, nil, false)
	checkPop(t, s, 0, false)
	s.Push(i64, i32, i64)
	checkClose(t, s, types(i64, i32, i64), true)
	checkCounts(t, s, 4, 2, 5)
	checkPop(t, s, 0, false)
	checkClose(t, s, nil, true)
	checkClose(t, s, types(i64), true)
	checkCounts(t, s, 2, 1, 5)
	checkLabel(t, s, 0, types(i64), true)
	checkLabel(t, s, 1, types(i32), true)
	checkLabel(t, s, 2, nil, false)
	checkClose(t, s, nil, false)
	s.Push(i32)
	checkClose(t, s, types(i32, i32), true)
	checkClose(t, s, nil, false)
	s.Push(i32)
	checkClose(t, s, types(i32), true)
	checkCounts(t, s, 0, 0, 5)
}

// P9.1: the innermost frame's operands alone are gone, as often as it is made dead, and those further out stay as they are.
func TestDead(t *testing.T) {
	for times := 1; times < 4; times++ {
		s := typing.New(i32)
		s.Push(i32, i64)
		s.Open(nil, nil)
		s.Push(i64, i64, i64)
		s.Open(nil, types(i64))
		s.Push(i32)
		for range times {
			s.Dead()
			checkCounts(t, s, 3, 5, 6)
			checkPop(t, s, 0, true)
		}
		s.Push(i32, i32)
		for range times {
			s.Dead()
			checkCounts(t, s, 3, 5, 7)
		}
		checkClose(t, s, types(i64), true)
		checkCounts(t, s, 2, 5, 7)
		checkWant(t, s, true, i64, i64, i64)
		checkPop(t, s, 0, false)
		for range times {
			s.Dead()
			checkCounts(t, s, 2, 2, 7)
		}
		checkClose(t, s, nil, true)
		checkPop(t, s, i64, true)
		checkPop(t, s, i32, true)
		checkPop(t, s, 0, false)
	}
}

// P9.4: labels by their numbers from the innermost frame on, up to the count of frames, and behind it.
func TestLabel(t *testing.T) {
	s := typing.New(1, 1)
	for depth := 1; depth < 300; depth++ {
		for n := range depth {
			of := uint8(depth - n)
			checkLabel(t, s, uint32(n), types(of, of), true)
		}
		for _, n := range []uint32{uint32(depth), uint32(depth) + 1, 1<<16 + 1, 1<<31 - 1, 1 << 31, -uint32(depth), 1<<32 - 2, 1<<32 - 1} {
			checkLabel(t, s, n, nil, false)
		}
		checkCounts(t, s, depth, 0, 0)
		s.Open(types(uint8(depth+1), uint8(depth+1)), nil)
	}
}

// P9.4: Most is what there was at one time, in all frames together, and does not go down.
func TestMost(t *testing.T) {
	s := typing.New()
	for _, c := range []struct {
		do     func()
		height int
		most   int
	}{
		{func() {}, 0, 0},
		{func() { s.Push() }, 0, 0},
		{func() { s.Push(i32, i32) }, 2, 2},
		{func() { s.Pop() }, 1, 2},
		{func() { s.Push(i32) }, 2, 2},
		{func() { s.Want(i32, i32) }, 0, 2},
		{func() { s.Push(i64, i64, i64) }, 3, 3},
		{func() { s.Want(i64) }, 2, 3},
		{func() { s.Open(nil, types(i32)) }, 2, 3},
		{func() { s.Push(i32) }, 3, 3},
		{func() { s.Push(i32) }, 4, 4},
		{func() { s.Dead() }, 2, 4},
		{func() { s.Pop() }, 2, 4},
		{func() { s.Push(i32) }, 3, 4},
		{func() { s.Close() }, 2, 4},
		{func() { s.Push(i64, i64, i64, i64) }, 6, 6},
		{func() { s.Dead() }, 0, 6},
		{func() { s.Want(i32, i32, i32, i32, i32, i32, i32, i32) }, 0, 6},
		{func() { s.Push(i64) }, 1, 6},
		{func() { s.Pop() }, 0, 6},
		{func() { s.Close() }, 0, 6},
		{func() { s.Push(i64, i64, i64, i64, i64, i64) }, 6, 6},
		{func() { s.Push(0) }, 7, 7},
	} {
		c.do()
		if s.Height() != c.height || s.Most() != c.most {
			t.Errorf("%d operands, most %d, want %d, %d", s.Height(), s.Most(), c.height, c.most)
		}
	}
}

// R4: of a stack that is nil there is nothing, and nothing comes of what is done to it.
func TestNil(t *testing.T) {
	var s *typing.Stack
	checkShut(t, s, 0, 0)
	s.Push()
	s.Push(i32, i64)
	checkShut(t, s, 0, 0)
	s.Open(types(i32), types(i64))
	s.Open(nil, nil)
	checkShut(t, s, 0, 0)
}

// P9.5: in a dead frame any types can be taken, as long as those that stand there fit; pushed again, and taken again, they leave as many.
func TestDeadFits(t *testing.T) {
	for _, stand := range lists(3) {
		for _, ask := range lists(5) {
			p := pairOf()
			p.push(i64)
			p.open(nil, nil)
			p.dead()
			p.push(stand...)
			fits := true
			for n := 1; n <= min(len(stand), len(ask)); n++ {
				a, b := stand[len(stand)-n], ask[len(ask)-n]
				fits = fits && (a == b || min(a, b) == 0)
			}
			checkWant(t, p.s, fits, ask...)
			if !fits {
				checkCounts(t, p.s, 2, 1+len(stand), 1+len(stand))
				continue
			}
			left := 1 + max(0, len(stand)-len(ask))
			most := max(1+len(stand), left+len(ask))
			for range 3 {
				p.s.Push(ask...)
				checkCounts(t, p.s, 2, left+len(ask), most)
				checkWant(t, p.s, true, ask...)
				checkCounts(t, p.s, 2, left, most)
			}
		}
	}
}

// P9.5: what is taken of a frame that is not dead, and pushed again, leaves as many, and the same.
func TestPushedAgain(t *testing.T) {
	for _, stand := range lists(4) {
		for n := range len(stand) + 1 {
			p := pairOf(stand...)
			p.push(stand...)
			p.want(t, stand[n:]...)
			p.push(stand[n:]...)
			checkCounts(t, p.s, 1, len(stand), len(stand))
			p.close(t)
			checkCounts(t, p.s, 0, 0, len(stand))
		}
	}
}

// P9.1, R3: what is handed in is not changed, nor the room behind it, and what the caller does with it then makes no difference.
func TestHandedIn(t *testing.T) {
	for _, l := range [][]uint8{{}, {i32}, {i64, 0, i32}, slices.Repeat(types(i32, i64), 50)} {
		var ins, was [][]uint8
		in := func(l []uint8) []uint8 {
			a, b := handed(l)
			ins, was = append(ins, a), append(was, b)
			return a
		}
		p := &pair{typing.New(in(l)...), modelOf(l...)}
		p.s.Push(in(l)...)
		p.m = p.m.pushed(l...)
		p.s.Open(in(l), in(slices.Clone(l)))
		p.m = p.m.opened(l, l)
		both := in(l)
		p.s.Open(both, both)
		p.m = p.m.opened(l, l)
		p.s.Push(in(l)...)
		p.m = p.m.pushed(l...)
		checkWant(t, p.s, true, in(l)...)
		p.m, _ = p.m.taken(l)
		p.push(i32)
		checkWant(t, p.s, false, in(append(slices.Clone(l), i64))...)
		p.pop(t)
		p.s.Push(in(l)...)
		p.m = p.m.pushed(l...)
		for n := range ins {
			if !slices.Equal(ins[n][:cap(ins[n])], was[n]) {
				t.Errorf("what was handed in is %v, was %v", ins[n][:cap(ins[n])], was[n])
			}
			for k := range was[n] {
				ins[n][:cap(ins[n])][k] = 99
			}
		}
		p.check(t)
		p.close(t)
		p.push(l...)
		p.check(t)
		p.emptied(t)
	}
}

// P9.3, P9.4, R3: what was told is the caller's: changing it, or what lies behind it, changes nothing that is told then.
func TestToldChanged(t *testing.T) {
	for _, l := range lists(3) {
		for rounds := range 3 {
			p := pairOf(l...)
			p.open(listed(l, i64), l)
			p.open(l, l)
			p.push(l...)
			for range rounds {
				for n := range uint32(4) {
					told, _ := p.s.Label(n)
					spoil(told)
				}
			}
			p.check(t)
			for range 3 {
				told, ok := p.s.Close()
				if !ok || !slices.Equal(told, l) {
					t.Fatalf("%v, %v, want %v", told, ok, l)
				}
				spoil(told)
				p.m, _, _ = p.m.closed()
				p.check(t)
				p.push(l...)
				p.check(t)
			}
		}
	}
}

func spoil(l []uint8) {
	l = l[:cap(l)]
	for k := range l {
		l[k] ^= 0xa5
	}
}

// P9.3, P9.4: each list that is told lies in memory of its own, with all its room.
func TestOwnMemory(t *testing.T) {
	l := slices.Repeat(types(i32), 5)
	s := typing.New(l...)
	s.Open(l, l)
	s.Open(l, l)
	told := [][]uint8{l}
	keep := func(l []uint8, ok bool) {
		if !ok || len(l) != 5 {
			t.Error(l, ok)
		}
		told = append(told, l)
	}
	for frames := 3; frames > 0; frames-- {
		for range 2 {
			for n := range frames {
				keep(s.Label(uint32(n)))
			}
		}
		s.Push(l...)
		keep(s.Close())
	}
	var from []uintptr
	for _, l := range told {
		from = append(from, reflect.ValueOf(l).Pointer())
	}
	for a := range told {
		for b := range a {
			if from[a] < from[b]+uintptr(cap(told[b])) && from[b] < from[a]+uintptr(cap(told[a])) {
				t.Errorf("lists %d and %d share memory", a, b)
			}
		}
	}
	if len(told) != 1+2*(3+2+1)+3 {
		t.Error(len(told), "lists")
	}
	runtime.KeepAlive(told)
}

// R5: stacks do not hang on one another.
func TestApart(t *testing.T) {
	l := types(i32, i64)
	p, q := pairOf(l...), pairOf(l...)
	p.push(l...)
	q.dead()
	q.push(0)
	p.open(nil, l)
	p.check(t)
	q.check(t)
	q.open(l, nil)
	p.push(i64)
	p.dead()
	p.close(t)
	p.check(t)
	q.check(t)
	p.emptied(t)
	q.check(t)
	q.emptied(t)
}

// P9.1 to P9.5: whatever is done, one behind the other, against the model.
func TestMixed(t *testing.T) {
	r := random(9)
	for round := range 4000 {
		some := types(0, i32, i64)
		if round%2 == 0 {
			some = types(i32)
		}
		p := pairOf(r.list(2, some)...)
		for range 40 {
			switch r.next(10) {
			case 0, 1, 2:
				p.push(r.list(3, some)...)
			case 3:
				p.pop(t)
			case 4, 5:
				p.want(t, r.list(3, some)...)
			case 6:
				p.open(r.list(2, some), r.list(2, some))
			case 7, 8:
				p.close(t)
			case 9:
				if r.next(3) == 0 {
					p.dead()
				}
			}
			p.check(t)
		}
		p.emptied(t)
	}
}

// R1: many operands and frames, far beyond a body's.
func TestHuge(t *testing.T) {
	const n = 1 << 20
	s := typing.New()
	for k := range n {
		s.Push(i32, i64)
		if k%2 == 0 {
			s.Open(types(i32), types(i64))
		}
	}
	checkCounts(t, s, 1+n/2, 2*n, 2*n)
	checkLabel(t, s, n/2-1, types(i32), true)
	checkLabel(t, s, n/2, nil, true)
	checkLabel(t, s, n/2+1, nil, false)
	for range n / 2 {
		checkPop(t, s, i64, true)
		checkPop(t, s, i32, true)
		checkClose(t, s, nil, false)
		s.Push(i64)
		checkClose(t, s, types(i64), true)
		checkWant(t, s, true, i32, i64)
	}
	checkCounts(t, s, 1, 0, 2*n)

	long := slices.Repeat(types(i32, 0, i64), n)
	s = typing.New(long...)
	s.Push(long...)
	checkWant(t, s, false, append(types(i32), long...)...)
	checkWant(t, s, true, long...)
	s.Push(long...)
	checkClose(t, s, long, true)
	s.Open(long, long)
	s.Dead()
	checkWant(t, s, true, long...)
	checkLabel(t, s, 0, long, true)
	checkClose(t, s, long, true)
}
