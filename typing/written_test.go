package typing_test

import (
	"slices"
	"testing"

	"gabelle/api"
	"gabelle/typing"
)

const (
	i32 = api.I32
	i64 = api.I64
)

func types(l ...uint8) []uint8 { return l }

// lists are all of up to that length, of i32, i64 and any one.
func lists(length int) [][]uint8 {
	all := [][]uint8{nil}
	last := all
	for range length {
		var next [][]uint8
		for _, l := range last {
			for _, t := range types(0, i32, i64) {
				next = append(next, listed(l, t))
			}
		}
		all, last = append(all, next...), next
	}
	return all
}

// pair is a stack, and the model of what was done to it.
type pair struct {
	s *typing.Stack
	m model
}

func pairOf(ends ...uint8) *pair { return &pair{typing.New(listed(ends)...), modelOf(ends...)} }

func (p *pair) push(l ...uint8) {
	p.s.Push(listed(l)...)
	p.m = p.m.pushed(l...)
}

func (p *pair) open(label, ends []uint8) {
	p.s.Open(listed(label), listed(ends))
	p.m = p.m.opened(label, ends)
}

func (p *pair) dead() {
	p.s.Dead()
	p.m = p.m.died()
}

func (p *pair) pop(t *testing.T) {
	t.Helper()
	after, want, there := p.m.popped()
	checkPop(t, p.s, want, there)
	p.m = after
}

func (p *pair) want(t *testing.T, l ...uint8) {
	t.Helper()
	after, want := p.m.taken(l)
	if got := p.s.Want(listed(l)...); got != want {
		t.Fatalf("Want(%v) = %v, want %v, behind %+v", l, got, want, p.m)
	}
	p.m = after
}

func (p *pair) close(t *testing.T) {
	t.Helper()
	after, want, is := p.m.closed()
	checkClose(t, p.s, want, is)
	p.m = after
}

// check holds what a stack tells, with nothing done to it, against the model.
func (p *pair) check(t *testing.T) {
	t.Helper()
	if n, h, m := p.s.Frames(), p.s.Height(), p.s.Most(); n != len(p.m.levels) || h != p.m.height() || m != p.m.most {
		t.Fatalf("%d frames, %d operands, most %d, where there should be %+v", n, h, m, p.m)
	}
	for n := range len(p.m.levels) + 2 {
		want, is := p.m.labelled(uint32(n))
		checkLabel(t, p.s, uint32(n), want, is)
	}
	for _, n := range []uint32{1<<8 + 1, 1 << 16, 1<<31 - 1, 1 << 31, 1<<32 - 2, 1<<32 - 1} {
		want, is := p.m.labelled(n)
		checkLabel(t, p.s, n, want, is)
	}
}

// emptied takes all operands and frames away, so that what stood there is told. Where a frame can't be closed as it is, it is made dead.
func (p *pair) emptied(t *testing.T) {
	t.Helper()
	for len(p.m.levels) > 0 {
		for n := len(p.m.levels[len(p.m.levels)-1].own); n >= 0; n-- {
			p.pop(t)
			p.check(t)
		}
		n := len(p.m.levels)
		p.close(t)
		if len(p.m.levels) == n {
			p.dead()
			p.close(t)
		}
		p.check(t)
	}
}

func checkPop(t *testing.T, s *typing.Stack, want uint8, there bool) {
	t.Helper()
	if got, ok := s.Pop(); got != want || ok != there {
		t.Fatalf("Pop() = %d, %v, want %d, %v", got, ok, want, there)
	}
}

func checkClose(t *testing.T, s *typing.Stack, want []uint8, is bool) {
	t.Helper()
	if got, ok := s.Close(); !slices.Equal(got, want) || ok != is {
		t.Fatalf("Close() = %v, %v, want %v, %v", got, ok, want, is)
	}
}

func checkLabel(t *testing.T, s *typing.Stack, n uint32, want []uint8, is bool) {
	t.Helper()
	if got, ok := s.Label(n); !slices.Equal(got, want) || ok != is {
		t.Fatalf("Label(%d) = %v, %v, want %v, %v", n, got, ok, want, is)
	}
}

func checkWant(t *testing.T, s *typing.Stack, want bool, l ...uint8) {
	t.Helper()
	if got := s.Want(l...); got != want {
		t.Fatalf("Want(%v) = %v", l, got)
	}
}

func checkCounts(t *testing.T, s *typing.Stack, frames, height, most int) {
	t.Helper()
	if n, h, m := s.Frames(), s.Height(), s.Most(); n != frames || h != height || m != most {
		t.Fatalf("%d frames, %d operands, most %d, want %d, %d, %d", n, h, m, frames, height, most)
	}
}

// handed is a list with room behind it, both filled, and what both are.
func handed(l []uint8) (in, was []uint8) {
	was = append(listed(l), 201, 202, 203, 204)
	return listed(was)[:len(l)], was
}

// random numbers of a fixed rule.
type random uint64

func (r *random) next(n int) int {
	*r = *r*6364136223846793005 + 1442695040888963407
	return int(uint64(*r)>>33) % n
}

func (r *random) list(n int, of []uint8) []uint8 {
	l := make([]uint8, r.next(n+1))
	for k := range l {
		l[k] = of[r.next(len(of))]
	}
	return l
}
