package part_test

import (
	"slices"
	"testing"

	"gabelle/api"
	"gabelle/cost"
	"gabelle/part"
)

// writer makes bodies whose blocks are closed, and whose branches have blocks to go to.
type writer struct {
	*random
	body []api.Instr
	open int
}

func (w *writer) put(code uint8, a int, l ...uint32) {
	w.body = append(w.body, api.Instr{Op: code, A: uint32(a), L: l})
}

// label is one of the open blocks, or the function.
func (w *writer) label() int { return w.next(w.open + 1) }

// some is a handful of instructions, with blocks as deep as that in one another.
func (w *writer) some(deep int) {
	for range w.next(6) {
		switch k := w.next(12); {
		case k < 4 && deep > 0:
			w.block([]uint8{api.OpBlock, api.OpLoop, api.OpIf, api.OpLoop}[k], deep)
		case k < 6:
			w.put(api.OpBrIf, w.label())
		case k == 6:
			w.put(api.OpBr, w.label())
		case k == 7:
			w.put(api.OpBrTable, w.label(), uint32(w.label()), uint32(w.label()))
		case k == 8:
			l := []uint8{api.OpReturn, api.OpCall, api.OpCallIndirect, api.OpMemGrow}
			w.put(l[w.next(4)], 0)
		default:
			l := []uint8{api.OpNop, api.OpDrop, api.OpI32Const, 0x28, 0x6c, 0x7f}
			w.put(l[w.next(6)], 0)
		}
	}
}

func (w *writer) block(code uint8, deep int) {
	w.put(code, int(api.BlockNone))
	w.open++
	w.some(deep - 1)
	if code == api.OpIf && w.next(2) > 0 {
		w.put(api.OpElse, 0)
		w.some(deep - 1)
	}
	w.open--
	w.put(api.OpEnd, 0)
}

// written is a body of that rule.
func written(r *random) []api.Instr {
	w := writer{random: r}
	for len(w.body) < 3 {
		w.some(5)
	}
	return w.body
}

// A route is where control goes from a place on, but to the next one.
type route struct {
	next bool  // the next one, too
	to   []int // by branches; behind the body's last one it ends
}

// A region is a block that is open: where its branches go, and where its if goes that is not taken.
type region struct{ at, label, other int }

// closing has, by the place of each block, loop, if and else, that of the mark that closes it (the else of an if, too), or the body's length.
func closing(body []api.Instr) map[int]int {
	out := map[int]int{}
	var open []int
	for i, x := range body {
		switch x.Op {
		case api.OpBlock, api.OpLoop, api.OpIf:
			open = append(open, i)
		case api.OpElse:
			out[open[len(open)-1]] = i
			open[len(open)-1] = i
		case api.OpEnd:
			out[open[len(open)-1]] = i
			open = open[:len(open)-1]
		}
	}
	return out
}

// regionOf is the block that is opened there.
func regionOf(body []api.Instr, closed map[int]int, at int) region {
	end := closed[at]
	other := end + 1
	if body[end].Op == api.OpElse {
		end = closed[end]
	}
	if body[at].Op == api.OpLoop {
		return region{at: at, label: at + 1, other: other}
	}
	return region{at: at, label: end + 1, other: other}
}

// routes are those of a body that a writer wrote, by the rules of WebAssembly; of loops, which places are their beginnings.
func routes(body []api.Instr) (out []route, loops map[int]int) {
	closed := closing(body)
	loops = map[int]int{}
	open := []region{{at: -1, label: len(body)}}
	target := func(label uint32) int { return open[len(open)-1-int(label)].label }
	for i, x := range body {
		r := route{next: true}
		switch x.Op {
		case api.OpBlock, api.OpLoop, api.OpIf:
			open = append(open, regionOf(body, closed, i))
			if x.Op == api.OpIf {
				r.to = []int{open[len(open)-1].other}
			}
			if x.Op == api.OpLoop {
				loops[i+1]++
			}
		case api.OpElse:
			r = route{to: []int{closed[i] + 1}}
		case api.OpEnd:
			open = open[:len(open)-1]
		case api.OpBrIf:
			r.to = []int{target(x.A)}
		case api.OpBr:
			r = route{to: []int{target(x.A)}}
		case api.OpBrTable:
			r = route{to: []int{target(x.A), target(x.L[0]), target(x.L[1])}}
		case api.OpReturn, api.OpUnreachable:
			r = route{to: []int{len(body)}}
		}
		out = append(out, r)
	}
	return out, loops
}

// P14.3: where something goes elsewhere a part ends; where it comes to, none is within.
func TestBranches(t *testing.T) {
	var r random = 20
	for range 2000 {
		body := written(&r)
		parts := part.Parts(body)
		way, _ := routes(body)
		for i, w := range way {
			if len(w.to) > 0 && !part.Ends(body[i].Op) {
				t.Fatalf("%02x goes elsewhere", body[i].Op)
			}
			for _, p := range parts {
				if len(w.to) > 0 && p.At <= i && i < p.To-1 {
					t.Errorf("%02x at %d is within %v", body[i].Op, i, p)
				}
				for _, to := range w.to {
					if p.At < to && to < p.To {
						t.Errorf("%02x at %d comes to %d, within %v", body[i].Op, i, to, p)
					}
				}
			}
		}
	}
}

// walk is a way through a body: what is charged where parts begin, what the instructions cost, and how often it went back to a loop's beginning.
type walk struct {
	charged, spent uint64
	rounds         int
	free           bool // a round that was not charged
}

// goes walks as it likes, for so many steps, and then to the end.
func (w *walk) goes(r *random, body []api.Instr, steps int) {
	gas := map[int]uint64{}
	for p := range part.All(body) {
		gas[p.At] = p.Cost
	}
	way, loops := routes(body)
	since := map[int]uint64{}
	at := 0
	for step := 0; at < len(body); step++ {
		if loops[at] > 0 {
			since[at] = w.charged
		}
		w.charged += gas[at]
		w.spent += cost.Of(body[at])
		from := at
		at = choose(r, way[at], at, steps-step)
		if at <= from {
			w.rounds++
			w.free = w.free || since[at] == w.charged
		}
	}
}

// choose is where it goes next: by luck, and onward alone when no steps are left, or to the end where it can only go back.
func choose(r *random, w route, at, left int) int {
	l := slices.Clone(w.to)
	if w.next {
		l = append(l, at+1)
	}
	if left > 0 {
		return l[r.next(len(l))]
	}
	if last := slices.Max(l); last > at {
		return last
	}
	return beyond
}

// beyond is behind every body's end.
const beyond = 1<<31 - 1

// P14.3: whichever way control goes, what was charged where parts begin is what the instructions on the way cost; and no loop goes round that was not charged.
func TestWalks(t *testing.T) {
	var r random = 21
	rounds, walks := 0, 0
	for range 3000 {
		body := written(&r)
		for range 5 {
			var w walk
			w.goes(&r, body, 300)
			if w.charged != w.spent {
				t.Fatalf("charged %d, spent %d: %v", w.charged, w.spent, body)
			}
			if w.free {
				t.Fatalf("a round that was not charged: %v", body)
			}
			rounds += w.rounds
			walks++
		}
	}
	if rounds < walks {
		t.Errorf("%d walks went round %d times alone", walks, rounds)
	}
}

// P14.3: each loop's body that can go round has a part that costs something: each kind of branch back, with nothing else in the loop, and in blocks that cost nothing.
func TestRounds(t *testing.T) {
	none := uint32(api.BlockNone)
	for deep := range 4 {
		for _, back := range []api.Instr{{Op: api.OpBr, A: uint32(deep)}, {Op: api.OpBrIf, A: uint32(deep)}, {Op: api.OpBrTable, A: uint32(deep)}} {
			body := []api.Instr{{Op: api.OpLoop, A: none}}
			body = append(body, slices.Repeat([]api.Instr{{Op: api.OpBlock, A: none}}, deep)...)
			body = append(append(body, back), slices.Repeat(ops(api.OpEnd), deep+1)...)
			check(t, "a loop of a branch alone", body, []part.Part{{At: 1, To: deep + 2, Cost: cost.Of(back)}})
		}
	}
	// Loops in one another: whichever is gone back to, the branch's own part is charged anew.
	body := ops(api.OpLoop, api.OpLoop, api.OpBrIf, api.OpBr, api.OpEnd, api.OpEnd)
	check(t, "a loop in a loop", body, []part.Part{{At: 2, To: 3, Cost: 2}, {At: 3, To: 4, Cost: 2}})
}
