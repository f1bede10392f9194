package part_test

import (
	"slices"
	"testing"

	"gabelle/api"
	"gabelle/part"
)

func op(op uint8) api.Instr { return api.Instr{Op: op} }

// ops are instructions of these opcodes, and nothing else.
func ops(l ...uint8) []api.Instr {
	out := make([]api.Instr, len(l))
	for i, x := range l {
		out[i] = op(x)
	}
	return out
}

// every is an instruction, or what is none, of each opcode.
func every() []api.Instr {
	out := make([]api.Instr, 256)
	for i := range out {
		out[i] = op(uint8(i))
	}
	return out
}

// ends are the chapter's opcodes behind which a part ends, as numbers.
func ends() []uint8 {
	return []uint8{0x00, 0x03, 0x04, 0x05, 0x0b, 0x0c, 0x0d, 0x0e, 0x0f, 0x10, 0x11, 0x40}
}

// stays are opcodes behind which none ends: plain ones, of each cost, the block, one of floats, and what is not known.
func stays() []uint8 {
	return []uint8{0x01, 0x02, 0x1a, 0x1b, 0x20, 0x23, 0x24, 0x28, 0x3e, 0x3f, 0x41, 0x42, 0x6c, 0x70, 0x7e, 0x82, 0xac, 0x06, 0x12, 0x2a, 0xff}
}

// random numbers of a fixed rule.
type random uint64

func (r *random) next(n int) int {
	*r = *r*6364136223846793005 + 1442695040888963407
	return int(uint64(*r)>>33) % n
}

// one is some opcode: one that ends a part, one that costs nothing, or whatever, each as often.
func (r *random) one() uint8 {
	switch r.next(3) {
	case 0:
		l := ends()
		return l[r.next(len(l))]
	case 1:
		l := []uint8{api.OpBlock, api.OpLoop, api.OpElse, api.OpEnd, 0x06, 0x2a, 0xff}
		return l[r.next(len(l))]
	}
	return uint8(r.next(256))
}

// mixed is a list of that many, of whatever opcodes and other parts.
func (r *random) mixed(n int) []api.Instr {
	out := make([]api.Instr, n)
	for i := range out {
		c := int64(r.next(1<<31)) - int64(r.next(1<<31))<<20
		out[i] = api.Instr{Op: r.one(), A: uint32(r.next(1 << 31)), B: uint32(r.next(1 << 31)), C: c, L: make([]uint32, r.next(4))}
	}
	return out
}

// told is what All goes over, to its end.
func told(body []api.Instr) []part.Part {
	var out []part.Part
	for p := range part.All(body) {
		out = append(out, p)
	}
	return out
}

// check holds both calls against what is wanted.
func check(t *testing.T, what string, body []api.Instr, want []part.Part) {
	t.Helper()
	if got := part.Parts(body); !slices.Equal(got, want) {
		t.Errorf("%s: Parts %v, want %v", what, got, want)
	}
	if got := told(body); !slices.Equal(got, want) {
		t.Errorf("%s: All %v, want %v", what, got, want)
	}
}
