package part_test

import (
	"slices"
	"strings"
	"testing"

	"gabelle/api"
	"gabelle/cost"
	"gabelle/opc"
	"gabelle/part"
)

// words are the chapter's, as they stand there.
const words = "if, else, end, loop, br, br_if, br_table, return, unreachable, call, call_indirect, memory.grow"

// cuts are the opcodes of the words, found by their names.
func cuts(t *testing.T) map[uint8]int {
	t.Helper()
	out := map[uint8]int{}
	for name := range strings.SplitSeq(words, ", ") {
		code, ok := opc.Find(name)
		if !ok {
			t.Fatalf("no opcode: %q", name)
		}
		out[code]++
	}
	return out
}

// cut is the body in pieces, cut behind each of those, the last piece among them that may be empty.
func cut(behind map[uint8]int, body []api.Instr) [][]api.Instr {
	out := [][]api.Instr{nil}
	for _, x := range body {
		out[len(out)-1] = append(out[len(out)-1], x)
		if behind[x.Op] > 0 {
			out = append(out, nil)
		}
	}
	return out
}

// model is what All goes over: of the pieces, those that cost something.
func model(behind map[uint8]int, body []api.Instr) []part.Part {
	var out []part.Part
	at := 0
	for _, piece := range cut(behind, body) {
		gas := uint64(0)
		for _, x := range piece {
			gas += cost.Of(x)
		}
		if gas > 0 {
			out = append(out, part.Part{At: at, To: at + len(piece), Cost: gas})
		}
		at += len(piece)
	}
	return out
}

// The model's opcodes are those that are written as numbers; the rest of the tests lean on both.
func TestModel(t *testing.T) {
	behind := cuts(t)
	if len(behind) != 12 {
		t.Fatalf("%d opcodes: %v", len(behind), behind)
	}
	for _, code := range ends() {
		if behind[code] != 1 {
			t.Errorf("%02x is not told by the words", code)
		}
	}
	for _, code := range stays() {
		if behind[code] != 0 {
			t.Errorf("%02x is told by the words", code)
		}
	}
	pieces := cut(behind, ops(api.OpNop, api.OpEnd, api.OpCall))
	if len(pieces) != 3 || len(pieces[0]) != 2 || len(pieces[1]) != 1 || len(pieces[2]) != 0 {
		t.Errorf("pieces %v", pieces)
	}
	if got := model(behind, ops(api.OpEnd, api.OpNop)); !slices.Equal(got, []part.Part{{At: 1, To: 2, Cost: 1}}) {
		t.Errorf("the model tells %v", got)
	}
}
