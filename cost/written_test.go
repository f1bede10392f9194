package cost_test

import (
	"strconv"
	"strings"
	"testing"

	"gabelle/api"
)

// written has the costs of all opcodes, sixteen a line, worked out by hand from the tables of chapters 3 and 13; a - is not known.
const written = `
00: 1 1 0 0 2 0 - - - - - 0 2 2 3 2
10: 8 10 - - - - - - - - 1 1 - - - -
20: 1 1 1 1 1 - - - 3 3 - - 3 3 3 3
30: 3 3 3 3 3 3 3 3 - - 3 3 3 3 3 1
40: 20 1 1 - - 1 1 1 1 1 1 1 1 1 1 1
50: 1 1 1 1 1 1 1 1 1 1 1 - - - - -
60: - - - - - - - 1 1 1 1 1 2 5 5 5
70: 5 1 1 1 1 1 1 1 1 1 1 1 1 1 2 5
80: 5 5 5 1 1 1 1 1 1 1 1 - - - - -
90: - - - - - - - - - - - - - - - -
a0: - - - - - - - 1 - - - - 1 1 - -
b0: - - - - - - - - - - - - - - - -
c0: - - - - - - - - - - - - - - - -
d0: - - - - - - - - - - - - - - - -
e0: - - - - - - - - - - - - - - - -
f0: - - - - - - - - - - - - - - - -
`

// rows are the costs that are written, by opcode, and which opcodes are known.
func rows(t *testing.T) (costs [256]uint64, known [256]bool) {
	t.Helper()
	at := 0
	for line := range strings.Lines(strings.TrimSpace(written)) {
		cells := strings.Fields(line)
		if first, err := strconv.ParseUint(strings.TrimSuffix(cells[0], ":"), 16, 8); err != nil || int(first) != at || len(cells) != 17 {
			t.Fatalf("no line of sixteen: %q", line)
		}
		for _, cell := range cells[1:] {
			if cell != "-" {
				n, err := strconv.ParseUint(cell, 10, 8)
				if err != nil {
					t.Fatalf("no cost: %q", cell)
				}
				costs[at], known[at] = n, true
			}
			at++
		}
	}
	if at != 256 {
		t.Fatalf("%d opcodes are written", at)
	}
	return costs, known
}

func op(op uint8) api.Instr { return api.Instr{Op: op} }

// ops are instructions of these opcodes, and nothing else.
func ops(l ...uint8) []api.Instr {
	out := make([]api.Instr, len(l))
	for i, x := range l {
		out[i] = op(x)
	}
	return out
}

// every is an instruction, or what is none, of each opcode.
func every() []api.Instr {
	out := make([]api.Instr, 256)
	for i := range out {
		out[i] = op(uint8(i))
	}
	return out
}

// random numbers of a fixed rule.
type random uint64

func (r *random) next(n int) int {
	*r = *r*6364136223846793005 + 1442695040888963407
	return int(uint64(*r)>>33) % n
}
