package cost_test

import (
	"strconv"
	"strings"
	"testing"

	"gabelle/api"
	"gabelle/opc"
)

// words are the chapter's, as they stand there; loads and stores, and those of both sizes, are not names themselves.
const words = "block, loop, else, end: 0. br, br_if, if, return: 2; br_table 3; call 8; call_indirect 10; loads and stores 3; memory.grow 20; of both sizes: mul 2, div_s, div_u, rem_s, rem_u 5. All others 1."

// model is what the words say, by name.
type model struct {
	named  map[string]uint64
	access uint64
	other  uint64
}

func read(t *testing.T) model {
	t.Helper()
	m := model{named: map[string]uint64{}}
	// A dot with a space behind it ends a clause; that of memory.grow does not.
	clauses := strings.NewReplacer(". ", "\n", "; ", "\n").Replace(strings.TrimSuffix(words, "."))
	for clause := range strings.SplitSeq(clauses, "\n") {
		rest, both := strings.CutPrefix(clause, "of both sizes: ")
		var names []string
		for _, one := range strings.Split(rest, ",") {
			name, n, told := cutCost(t, strings.TrimSpace(one))
			names = append(names, name)
			if told {
				m.tell(names, both, n)
				names = nil
			}
		}
		if len(names) > 0 {
			t.Fatalf("no cost of %q", clause)
		}
	}
	return m
}

// cutCost parts a name from the cost behind it, if there is one.
func cutCost(t *testing.T, s string) (string, uint64, bool) {
	t.Helper()
	at := strings.LastIndexByte(s, ' ')
	n, err := strconv.ParseUint(s[at+1:], 10, 64)
	if at < 0 || err != nil {
		return s, 0, false
	}
	return strings.TrimSuffix(s[:at], ":"), n, true
}

func (m *model) tell(names []string, both bool, n uint64) {
	for _, name := range names {
		switch {
		case both:
			m.named["i32."+name], m.named["i64."+name] = n, n
		case name == "loads and stores":
			m.access = n
		case name == "All others":
			m.other = n
		default:
			m.named[name] = n
		}
	}
}

// of is what the opcode costs, by the name that chapter 3 gives it.
func (m *model) of(op uint8) uint64 {
	name := opc.Name(op)
	n, ok := m.named[name]
	_, what, _ := strings.Cut(name, ".")
	switch {
	case name == "":
		return 0
	case ok:
		return n
	case strings.HasPrefix(what, "load") || strings.HasPrefix(what, "store"):
		return m.access
	}
	return m.other
}

func (m *model) sum(l []api.Instr) uint64 {
	n := uint64(0)
	for _, x := range l {
		n += m.of(x.Op)
	}
	return n
}

// The model takes each name of the words, and those are names of opcodes.
func TestModel(t *testing.T) {
	m := read(t)
	if len(m.named) != 4+4+4+2*5 || m.access != 3 || m.other != 1 {
		t.Fatalf("%d names, accesses %d, others %d: %v", len(m.named), m.access, m.other, m.named)
	}
	for name := range m.named {
		if _, ok := opc.Find(name); !ok {
			t.Errorf("no opcode: %q", name)
		}
	}
}
