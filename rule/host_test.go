package rule_test

import (
	"slices"
	"strings"
	"testing"

	"gabelle/rule"
)

// checkHosts holds what is answered against the chapter's table, row by row.
func checkHosts(t *testing.T, l []rule.Host) {
	t.Helper()
	table := written()
	if len(l) != 16 || len(table) != 16 {
		t.Fatalf("%d functions, %d rows", len(l), len(table))
	}
	for i, row := range table {
		if row.number != i || l[i].Name != row.name || !slices.Equal(l[i].Type.Params, row.t.Params) || !slices.Equal(l[i].Type.Results, row.t.Results) {
			t.Errorf("%d is %v, want %v", i, l[i], row)
		}
	}
}

// P12.1: Hosts is the chapter's table.
func TestHosts(t *testing.T) {
	checkHosts(t, rule.Hosts())
}

// P12.1: what is answered is in memory of its own: each list, of those of another answer, and of the others of one answer.
func TestHostsAreOfTheirOwn(t *testing.T) {
	l, other := rule.Hosts(), rule.Hosts()
	for i := range l {
		for _, list := range []*[]uint8{&l[i].Type.Params, &l[i].Type.Results} {
			for j := range *list {
				(*list)[j] = 0x55
			}
			// What lies behind its end may be another list's.
			clear((*list)[len(*list):cap(*list)])
			*list = append(*list, 0x66, 0x66, 0x66, 0x66)
		}
		checkHosts(t, append(rule.Hosts()[:i+1], other[i+1:]...))
		checkHosts(t, append(slices.Clone(other[:i+1]), rule.Hosts()[i+1:]...))
	}
	for i := range l {
		l[i].Name = "other"
	}
	checkHosts(t, other)
	checkHosts(t, rule.Hosts())
	l = append(l[:3], l[:9]...)
	clear(l)
	checkHosts(t, rule.Hosts())

	// Each list alone, with all others of the same answer as they were.
	for i := range other {
		x := rule.Hosts()
		for _, list := range [][]uint8{x[i].Type.Params, x[i].Type.Results} {
			for j := range list[:cap(list)] {
				list[:cap(list)][j] = 0x55
			}
		}
		x[i] = other[i]
		checkHosts(t, x)
	}
	for name := range strings.FieldsSeq("input_len call gas_left") {
		if _, is := rule.Find(name); !is {
			t.Error(name)
		}
	}
}

func checkFind(t *testing.T, name string, number int, is bool) {
	t.Helper()
	for range 2 {
		if n, got := rule.Find(name); n != number || got != is {
			t.Errorf("Find(%q) = %d, %v, want %d, %v", name, n, got, number, is)
		}
	}
}

// P12.1: Find of each name that is offered, and of what is like it.
func TestFind(t *testing.T) {
	for i, row := range written() {
		checkFind(t, row.name, i, true)
		for at := range row.name {
			before, letter, behind := row.name[:at], row.name[at:at+1], row.name[at+1:]
			checkNone(t, before+strings.ToUpper(letter)+behind)
			checkNone(t, before+behind)
			checkNone(t, before+"x"+behind)
			checkNone(t, before+letter+letter+behind)
			checkNone(t, before+"_"+letter+behind)
			checkNone(t, before)
			checkNone(t, before+"\xff"+behind)
		}
		for _, letter := range []string{" ", "_", "s", "x", "\x00", "é", "\n", "1"} {
			checkNone(t, letter+row.name)
			checkNone(t, row.name+letter)
		}
		for _, other := range written() {
			checkNone(t, row.name+other.name)
			checkNone(t, row.name+"_"+other.name)
			checkNone(t, "env."+row.name)
			checkNone(t, "env")
		}
	}
}

// checkNone asks for a name that is not offered: unless it is a name of the table by chance.
func checkNone(t *testing.T, name string) {
	t.Helper()
	for i, row := range written() {
		if row.name == name {
			checkFind(t, name, i, true)
			return
		}
	}
	checkFind(t, name, 0, false)
}

// P12.1: Find of names that are not offered.
func TestFindNone(t *testing.T) {
	for _, name := range []string{
		"", " ", "_", "0", "16", "-1", "env", "meter", "charge", "main", "init", "sender", "gas", "len", "input len", "input-len", "inputlen",
		"return", "delete", "log", "i32", "value\x00", "\x00", "\xff", "écrire", strings.Repeat("input_len", 1000), strings.Repeat("a", 1<<20),
	} {
		checkFind(t, name, 0, false)
	}
}

// P12.3: what is offered has as many names as functions, and each is found by its own.
func TestAsManyNames(t *testing.T) {
	names := map[string]int{}
	for i, x := range rule.Hosts() {
		names[x.Name]++
		checkFind(t, x.Name, i, true)
	}
	if len(names) != len(rule.Hosts()) || len(names) != 16 {
		t.Errorf("%d names of %d functions", len(names), len(rule.Hosts()))
	}
}
