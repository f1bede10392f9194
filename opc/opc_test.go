package opc_test

import (
	"bytes"
	"slices"
	"strconv"
	"strings"
	"testing"

	"gabelle/api"
	"gabelle/opc"
)

// row is what the chapter says of one opcode; the zero row, of one that is not in its table.
type row struct {
	known          bool
	name           string
	form           uint8
	plain          bool
	params, result []uint8
	width          int
}

// table is the chapter's, row by row, at the opcodes' places.
func table(t *testing.T) [256]row {
	t.Helper()
	var out [256]row
	for line := range strings.Lines(strings.TrimSpace(chapter)) {
		cells := strings.Split(strings.Trim(strings.TrimSpace(line), "|"), "|")
		if len(cells) != 5 {
			t.Fatalf("a row of %d: %q", len(cells), line)
		}
		for i := range cells {
			cells[i] = strings.TrimSpace(cells[i])
		}
		op, err := strconv.ParseUint(cells[0], 16, 8)
		if err != nil || out[op].known {
			t.Fatalf("no opcode, or one twice: %q", line)
		}
		r := row{known: true, name: cells[1], form: formOf(t, cells[2])}
		if cells[3] != "-" {
			takes, gives, _ := strings.Cut(cells[3], ">")
			r.plain, r.params, r.result = true, types(t, takes), types(t, gives)
		}
		if cells[4] != "" {
			r.width = int(cells[4][0] - '0')
		}
		out[op] = r
	}
	return out
}

func formOf(t *testing.T, words string) uint8 {
	t.Helper()
	inOrder := []string{"nothing", "a block's type", "a label", "labels", "an index", "a type, and a byte 0", "an access", "a byte 0", "a constant of 32 bits", "a constant of 64 bits"}
	at := slices.Index(inOrder, words)
	if at < 0 {
		t.Fatalf("no form: %q", words)
	}
	return uint8(at)
}

func types(t *testing.T, words string) []uint8 {
	t.Helper()
	var out []uint8
	for _, w := range strings.Fields(words) {
		switch w {
		case "i32":
			out = append(out, 0x7f)
		case "i64":
			out = append(out, 0x7e)
		default:
			t.Fatalf("no type: %q", w)
		}
	}
	return out
}

// ofFloats is the chapter's list of the opcodes of floats.
func ofFloats() [256]bool {
	var out [256]bool
	for _, span := range [][2]int{{0x2a, 0x2a}, {0x2b, 0x2b}, {0x38, 0x38}, {0x39, 0x39}, {0x43, 0x43}, {0x44, 0x44}, {0x5b, 0x66}, {0x8b, 0xa6}, {0xa8, 0xab}, {0xae, 0xbf}} {
		for op := span[0]; op <= span[1]; op++ {
			out[op] = true
		}
	}
	return out
}

func checkSig(t *testing.T, op uint8, params, result []uint8, plain bool) {
	t.Helper()
	p, r, ok := opc.Sig(op)
	if !bytes.Equal(p, params) || !bytes.Equal(r, result) || ok != plain {
		t.Errorf("Sig(%02x) = % x, % x, %v, want % x, % x, %v", op, p, r, ok, params, result, plain)
	}
}

func checkFind(t *testing.T, name string, op uint8, ok bool) {
	t.Helper()
	if gotOp, gotOk := opc.Find(name); gotOp != op || gotOk != ok {
		t.Errorf("Find(%q) = %02x, %v, want %02x, %v", name, gotOp, gotOk, op, ok)
	}
}

func TestExamples(t *testing.T) {
	if !opc.Known(0x6a) || opc.Known(0xc0) || !opc.Float(0xa8) || opc.Float(0xa7) {
		t.Error(opc.Known(0x6a), opc.Known(0xc0), opc.Float(0xa8), opc.Float(0xa7))
	}
	checkSig(t, 0x37, []uint8{api.I32, api.I64}, nil, true)
	checkSig(t, 0x10, nil, nil, false)
	if opc.Form(0x11) != 5 || opc.Width(0x35) != 4 || opc.Name(0x8a) != "i64.rotr" {
		t.Error(opc.Form(0x11), opc.Width(0x35), opc.Name(0x8a))
	}
	checkFind(t, "i32.lt_u", 0x49, true)
}

// P3.1: the constants of forms have the chapter's numbers.
func TestForms(t *testing.T) {
	got := []uint8{opc.FmNone, opc.FmBlock, opc.FmLabel, opc.FmLabels, opc.FmIndex, opc.FmIndirect, opc.FmAccess, opc.FmPage, opc.FmI32, opc.FmI64}
	if !bytes.Equal(got, []uint8{0, 1, 2, 3, 4, 5, 6, 7, 8, 9}) {
		t.Error(got)
	}
}

// P3.1: all opcodes, held against the chapter's table and its list of those of floats.
func TestKnownFloatFormWidth(t *testing.T) {
	rows, floats := table(t), ofFloats()
	known := 0
	for i, r := range rows {
		op := uint8(i)
		if r.known {
			known++
		}
		if got := opc.Known(op); got != r.known {
			t.Errorf("Known(%02x) = %v", op, got)
		}
		if got := opc.Float(op); got != floats[i] {
			t.Errorf("Float(%02x) = %v", op, got)
		}
		if got := opc.Form(op); got != r.form {
			t.Errorf("Form(%02x) = %d, want %d", op, got, r.form)
		}
		if got := opc.Width(op); got != r.width {
			t.Errorf("Width(%02x) = %d, want %d", op, got, r.width)
		}
	}
	if known != 104 {
		t.Errorf("the table has %d opcodes", known)
	}
}

// P3.1: opcodes that are neither known nor of floats, at the ends of each gap.
func TestNeither(t *testing.T) {
	for _, span := range [][2]int{{0x06, 0x0a}, {0x12, 0x19}, {0x1c, 0x1f}, {0x25, 0x27}, {0xc0, 0xff}} {
		for i := span[0]; i <= span[1]; i++ {
			op := uint8(i)
			if opc.Known(op) || opc.Float(op) || opc.Form(op) != opc.FmNone || opc.Width(op) != 0 || opc.Name(op) != "" {
				t.Errorf("%02x: %v, %v, %d, %d, %q", op, opc.Known(op), opc.Float(op), opc.Form(op), opc.Width(op), opc.Name(op))
			}
			checkSig(t, op, nil, nil, false)
		}
		for _, i := range []int{span[0] - 1, span[1] + 1} {
			if i < 256 && !opc.Known(uint8(i)) && !opc.Float(uint8(i)) {
				t.Errorf("%02x is neither", i)
			}
		}
	}
}

// P3.1: accesses alone have a width, and it is that of which their names speak.
func TestAccesses(t *testing.T) {
	for i := range 256 {
		op := uint8(i)
		width := opc.Width(op)
		if (width > 0) != (opc.Form(op) == opc.FmAccess) {
			t.Errorf("%02x: a width of %d, a form of %d", op, width, opc.Form(op))
		}
		if width > 0 && width != widthOfName(opc.Name(op)) {
			t.Errorf("%s: a width of %d", opc.Name(op), width)
		}
	}
	for _, op := range []uint8{0x27, 0x2a, 0x2b, 0x38, 0x39, api.OpMemSize, api.OpMemGrow} {
		if opc.Width(op) != 0 || opc.Form(op) == opc.FmAccess {
			t.Errorf("%02x is an access", op)
		}
	}
}

// widthOfName: i64.load16_s is one of 16 bits; i64.load of all its type's.
func widthOfName(name string) int {
	digits := func(s string) string { return strings.Map(digit, s) }
	kind, what, _ := strings.Cut(name, ".")
	bits := digits(what)
	if bits == "" {
		bits = digits(kind)
	}
	n, _ := strconv.Atoi(bits)
	return n / 8
}

func digit(r rune) rune {
	if '0' <= r && r <= '9' {
		return r
	}
	return -1
}

// P3.2: all opcodes, held against the chapter's table.
func TestSig(t *testing.T) {
	for i, r := range table(t) {
		checkSig(t, uint8(i), r.params, r.result, r.plain)
	}
}

// P3.2: known ones that are not plain, and those of floats, answer false and nothing.
func TestSigOfNoPlain(t *testing.T) {
	others := []uint8{api.OpUnreachable, api.OpNop, api.OpBlock, api.OpLoop, api.OpIf, api.OpElse, api.OpEnd, api.OpBr, api.OpBrIf, api.OpBrTable, api.OpReturn, api.OpCall, api.OpCallIndirect, api.OpDrop, api.OpSelect, api.OpLocalGet, api.OpLocalSet, api.OpLocalTee, api.OpGlobalGet, api.OpGlobalSet}
	for i, is := range ofFloats() {
		if is {
			others = append(others, uint8(i))
		}
	}
	for _, op := range others {
		checkSig(t, op, nil, nil, false)
	}
}

// R5: what is done to an answer's lists shows in no other answer.
func TestSigOwnLists(t *testing.T) {
	for i, r := range table(t) {
		op := uint8(i)
		params, results, _ := opc.Sig(op)
		params, results = params[:cap(params)], results[:cap(results)]
		for j := range params {
			params[j] = 0
		}
		for j := range results {
			if results[j] == 0 {
				t.Errorf("Sig(%02x): its lists share bytes", op)
			}
			results[j] = 1
		}
		checkSig(t, op, r.params, r.result, r.plain)
	}
}

// P3.3: all opcodes' names are the chapter's, and each is found.
func TestNameFind(t *testing.T) {
	for i, r := range table(t) {
		if got := opc.Name(uint8(i)); got != r.name {
			t.Errorf("Name(%02x) = %q, want %q", i, got, r.name)
		}
		if r.known {
			checkFind(t, r.name, uint8(i), true)
		}
	}
}

// P3.3: names that no opcode has, far from one and near to it.
func TestFindNone(t *testing.T) {
	for _, name := range []string{"", " ", "x", "\x00", "\xff", "i32", "i64.", ".add", "-", "nothing", "f32.add", "f64.const", "f32.load", "i32.trunc_f32_s", "f64.reinterpret_i64", "i32.extend8_s", "memory.copy", "select t", "ref.null", strings.Repeat("nop", 100000)} {
		checkFind(t, name, 0, false)
	}
	for _, r := range table(t) {
		if !r.known {
			continue
		}
		for _, name := range []string{r.name + " ", " " + r.name, r.name + "\x00", strings.ToUpper(r.name), r.name[1:], r.name + r.name} {
			checkFind(t, name, 0, false)
		}
	}
}

// P3.3: a name cut short is found just where it is one of its own, such as i32.load of i32.load8_s.
func TestFindCutShort(t *testing.T) {
	rows := table(t)
	for _, r := range rows {
		for n := range len(r.name) {
			at := slices.IndexFunc(rows[:], func(o row) bool { return o.known && o.name == r.name[:n] })
			checkFind(t, r.name[:n], uint8(max(at, 0)), at >= 0)
		}
	}
}

// P3.4: none is known and of floats; a known one is found by its name; a plain one gives one value at most, and none just if it stores.
func TestWhatFollows(t *testing.T) {
	for i := range 256 {
		op := uint8(i)
		if opc.Known(op) && opc.Float(op) {
			t.Errorf("%02x is known, and of floats", op)
		}
		if opc.Known(op) {
			checkFind(t, opc.Name(op), op, true)
		} else {
			checkFind(t, opc.Name(op), 0, false)
		}
		params, results, ok := opc.Sig(op)
		if ok && !opc.Known(op) || len(params) > 2 || len(results) > 1 {
			t.Errorf("%02x takes % x, gives % x", op, params, results)
		}
		stores := strings.Contains(opc.Name(op), ".store")
		if none := ok && len(results) == 0; none != stores {
			t.Errorf("%s gives % x", opc.Name(op), results)
		}
	}
}
