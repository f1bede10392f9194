package name_test

import (
	"bytes"
	"fmt"
	"math"
	"slices"
	"testing"

	"gabelle/leb"
	"gabelle/name"
)

const (
	greatest       = 1114111
	gapLow, gapTop = 55296, 57343
)

// raw is a number's bytes by the chapter's words, in so many bytes, whether it must have them or not.
func raw(n, count int) []byte {
	switch count {
	case 1:
		return []byte{byte(n)}
	case 2:
		return []byte{byte(192 + n/64), byte(128 + n%64)}
	case 3:
		return []byte{byte(224 + n/4096), byte(128 + n/64%64), byte(128 + n%64)}
	default:
		return []byte{byte(240 + n/262144), byte(128 + n/4096%64), byte(128 + n/64%64), byte(128 + n%64)}
	}
}

// need is how many bytes a character's number must have; 0, if it is none.
func need(n int) int {
	switch {
	case n < 0 || n > greatest || n >= gapLow && n <= gapTop:
		return 0
	case n <= 127:
		return 1
	case n <= 2047:
		return 2
	case n <= 65535:
		return 3
	default:
		return 4
	}
}

func text(numbers ...int) []byte {
	var out []byte
	for _, n := range numbers {
		out = append(out, raw(n, need(n))...)
	}
	return out
}

// low is the lower six bits of a byte that stands behind a character's first one; -1, if it cannot.
func low(b byte) int {
	if b < 128 || b > 191 {
		return -1
	}
	return int(b) - 128
}

// first is how many bytes the character takes that b begins with; 0, if it begins with none.
func first(b []byte) int {
	var n, count int
	switch {
	case b[0] < 128:
		return 1
	case b[0] < 192:
		return 0
	case b[0] < 224:
		n, count = int(b[0])-192, 2
	case b[0] < 240:
		n, count = int(b[0])-224, 3
	case b[0] < 248:
		n, count = int(b[0])-240, 4
	default:
		return 0
	}
	if len(b) < count {
		return 0
	}
	for _, c := range b[1:count] {
		if low(c) < 0 {
			return 0
		}
		n = 64*n + low(c)
	}
	if need(n) != count {
		return 0
	}
	return count
}

// isText is the chapter's words, character by character.
func isText(b []byte) bool {
	for len(b) > 0 {
		n := first(b)
		if n == 0 {
			return false
		}
		b = b[n:]
	}
	return true
}

func checkValid(t *testing.T, b []byte) {
	t.Helper()
	if got, want := name.Valid(b), isText(b); got != want {
		t.Fatalf("Valid(% x) = %v, want %v", b, got, want)
	}
}

// edgeNumbers are the least and the greatest of each count of bytes, and those beside the gap.
func edgeNumbers() []int {
	return []int{0, 'a', 127, 128, 0xe4, 2047, 2048, 0x20ac, gapLow - 1, gapTop + 1, 65535, 65536, 0x1f600, greatest}
}

func texts() [][]byte {
	out := [][]byte{nil, []byte("main"), []byte("a\x00b")}
	for _, n := range edgeNumbers() {
		out = append(out, text(n), text(n, 'x'), text('x', n))
	}
	return append(out, text(edgeNumbers()...))
}

// noTexts are wrong ones: each kind of fault, alone and between what is right.
func noTexts() [][]byte {
	faults := [][]byte{
		{0x80}, {0xbf}, {0xff}, {0xfe}, // none begins a character
		{0xc0, 0x80}, {0xc1, 0xbf}, {0xe0, 0x80, 0x80}, {0xe0, 0x9f, 0xbf}, {0xf0, 0x80, 0x80, 0x80}, {0xf0, 0x8f, 0xbf, 0xbf}, // more bytes than must be
		{0xf8, 0x88, 0x80, 0x80, 0x80}, {0xfc, 0x84, 0x80, 0x80, 0x80, 0x80}, // more than four bytes
		raw(gapLow, 3), raw(gapTop, 3), raw(greatest+1, 4), raw(1<<21-1, 4),
		{0xc2}, {0xe2, 0x82}, {0xe2}, {0xf0, 0x9f, 0x98}, {0xf0, 0x9f}, {0xf0}, // these end too early
		{0xc2, 0x7f}, {0xc2, 0xc0}, {0xe2, 0x28, 0xa1}, {0xe2, 0x82, 0xc0}, {0xf0, 0x28, 0x80, 0x80}, {0xf0, 0x90, 0x80, 0xff},
	}
	var out [][]byte
	for _, f := range faults {
		out = append(out, f, slices.Concat([]byte("ab"), f), slices.Concat(f, []byte("ab")), slices.Concat(text(0x20ac), f, text(0x1f600)))
	}
	return out
}

type answer struct {
	s    string
	used int
	ok   bool
}

func (a answer) String() string { return fmt.Sprintf("%q, %d, %v", a.s, a.used, a.ok) }

func take(b []byte) answer {
	s, used, ok := name.Take(b)
	return answer{s, used, ok}
}

func checkTake(t *testing.T, b []byte, want answer) {
	t.Helper()
	if got := take(b); got != want {
		t.Fatalf("Take(% x) = %v, want %v", b, got, want)
	}
}

func TestExamples(t *testing.T) {
	if got := name.Append(nil, "main"); !bytes.Equal(got, []byte{4, 'm', 'a', 'i', 'n'}) {
		t.Errorf("Append(nothing, main) = % x", got)
	}
	checkTake(t, []byte{2, 0xc3, 0xa4, 7}, answer{"\xc3\xa4", 3, true})
	checkTake(t, []byte{1, 0xc3}, answer{})
	checkTake(t, []byte{2, 'a'}, answer{})
	for _, b := range [][]byte{{0xc0, 0x80}, {0xed, 0xa0, 0x80}, {0xf4, 0x90, 0x80, 0x80}} {
		if name.Valid(b) {
			t.Errorf("Valid of % x", b)
		}
	}
	if !name.Valid(nil) || !name.Valid([]byte{}) {
		t.Error("no bytes are a text")
	}
}

// P2.1: each number in each count of bytes is a text just where it must have that many.
func TestValidNumbers(t *testing.T) {
	beyond := []int{0: 0, 1: 1 << 7, 2: 1 << 11, 3: 1 << 16, 4: 1 << 21}
	for count := 1; count <= 4; count++ {
		for n := range beyond[count] {
			b := raw(n, count)
			if got, want := name.Valid(b), need(n) == count; got != want {
				t.Fatalf("Valid(% x) = %v, want %v: %d in %d bytes", b, got, want, n, count)
			}
		}
	}
}

// P2.1: all bytes, up to three of them.
func TestValidShort(t *testing.T) {
	for x := range 1 << 8 {
		checkValid(t, []byte{byte(x)})
	}
	for x := range 1 << 16 {
		checkValid(t, []byte{byte(x >> 8), byte(x)})
	}
	for x := range 1 << 24 {
		checkValid(t, []byte{byte(x >> 16), byte(x >> 8), byte(x)})
	}
}

// P2.1: four and five bytes, each at an edge of what bytes may be.
func TestValidEdges(t *testing.T) {
	edges := []byte{0, 0x7f, 0x80, 0x8f, 0x90, 0x9f, 0xa0, 0xbf, 0xc1, 0xc2, 0xdf, 0xe0, 0xed, 0xef, 0xf0, 0xf4, 0xf5, 0xff}
	k := len(edges)
	for x := range k * k * k * k {
		b := []byte{edges[x/k/k/k], edges[x/k/k%k], edges[x/k%k], edges[x%k]}
		checkValid(t, b)
		for _, e := range edges {
			checkValid(t, append(b, e))
		}
	}
}

func TestValidTexts(t *testing.T) {
	for _, b := range texts() {
		if !name.Valid(b) {
			t.Errorf("Valid(% x) = false", b)
		}
	}
	for _, b := range noTexts() {
		if name.Valid(b) {
			t.Errorf("Valid(% x) = true", b)
		}
	}
	long := bytes.Repeat(text(0x20ac), 50000)
	if !name.Valid(long) || name.Valid(long[:len(long)-1]) || name.Valid(append(long, 0x80)) {
		t.Error("of a long text")
	}
}

// P2.2: what stands behind a name is not its own, be it a text or not.
func TestTake(t *testing.T) {
	for _, s := range texts() {
		head := leb.AppendU(nil, uint64(len(s)))
		for _, tail := range [][]byte{nil, {0}, []byte("more"), {0x80}, {0xff, 0xff}} {
			checkTake(t, slices.Concat(head, s, tail), answer{string(s), len(head) + len(s), true})
		}
	}
	checkTake(t, []byte{0}, answer{"", 1, true})
	checkTake(t, []byte{0, 0xff}, answer{"", 1, true})
}

// P2.2: a length may have more bytes than it needs, up to five; one above 32 bits is none.
func TestTakeLength(t *testing.T) {
	hello := []byte("hello")
	for count := 2; count <= 8; count++ {
		head := append([]byte{0x85}, bytes.Repeat([]byte{0x80}, count-1)...)
		head[count-1] = 0
		want := answer{}
		if count <= 5 {
			want = answer{"hello", count + 5, true}
		}
		checkTake(t, slices.Concat(head, hello), want)
	}
	checkTake(t, slices.Concat([]byte{0x85, 0x80, 0x80, 0x80, 0x10}, hello), answer{})
	for _, n := range []int{127, 128, 16383, 16384, 100000} {
		s := bytes.Repeat([]byte{'x'}, n)
		head := leb.AppendU(nil, uint64(n))
		checkTake(t, slices.Concat(head, s, []byte{0xff}), answer{string(s), len(head) + n, true})
	}
}

// P2.2: a length that is longer than what stands behind it, by one and by far.
func TestTakeTooLong(t *testing.T) {
	for _, n := range []uint64{1, 2, 127, 128, 65536, math.MaxInt32, math.MaxInt32 + 1, math.MaxUint32 - 5, math.MaxUint32, math.MaxUint32 + 1, math.MaxInt64, math.MaxUint64} {
		checkTake(t, leb.AppendU(nil, n), answer{})
		checkTake(t, slices.Concat(leb.AppendU(nil, n), bytes.Repeat([]byte{'x'}, int(min(n-1, 70000)))), answer{})
	}
}

// P2.2: bytes that end too early, within the length and within the text.
func TestTakeEndsEarly(t *testing.T) {
	checkTake(t, nil, answer{})
	checkTake(t, []byte{}, answer{})
	for _, s := range append(texts(), bytes.Repeat([]byte{'x'}, 20000)) {
		b := name.Append(nil, string(s))
		for i := range len(b) {
			checkTake(t, b[:i], answer{})
			checkTake(t, b[:i:i], answer{})
		}
	}
}

// P2.2: bytes that are no text are no name, even where what follows would make them one.
func TestTakeNoText(t *testing.T) {
	for _, s := range noTexts() {
		b := name.Append(nil, string(s))
		for _, tail := range [][]byte{nil, {0x80}, {0x82, 0xac}, []byte("ab")} {
			checkTake(t, slices.Concat(b, tail), answer{})
		}
	}
	checkTake(t, []byte{2, 0xe2, 0x82, 0xac}, answer{})
}

// P2.2: all bytes, three of them, held against the chapter's words.
func TestTakeShort(t *testing.T) {
	for x := range 1 << 24 {
		b := []byte{byte(x >> 16), byte(x >> 8), byte(x)}
		want := answer{}
		if n, used, ok := leb.TakeU(b, 32); ok && n <= uint64(3-used) && isText(b[used:used+int(n)]) {
			want = answer{string(b[used : used+int(n)]), used + int(n), true}
		}
		if got := take(b); got != want {
			t.Fatalf("Take(% x) = %v, want %v", b, got, want)
		}
	}
}

// P2.2: b, the length in the fewest bytes, and s, be it a text or not.
func TestAppend(t *testing.T) {
	all := append(texts(), noTexts()...)
	for _, n := range []int{126, 127, 128, 129, 16383, 16384, 70000} {
		all = append(all, bytes.Repeat([]byte{0xff}, n))
	}
	for _, b := range [][]byte{nil, {}, {5}, {0xff, 0x80, 0}} {
		for _, s := range all {
			want := slices.Concat(b, leb.AppendU(nil, uint64(len(s))), s)
			if got := name.Append(b, string(s)); !bytes.Equal(got, want) {
				t.Fatalf("Append(% x, % x) = % x", b, s, got)
			}
		}
	}
	if got := name.Append(nil, string(bytes.Repeat([]byte{'x'}, 300)))[:3]; !bytes.Equal(got, []byte{0xac, 2, 'x'}) {
		t.Errorf("a length of 300: % x", got)
	}
}

// P2.2: what is appended is in bytes of its own, where b has room as well.
func TestAppendOwnBytes(t *testing.T) {
	room := []byte{1, 2, 3, 4, 5, 6, 7, 8}
	b := room[:2]
	one, two := name.Append(b, "ab"), name.Append(b, "cd")
	none := name.Append(b, "")
	if !bytes.Equal(room, []byte{1, 2, 3, 4, 5, 6, 7, 8}) {
		t.Errorf("the room of b: % x", room)
	}
	one[0], none[0] = 9, 9
	if room[0] != 1 || !bytes.Equal(two, []byte{1, 2, 2, 'c', 'd'}) {
		t.Errorf("shared: % x, % x", room, two)
	}
	room[1] = 8
	if one[1] != 2 || two[1] != 2 || none[1] != 2 {
		t.Error("what was answered lies in b")
	}
}

// R3: what is handed in is not changed, and what is answered does not change with it.
func TestTakeChangesNothing(t *testing.T) {
	b := []byte{3, 0xe2, 0x82, 0xac, 7}
	got := take(b)
	name.Valid(b)
	if !bytes.Equal(b, []byte{3, 0xe2, 0x82, 0xac, 7}) {
		t.Errorf("now % x", b)
	}
	clear(b)
	if want := (answer{"\xe2\x82\xac", 4, true}); got != want {
		t.Errorf("%v, want %v", got, want)
	}
}

// P2.3: a text that was appended is taken as it was, and so is one behind it.
func TestTakenAsAppended(t *testing.T) {
	for _, s := range texts() {
		for _, u := range texts() {
			b := name.Append(name.Append([]byte{5}, string(s)), string(u))
			one := take(b[1:])
			two := take(b[min(1+one.used, len(b)):])
			if one.s != string(s) || two.s != string(u) || !one.ok || !two.ok || 1+one.used+two.used != len(b) {
				t.Fatalf("% x, % x appended: %v; %v taken", s, u, one, two)
			}
		}
	}
}

// P2.3: texts one behind the other are one.
func TestTextsBehindOneAnother(t *testing.T) {
	for _, s := range texts() {
		for _, u := range texts() {
			if !name.Valid(slices.Concat(s, u)) || !name.Valid(slices.Concat(s, u, s)) {
				t.Fatalf("% x and % x are no text", s, u)
			}
		}
	}
}

// P2.3: a text that is cut is two just if it is cut between characters.
func TestTextCut(t *testing.T) {
	for _, a := range edgeNumbers() {
		for _, z := range edgeNumbers() {
			checkCuts(t, a, z, a)
			checkCuts(t, a, z)
		}
	}
}

func checkCuts(t *testing.T, numbers ...int) {
	t.Helper()
	b := text(numbers...)
	between := []int{0}
	for _, n := range numbers {
		between = append(between, between[len(between)-1]+need(n))
	}
	for i := range len(b) + 1 {
		both := name.Valid(b[:i]) && name.Valid(b[i:])
		if both != slices.Contains(between, i) {
			t.Fatalf("% x cut at %d: two texts is %v", b, i, both)
		}
	}
}
