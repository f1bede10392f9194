package sect_test

import (
	"bytes"
	"math"
	"slices"
	"testing"

	"gabelle/api"
	"gabelle/leb"
	"gabelle/name"
	"gabelle/sect"
)

func same(s, u sect.Section) bool { return s.Id == u.Id && bytes.Equal(s.B, u.B) }

func sameAll(l, m []sect.Section) bool { return slices.EqualFunc(l, m, same) }

// copyOf is in memory of its own.
func copyOf(l []sect.Section) []sect.Section {
	m := slices.Clone(l)
	for i := range m {
		m[i].B = bytes.Clone(m[i].B)
	}
	return m
}

// of is a binary of the pieces behind the beginning.
func of(pieces ...[]byte) []byte { return slices.Concat(append([][]byte{head()}, pieces...)...) }

func checkSplit(t *testing.T, b []byte, want ...sect.Section) {
	t.Helper()
	if got, e := sect.Split(b); !sameAll(got, want) || e != api.OK {
		t.Fatalf("Split(% x) = %v, %d, want %v", b, got, e, want)
	}
}

func checkNoBinary(t *testing.T, b []byte) {
	t.Helper()
	if got, e := sect.Split(b); len(got) > 0 || e != api.ErrBin {
		t.Fatalf("Split(% x) = %v, %d, want ErrBin", b, got, e)
	}
}

func checkSplitModel(t *testing.T, b []byte) {
	t.Helper()
	want, e := modelSplit(b)
	if e != api.OK {
		checkNoBinary(t, b)
		return
	}
	checkSplit(t, b, want...)
}

func checkJoinModel(t *testing.T, l ...sect.Section) {
	t.Helper()
	want, wantE := modelJoin(l)
	if got, e := sect.Join(l); !bytes.Equal(got, want) || e != wantE {
		t.Fatalf("Join(%v) = % x, %d, want % x, %d", l, got, e, want, wantE)
	}
}

// contents are some for each section: none, short ones, ones that look like something else, long ones.
func contents() [][]byte {
	return [][]byte{nil, {0}, {1, 2, 3}, {0xff, 0x80}, head(), {0, 1, 0}, {0x0b, 0}, bytes.Repeat([]byte{7}, 127), bytes.Repeat([]byte{8}, 128), bytes.Repeat([]byte{9}, 300)}
}

// chosen are the sections whose bits are set, with the contents that come in turn.
func chosen(set int) []sect.Section {
	var l []sect.Section
	all := contents()
	for id := uint8(1); id <= 11; id++ {
		if set>>(id-1)&1 == 1 {
			l = append(l, sect.Section{Id: id, B: all[(set+int(id))%len(all)]})
		}
	}
	return l
}

// customs are custom sections that may be.
func customs() [][]byte {
	long := bytes.Repeat([]byte{'x'}, 200)
	return [][]byte{
		bytesOf(0, []byte{0}),
		bytesOf(0, []byte{1, 'a'}),
		bytesOf(0, []byte{2, 0xc3, 0xa4, 7}),
		bytesOf(0, []byte{0, 0xff, 0x80, 0}),
		bytesOf(0, []byte{0x81, 0x80, 0, 'a', 0xc3}),
		bytesOf(0, name.Append(nil, string(long))),
		{0, 0x82, 0x80, 0x80, 0x80, 0, 1, 'a'},
	}
}

// noCustoms are of number 0, with no name.
func noCustoms() [][]byte {
	return [][]byte{
		bytesOf(0, nil),
		bytesOf(0, []byte{1}),
		bytesOf(0, []byte{2, 'a'}),
		bytesOf(0, []byte{0x80}),
		bytesOf(0, []byte{1, 0xc3}),
		bytesOf(0, []byte{2, 0xc0, 0x80}),
		bytesOf(0, []byte{3, 0xed, 0xa0, 0x80}),
		bytesOf(0, []byte{0x81, 0x80, 0x80, 0x80, 0x80, 0, 'a'}),
		bytesOf(0, []byte{0xff, 0xff, 0xff, 0xff, 0x0f, 'a'}),
	}
}

func TestExamples(t *testing.T) {
	checkSplit(t, head())
	for _, l := range [][]sect.Section{nil, {}} {
		if b, e := sect.Join(l); !bytes.Equal(b, head()) || e != api.OK {
			t.Errorf("Join of none = % x, %d", b, e)
		}
	}
	checkSplit(t, of([]byte{0x03, 0x01, 0x00}, []byte{0x00, 0x02, 0x01, 0x61}, []byte{0x0a, 0x00}), sect.Section{Id: 3, B: []byte{0}}, sect.Section{Id: 10})
	checkNoBinary(t, of([]byte{0x03, 0x00, 0x03, 0x00}))
	checkNoBinary(t, of([]byte{0x0c, 0x00}))
	checkNoBinary(t, head()[:7])
	checkNoBinary(t, of([]byte{0x00, 0x00}))
}

// P5.1: a beginning that is too short, or has another byte, with sections behind it or none.
func TestBeginning(t *testing.T) {
	checkNoBinary(t, nil)
	checkNoBinary(t, []byte{})
	for i := range head() {
		checkNoBinary(t, head()[:i])
		checkNoBinary(t, slices.Concat(head()[:i], head()[i+1:], bytesOf(1, nil)))
		for x := 1; x < 256; x++ {
			b := of(bytesOf(1, nil))
			b[i] ^= byte(x)
			checkNoBinary(t, b)
			checkNoBinary(t, b[:8])
		}
	}
	checkNoBinary(t, slices.Concat([]byte{0}, head()))
	checkNoBinary(t, bytesOf(1, nil))
	checkNoBinary(t, of(head()))
}

// P5.1: each number, alone and behind a section of number 5; the bytes are no name, so that 0 may not be either.
func TestSplitNumbers(t *testing.T) {
	five := sect.Section{Id: 5, B: []byte{9}}
	for id := range 256 {
		s := sect.Section{Id: uint8(id), B: []byte{0xff, 2, 3}}
		alone, behind := of(bytesOf(s.Id, s.B)), of(bytesOf(five.Id, five.B), bytesOf(s.Id, s.B))
		if id >= 1 && id <= 11 {
			checkSplit(t, alone, s)
		} else {
			checkNoBinary(t, alone)
		}
		if id >= 6 && id <= 11 {
			checkSplit(t, behind, five, s)
		} else {
			checkNoBinary(t, behind)
		}
	}
}

// P5.1: three numbers in whatever order, of all that are and those beside them.
func TestSplitOrder(t *testing.T) {
	for x := range 14 * 14 * 14 {
		one, two, three := uint8(x/14/14), uint8(x/14%14), uint8(x%14)
		checkSplitModel(t, of(bytesOf(one, []byte{0}), bytesOf(two, []byte{1, 'a'}), bytesOf(three, []byte{0, 1})))
	}
}

// P5.1: what is told stands in order, with what it was given, be that none.
func TestSplitContents(t *testing.T) {
	for id := uint8(1); id <= 10; id++ {
		for _, one := range contents() {
			for _, two := range contents() {
				checkSplit(t, of(bytesOf(id, one), bytesOf(id+1, two)), sect.Section{Id: id, B: one}, sect.Section{Id: id + 1, B: two})
			}
		}
	}
}

// P5.1: a length may have more bytes than it needs, up to five, and be of 32 bits.
func TestLengthBytes(t *testing.T) {
	for _, b := range [][]byte{nil, {'h', 'i'}, bytes.Repeat([]byte{'x'}, 128)} {
		for count := len(fewest(len(b))); count <= 9; count++ {
			length := inBytes(len(b), count)
			one := of([]byte{4}, length, b)
			behind := of(bytesOf(3, nil), []byte{4}, length, b, bytesOf(7, nil))
			named := of([]byte{0}, length, b)
			if count > 5 {
				checkNoBinary(t, one)
				checkNoBinary(t, behind)
				checkNoBinary(t, named)
				continue
			}
			checkSplit(t, one, sect.Section{Id: 4, B: b})
			checkSplit(t, behind, sect.Section{Id: 3}, sect.Section{Id: 4, B: b}, sect.Section{Id: 7})
			checkSplitModel(t, named)
		}
	}
	checkNoBinary(t, of([]byte{4, 0x82, 0x80, 0x80, 0x80, 0x10}, []byte("hi")))
	checkNoBinary(t, of([]byte{4, 0x82, 0x80, 0x80, 0x80, 0x80, 0x00}, []byte("hi")))
}

// P5.1: lengths that go beyond the bytes, by one and by far.
func TestLengthBeyond(t *testing.T) {
	for _, n := range []uint64{1, 2, 127, 128, 65536, math.MaxInt32, math.MaxInt32 + 1, math.MaxUint32 - 8, math.MaxUint32, math.MaxUint32 + 1, math.MaxInt64, math.MaxUint64 - 8, math.MaxUint64} {
		length := leb.AppendU(nil, n)
		room := bytes.Repeat([]byte{0}, int(min(n-1, 70000)))
		for _, id := range []byte{0, 1, 11} {
			checkNoBinary(t, of([]byte{id}, length))
			checkNoBinary(t, of([]byte{id}, length, room))
			checkNoBinary(t, of(bytesOf(0, []byte{0}), []byte{id}, length, room))
		}
	}
}

// P5.1: bytes that are cut are a binary's just where a section ends.
func TestCut(t *testing.T) {
	for _, c := range customs() {
		b := head()
		ends := []int{len(b)}
		for _, piece := range [][]byte{bytesOf(1, []byte{1, 2, 3}), c, bytesOf(6, bytes.Repeat([]byte{5}, 130)), bytesOf(11, nil)} {
			b = append(b, piece...)
			ends = append(ends, len(b))
		}
		for i := range len(b) + 1 {
			if got, e := sect.Split(b[:i]); (e == api.OK) != slices.Contains(ends, i) || e != api.OK && (len(got) > 0 || e != api.ErrBin) {
				t.Fatalf("% x cut at %d: %v, %d", b, i, got, e)
			}
			if i > 0 {
				checkSplitModel(t, b[:i:i])
				checkSplitModel(t, slices.Concat(b[:i-1], b[i:]))
			}
		}
	}
}

// P5.1: one byte more, of each value, behind a section and behind none.
func TestOneByteMore(t *testing.T) {
	for x := range 256 {
		checkNoBinary(t, of([]byte{byte(x)}))
		checkNoBinary(t, of(bytesOf(1, []byte{2}), []byte{byte(x)}))
	}
}

// P5.1: whatever bytes stand behind the beginning, each at an edge of what they may be, held against the chapter's words.
func TestSplitShort(t *testing.T) {
	edges := []byte{0, 1, 2, 3, 4, 0x0a, 0x0b, 0x0c, 'a', 0x7f, 0x80, 0x81, 0xff}
	var walk func(b []byte, more int)
	walk = func(b []byte, more int) {
		checkSplitModel(t, b)
		if more == 0 {
			return
		}
		for _, x := range edges {
			walk(append(b[:len(b):len(b)], x), more-1)
		}
	}
	walk(head(), 5)
}

// P5.1: custom sections with a name, however long, and whatever stands behind it.
func TestCustom(t *testing.T) {
	for _, c := range customs() {
		checkSplit(t, of(c))
		checkSplit(t, of(c, c, c))
		checkSplit(t, of(c, bytesOf(2, []byte{5}), c), sect.Section{Id: 2, B: []byte{5}})
	}
}

// P5.1: custom sections without a name, or with one that is no text, wherever they stand; a name lies within its section.
func TestCustomWithoutName(t *testing.T) {
	for _, c := range noCustoms() {
		checkNoBinary(t, of(c))
		checkNoBinary(t, of(c, bytesOf(1, []byte("abc"))))
		checkNoBinary(t, of(bytesOf(1, nil), c))
		checkNoBinary(t, of(bytesOf(1, nil), c, bytesOf(2, nil)))
		checkNoBinary(t, of(customs()[0], c, customs()[1]))
	}
	checkNoBinary(t, of([]byte{0, 1, 1, 'a', 1}, []byte("a")))
	checkNoBinary(t, of([]byte{0, 2, 3, 'a'}, []byte("bc")))
}

// P5.1: a custom section does not let a number come that could not come without it.
func TestCustomBetweenNumbers(t *testing.T) {
	for _, c := range customs() {
		for x := range 12 * 12 {
			one, two := uint8(x/12+1), uint8(x%12+1)
			checkSplitModel(t, of(bytesOf(one, nil), c, bytesOf(two, nil)))
			checkSplitModel(t, of(c, bytesOf(one, nil), c, c, bytesOf(two, nil), c))
		}
	}
}

// P5.1: many custom sections, one behind the other, and a long one.
func TestManyCustoms(t *testing.T) {
	many := bytes.Repeat(bytesOf(0, []byte{1, 'a'}), 200000)
	checkSplit(t, of(many, bytesOf(1, []byte{2}), many), sect.Section{Id: 1, B: []byte{2}})
	long := bytesOf(0, append([]byte{0}, make([]byte, 1<<20)...))
	checkSplit(t, of(long, bytesOf(11, nil)), sect.Section{Id: 11})
	if _, e := sect.Split(of(many, []byte{0, 0})); e != api.ErrBin {
		t.Errorf("behind many: %d", e)
	}
}

// P5.1, R3: what is told is in bytes of its own, those of no two sections the same, and b is not changed.
func TestSplitOwnBytes(t *testing.T) {
	b := of(bytesOf(1, []byte{1, 2}), bytesOf(0, []byte{1, 'a'}), bytesOf(2, []byte{3, 4}), bytesOf(3, []byte{5}))
	was := bytes.Clone(b)
	l, _ := sect.Split(b)
	again, _ := sect.Split(b)
	if !bytes.Equal(b, was) {
		t.Fatalf("Split changed b: % x", b)
	}
	want := copyOf(l)
	clear(b)
	if !sameAll(l, want) {
		t.Errorf("what is told lies in b: %v", l)
	}
	for i := range l {
		l[i].B = append(l[i].B, 9, 9, 9, 9, 9, 9, 9, 9)
		l[i].B[0] = 9
		if !sameAll(l[i+1:], want[i+1:]) || !sameAll(again, want) {
			t.Errorf("sections share bytes: %v, %v", l, again)
		}
	}
	if len(b) != len(was) || bytes.ContainsFunc(b, func(r rune) bool { return r != 0 }) {
		t.Errorf("what is told lies in b: % x", b)
	}
}

// P5.2: each number, alone and behind one of 5.
func TestJoinNumbers(t *testing.T) {
	for id := range 256 {
		s := sect.Section{Id: uint8(id), B: []byte{1, 'a'}}
		checkJoinModel(t, s)
		checkJoinModel(t, sect.Section{Id: 5}, s)
		checkJoinModel(t, s, sect.Section{Id: 5})
	}
}

// P5.2: three numbers in whatever order, of all that are and those beside them.
func TestJoinOrder(t *testing.T) {
	for x := range 14 * 14 * 14 {
		one, two, three := uint8(x/14/14), uint8(x/14%14), uint8(x%14)
		checkJoinModel(t, sect.Section{Id: one, B: []byte{0}}, sect.Section{Id: two, B: []byte{1, 'a'}}, sect.Section{Id: three})
	}
}

// P5.2: a number that may not be after all that may, and a list that is far too long.
func TestJoinTooMany(t *testing.T) {
	all := chosen(1<<11 - 1)
	for _, id := range []uint8{0, 1, 10, 11, 12, 255} {
		checkJoinModel(t, append(all[:11:11], sect.Section{Id: id})...)
	}
	if b, e := sect.Join(make([]sect.Section, 1<<20)); len(b) > 0 || e != api.ErrArg {
		t.Errorf("of many: %d bytes, %d", len(b), e)
	}
}

// P5.2: lengths in the fewest bytes.
func TestJoinLengths(t *testing.T) {
	for _, n := range []int{0, 1, 127, 128, 129, 16383, 16384, 16385, 1<<21 - 1, 1 << 21} {
		b, e := sect.Join([]sect.Section{{Id: 7, B: make([]byte, n)}, {Id: 8, B: []byte{1}}})
		want := of([]byte{7}, fewest(n), make([]byte, n), []byte{8, 1, 1})
		if !bytes.Equal(b, want) || e != api.OK {
			t.Errorf("of %d bytes: % x.., %d bytes, want % x.., %d bytes; %d", n, b[:min(len(b), 12)], len(b), want[:12], len(want), e)
		}
	}
}

// P5.2, R3: what is joined does not lie in what was handed in, nor in what was joined before, and nothing of it is changed.
func TestJoinOwnBytes(t *testing.T) {
	room := []byte{1, 2, 3, 4, 5, 6}
	l := []sect.Section{{Id: 1, B: room[:2]}, {Id: 2, B: room[2:4]}, {Id: 9}}
	was := copyOf(l)
	b, _ := sect.Join(l)
	again, _ := sect.Join(l)
	if !sameAll(l, was) || !bytes.Equal(room, []byte{1, 2, 3, 4, 5, 6}) {
		t.Fatalf("Join changed what was handed in: %v, % x", l, room)
	}
	want := bytes.Clone(b)
	clear(room)
	l[0].Id, l[2].B = 7, room
	if !bytes.Equal(b, want) {
		t.Errorf("what is joined lies in what was handed in: % x", b)
	}
	clear(b)
	if !bytes.Equal(again, want) {
		t.Errorf("what is joined twice is shared: % x", again)
	}
	none, _ := sect.Join(nil)
	clear(none)
	if none, _ = sect.Join(nil); !bytes.Equal(none, head()) {
		t.Errorf("the beginning is shared: % x", none)
	}
}

// P5.3: what was joined is split as it was, of all choices of sections.
func TestSplitAsJoined(t *testing.T) {
	for set := range 1 << 11 {
		l := chosen(set)
		b, e := sect.Join(l)
		if e != api.OK {
			t.Fatalf("Join(%v): %d", l, e)
		}
		checkSplit(t, b, l...)
	}
}

// P5.3: what is split may be joined, and has at most as many bytes then: fewer by those that a length had too many, and by custom sections.
func TestJoinedAsSplit(t *testing.T) {
	for set := range 1 << 11 {
		fewer := 0
		b := head()
		for i, s := range chosen(set) {
			count := min(len(fewest(len(s.B)))+i%4, 5)
			fewer += count - len(fewest(len(s.B)))
			b = slices.Concat(b, []byte{s.Id}, inBytes(len(s.B), count), s.B)
			if i%3 == set%3 {
				c := customs()[set%len(customs())]
				b, fewer = append(b, c...), fewer+len(c)
			}
		}
		l, e := sect.Split(b)
		joined, joinE := sect.Join(l)
		if e != api.OK || joinE != api.OK || !sameAll(l, chosen(set)) || len(joined) != len(b)-fewer {
			t.Fatalf("Split(% x) = %v, %d, joined % x, %d", b, l, e, joined, joinE)
		}
	}
}

// P5.3: a custom section anywhere makes no difference: ahead of all, between any two, behind all.
func TestCustomAnywhere(t *testing.T) {
	sets := []int{0, 1, 1 << 10, 0b10000000001, 0b00111001010, 1<<11 - 1}
	for _, set := range sets {
		l := chosen(set)
		for _, c := range customs() {
			for at := range len(l) + 1 {
				ahead, _ := sect.Join(l[:at])
				b := append(ahead, c...)
				for _, s := range l[at:] {
					b = append(b, bytesOf(s.Id, s.B)...)
				}
				checkSplit(t, b, l...)
			}
		}
	}
}
