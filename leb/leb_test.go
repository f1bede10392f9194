package leb_test

import (
	"bytes"
	"fmt"
	"math"
	"math/big"
	"math/bits"
	"testing"

	"gabelle/leb"
)

// answer is what a take answers, of either kind.
type answer struct {
	n    string
	used int
	ok   bool
}

func takeU(b []byte, bits int) answer {
	n, used, ok := leb.TakeU(b, bits)
	return answer{fmt.Sprint(n), used, ok}
}

func takeS(b []byte, bits int) answer {
	n, used, ok := leb.TakeS(b, bits)
	return answer{fmt.Sprint(n), used, ok}
}

func none() answer { return answer{"0", 0, false} }

// most is how many bytes a number of so many bits has at most.
func most(bits int) int {
	n := bits / 7
	if bits%7 != 0 {
		n++
	}
	return n
}

// model is the chapter's words, bit by bit, in numbers without bounds.
func model(b []byte, bits int, signed bool) answer {
	if bits < 1 || bits > 64 {
		return none()
	}
	used := 0
	for used < len(b) && b[used] >= 128 {
		used++
	}
	if used++; used > len(b) || used > most(bits) {
		return none()
	}
	last := b[used-1]
	if used == most(bits) && !lastFits(last, bits-7*(used-1), signed) {
		return none()
	}
	n := new(big.Int)
	for i := used - 1; i >= 0; i-- {
		n.Add(n.Lsh(n, 7), big.NewInt(int64(b[i]%128)))
	}
	if signed && last >= 64 {
		n.Sub(n, new(big.Int).Lsh(big.NewInt(1), uint(7*used)))
	}
	return answer{n.String(), used, true}
}

func lastFits(last byte, kept int, signed bool) bool {
	like := byte(0)
	if signed {
		like = last >> (kept - 1) & 1
	}
	for i := kept; i < 7; i++ {
		if last>>i&1 != like {
			return false
		}
	}
	return true
}

func checkModel(t *testing.T, b []byte, bits int) {
	t.Helper()
	if got, want := takeU(b, bits), model(b, bits, false); got != want {
		t.Fatalf("TakeU(% x, %d) = %v, want %v", b, bits, got, want)
	}
	if got, want := takeS(b, bits), model(b, bits, true); got != want {
		t.Fatalf("TakeS(% x, %d) = %v, want %v", b, bits, got, want)
	}
}

// edges are numbers about each power of two, as 64 bits.
func edges() []uint64 {
	out := []uint64{624485, 1<<64 - 123456, 0x0123456789abcdef, 0xfedcba9876543210}
	for i := range 64 {
		p := uint64(1) << i
		out = append(out, p-1, p, p+1, -p-1, -p, -p+1)
	}
	return out
}

func bitsOfU(n uint64) int { return max(1, bits.Len64(n)) }

func bitsOfS(n int64) int { return bits.Len64(uint64(n^n>>63)) + 1 }

func TestExamples(t *testing.T) {
	if got := leb.AppendU(nil, 624485); !bytes.Equal(got, []byte{0xe5, 0x8e, 0x26}) {
		t.Errorf("AppendU of 624485: % x", got)
	}
	if got := leb.AppendS(nil, -123456); !bytes.Equal(got, []byte{0xc0, 0xbb, 0x78}) {
		t.Errorf("AppendS of -123456: % x", got)
	}
	for _, x := range []struct {
		what      string
		got, want answer
	}{
		{"TakeU(e5 8e 26 ff, 32)", takeU([]byte{0xe5, 0x8e, 0x26, 0xff}, 32), answer{"624485", 3, true}},
		{"TakeS(7f, 7)", takeS([]byte{0x7f}, 7), answer{"-1", 1, true}},
		{"TakeU(83 00, 8)", takeU([]byte{0x83, 0x00}, 8), answer{"3", 2, true}},
		{"TakeU(83 10, 8)", takeU([]byte{0x83, 0x10}, 8), none()},
		{"TakeU(80, 32)", takeU([]byte{0x80}, 32), none()},
		{"TakeU of 0 bits", takeU([]byte{0x00}, 0), none()},
		{"TakeS of 0 bits", takeS([]byte{0x00}, 0), none()},
		{"TakeS(ff ff ff ff 4f, 32)", takeS([]byte{0xff, 0xff, 0xff, 0xff, 0x4f}, 32), none()},
		{"TakeS(80 80 80 80 78, 32)", takeS([]byte{0x80, 0x80, 0x80, 0x80, 0x78}, 32), answer{"-2147483648", 5, true}},
	} {
		if x.got != x.want {
			t.Errorf("%s = %v, want %v", x.what, x.got, x.want)
		}
	}
}

// P1.1: the bytes themselves, where their count changes.
func TestAppendU(t *testing.T) {
	for _, x := range []struct {
		n    uint64
		want []byte
	}{
		{0, []byte{0}},
		{1, []byte{1}},
		{63, []byte{0x3f}},
		{64, []byte{0x40}},
		{127, []byte{0x7f}},
		{128, []byte{0x80, 1}},
		{16383, []byte{0xff, 0x7f}},
		{16384, []byte{0x80, 0x80, 1}},
		{math.MaxUint32, []byte{0xff, 0xff, 0xff, 0xff, 0x0f}},
		{1<<63 - 1, []byte{0xff, 0xff, 0xff, 0xff, 0xff, 0xff, 0xff, 0xff, 0x7f}},
		{1 << 63, []byte{0x80, 0x80, 0x80, 0x80, 0x80, 0x80, 0x80, 0x80, 0x80, 1}},
		{math.MaxUint64, []byte{0xff, 0xff, 0xff, 0xff, 0xff, 0xff, 0xff, 0xff, 0xff, 1}},
	} {
		if got := leb.AppendU(nil, x.n); !bytes.Equal(got, x.want) {
			t.Errorf("AppendU(nil, %d) = % x, want % x", x.n, got, x.want)
		}
	}
}

func TestAppendS(t *testing.T) {
	for _, x := range []struct {
		n    int64
		want []byte
	}{
		{0, []byte{0}},
		{1, []byte{1}},
		{-1, []byte{0x7f}},
		{63, []byte{0x3f}},
		{64, []byte{0xc0, 0}},
		{-64, []byte{0x40}},
		{-65, []byte{0xbf, 0x7f}},
		{127, []byte{0xff, 0}},
		{128, []byte{0x80, 1}},
		{8191, []byte{0xff, 0x3f}},
		{8192, []byte{0x80, 0xc0, 0}},
		{-8192, []byte{0x80, 0x40}},
		{-8193, []byte{0xff, 0xbf, 0x7f}},
		{math.MinInt32, []byte{0x80, 0x80, 0x80, 0x80, 0x78}},
		{math.MaxInt64, []byte{0xff, 0xff, 0xff, 0xff, 0xff, 0xff, 0xff, 0xff, 0xff, 0}},
		{math.MinInt64, []byte{0x80, 0x80, 0x80, 0x80, 0x80, 0x80, 0x80, 0x80, 0x80, 0x7f}},
	} {
		if got := leb.AppendS(nil, x.n); !bytes.Equal(got, x.want) {
			t.Errorf("AppendS(nil, %d) = % x, want % x", x.n, got, x.want)
		}
	}
}

// appends are both calls, with a number of one byte and one of the most bytes.
func appends() map[string]func([]byte) []byte {
	return map[string]func([]byte) []byte{
		"AppendU of 5":   func(b []byte) []byte { return leb.AppendU(b, 5) },
		"AppendU of max": func(b []byte) []byte { return leb.AppendU(b, math.MaxUint64) },
		"AppendS of 5":   func(b []byte) []byte { return leb.AppendS(b, 5) },
		"AppendS of min": func(b []byte) []byte { return leb.AppendS(b, math.MinInt64) },
	}
}

// P1.1: behind b, whatever b is.
func TestAppendBehind(t *testing.T) {
	for what, add := range appends() {
		alone := add(nil)
		for _, b := range [][]byte{{}, {0xff}, {0x80, 0x80, 0}, bytes.Repeat([]byte{7}, 1000)} {
			if got, want := add(b), append(bytes.Clone(b), alone...); !bytes.Equal(got, want) {
				t.Errorf("%s behind %d bytes: % x, want % x", what, len(b), got, want)
			}
		}
	}
}

// P1.1, R3: in bytes of their own, though b has room.
func TestAppendOwnBytes(t *testing.T) {
	for what, add := range appends() {
		room := bytes.Repeat([]byte{9}, 40)
		first := add(room[:3])
		second := add(room[:3])
		want := bytes.Clone(second)
		for i := range first {
			first[i] = 0xee
		}
		if !bytes.Equal(room, bytes.Repeat([]byte{9}, 40)) {
			t.Errorf("%s wrote into what was handed in", what)
		}
		if !bytes.Equal(second, want) {
			t.Errorf("%s answered the same bytes twice", what)
		}
		for i := range room {
			room[i] = 0xdd
		}
		if !bytes.Equal(second, want) {
			t.Errorf("%s answered bytes that were handed in", what)
		}
	}
}

// P1.2: all bytes up to two, by all bits, and bits that are none.
func TestTakeShort(t *testing.T) {
	for bits := -1; bits <= 66; bits++ {
		checkModel(t, nil, bits)
		for x := range 256 {
			checkModel(t, []byte{byte(x)}, bits)
		}
	}
	for _, bits := range []int{1, 2, 6, 7, 8, 9, 13, 14, 15, 32, 64} {
		for x := range 1 << 16 {
			checkModel(t, []byte{byte(x), byte(x >> 8)}, bits)
		}
	}
}

// P1.2: all last bytes, at each place up to one too far, by all bits.
func TestTakeLastByte(t *testing.T) {
	for bits := 1; bits <= 64; bits++ {
		for ahead := range most(bits) + 1 {
			for _, fill := range []byte{0x80, 0xff, 0xd5} {
				b := append(bytes.Repeat([]byte{fill}, ahead), 0, 0x55)
				for last := range 256 {
					b[ahead] = byte(last)
					checkModel(t, b, bits)
				}
			}
		}
	}
}

// P1.2: bytes of all lengths, made by a fixed rule.
func TestTakeMixed(t *testing.T) {
	x := uint64(1)
	next := func() byte {
		x = x*6364136223846793005 + 1442695040888963407
		return byte(x >> 56)
	}
	for i := range 20000 {
		b := make([]byte, i%13)
		for j := range b {
			b[j] = next() | 0x80
		}
		if len(b) > 0 {
			b[len(b)-1] = next()
		}
		checkModel(t, b, i%64+1)
	}
}

// P1.2: the least and the greatest of so many bits are taken, and one past them is not.
func TestTakeBounds(t *testing.T) {
	for bits := 1; bits <= 64; bits++ {
		greatest := uint64(math.MaxUint64) >> (64 - bits)
		checkTakenU(t, greatest, bits, true)
		checkTakenU(t, 0, bits, true)
		least := int64(math.MinInt64) >> (64 - bits)
		checkTakenS(t, least, bits, true)
		checkTakenS(t, -1-least, bits, true)
		if bits < 64 {
			checkTakenU(t, greatest+1, bits, false)
			checkTakenS(t, least-1, bits, false)
			checkTakenS(t, -least, bits, false)
		}
	}
}

func checkTakenU(t *testing.T, n uint64, bits int, ok bool) {
	t.Helper()
	b := leb.AppendU(nil, n)
	want := none()
	if ok {
		want = answer{fmt.Sprint(n), len(b), true}
	}
	for _, tail := range [][]byte{nil, {0}, {0x7f}, {0x80}, {0xff, 0xff}} {
		if got := takeU(append(bytes.Clone(b), tail...), bits); got != want {
			t.Fatalf("TakeU of %d by %d bits, % x behind it: %v, want %v", n, bits, tail, got, want)
		}
	}
}

func checkTakenS(t *testing.T, n int64, bits int, ok bool) {
	t.Helper()
	b := leb.AppendS(nil, n)
	want := none()
	if ok {
		want = answer{fmt.Sprint(n), len(b), true}
	}
	for _, tail := range [][]byte{nil, {0}, {0x7f}, {0x80}, {0xff, 0xff}} {
		if got := takeS(append(bytes.Clone(b), tail...), bits); got != want {
			t.Fatalf("TakeS of %d by %d bits, % x behind it: %v, want %v", n, bits, tail, got, want)
		}
	}
}

// P1.2: more bytes than are needed are taken, up to the most of so many bits.
func TestTakeMoreThanNeeded(t *testing.T) {
	for bits := 1; bits <= 64; bits++ {
		for count := 2; count <= 12; count++ {
			zero := append(bytes.Repeat([]byte{0x80}, count-1), 0)
			minus := append(bytes.Repeat([]byte{0xff}, count-1), 0x7f)
			wantZero, wantMinus := none(), none()
			if count <= most(bits) {
				wantZero, wantMinus = answer{"0", count, true}, answer{"-1", count, true}
			}
			if got := takeU(zero, bits); got != wantZero {
				t.Errorf("TakeU of 0 in %d bytes, %d bits: %v, want %v", count, bits, got, wantZero)
			}
			if got := takeS(zero, bits); got != wantZero {
				t.Errorf("TakeS of 0 in %d bytes, %d bits: %v, want %v", count, bits, got, wantZero)
			}
			if got := takeS(minus, bits); got != wantMinus {
				t.Errorf("TakeS of -1 in %d bytes, %d bits: %v, want %v", count, bits, got, wantMinus)
			}
		}
	}
}

// P1.2: bytes that end too early are no number.
func TestTakeEndsEarly(t *testing.T) {
	for _, n := range edges() {
		u, s := leb.AppendU(nil, n), leb.AppendS(nil, int64(n))
		for i := range len(u) {
			if got := takeU(u[:i], 64); got != none() {
				t.Fatalf("TakeU(% x, 64) = %v", u[:i], got)
			}
		}
		for i := range len(s) {
			if got := takeS(s[:i], 64); got != none() {
				t.Fatalf("TakeS(% x, 64) = %v", s[:i], got)
			}
		}
	}
}

// P1.2, R1: bits that are not from 1 to 64, and no bytes.
func TestTakeWrong(t *testing.T) {
	for _, bits := range []int{0, -1, -7, -64, math.MinInt, 65, 66, 70, 128, math.MaxInt} {
		for _, b := range [][]byte{nil, {}, {0}, {0x7f}, {0x80, 0}, bytes.Repeat([]byte{0xff}, 100)} {
			if u, s := takeU(b, bits), takeS(b, bits); u != none() || s != none() {
				t.Errorf("% x by %d bits: %v, %v", b, bits, u, s)
			}
		}
	}
	for bits := 1; bits <= 64; bits++ {
		for _, b := range [][]byte{nil, {}, bytes.Repeat([]byte{0x80}, 100)} {
			if u, s := takeU(b, bits), takeS(b, bits); u != none() || s != none() {
				t.Errorf("%d bytes by %d bits: %v, %v", len(b), bits, u, s)
			}
		}
	}
}

// R3: what is taken from is as it was.
func TestTakeChangesNothing(t *testing.T) {
	b := []byte{0xe5, 0x8e, 0x26, 0xff}
	leb.TakeU(b, 32)
	leb.TakeS(b, 32)
	if !bytes.Equal(b, []byte{0xe5, 0x8e, 0x26, 0xff}) {
		t.Errorf("now % x", b)
	}
}

// P1.3: taken as it was, by as many bits as it has and by more, not by fewer.
func TestTakenAsAppended(t *testing.T) {
	for _, n := range edges() {
		for bits := 1; bits <= 64; bits++ {
			checkTakenU(t, n, bits, bits >= bitsOfU(n))
			checkTakenS(t, int64(n), bits, bits >= bitsOfS(int64(n)))
		}
	}
}

// P1.3: no fewer bytes are that number: of those that begin with it, all are as many bytes or more.
func TestNoFewerBytes(t *testing.T) {
	for x := range 1 << 21 {
		b := []byte{byte(x) | 0x80, byte(x>>7) | 0x80, byte(x>>14) & 0x7f}
		for i := range b {
			b[i] &= 0x7f
			checkNoFewer(t, b[:i+1])
			b[i] |= 0x80
		}
	}
}

func checkNoFewer(t *testing.T, b []byte) {
	t.Helper()
	u, used, ok := leb.TakeU(b, 64)
	if !ok || used != len(b) || len(leb.AppendU(nil, u)) > len(b) {
		t.Fatalf("% x is %d unsigned, which AppendU writes as % x", b, u, leb.AppendU(nil, u))
	}
	s, used, ok := leb.TakeS(b, 64)
	if !ok || used != len(b) || len(leb.AppendS(nil, s)) > len(b) {
		t.Fatalf("% x is %d signed, which AppendS writes as % x", b, s, leb.AppendS(nil, s))
	}
}

// P1.3: how many bytes: as few as have room for the number's bits.
func TestAppendLength(t *testing.T) {
	for _, n := range edges() {
		if got, want := len(leb.AppendU(nil, n)), most(bitsOfU(n)); got != want {
			t.Errorf("AppendU of %d: %d bytes, want %d", n, got, want)
		}
		if got, want := len(leb.AppendS(nil, int64(n))), most(bitsOfS(int64(n))); got != want {
			t.Errorf("AppendS of %d: %d bytes, want %d", int64(n), got, want)
		}
	}
}
