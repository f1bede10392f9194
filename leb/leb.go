// Package leb is layer 1: see shared/doc/01-leb.md.
package leb

const (
	lowBits = 7
	lowMask = 1<<lowBits - 1
	more    = 1 << lowBits // on each byte but a number's last one
	maxBits = 64
	maxLen  = (maxBits + lowBits - 1) / lowBits
)

// AppendU: P1.1.
func AppendU(b []byte, n uint64) []byte {
	out := grown(b)
	for n > lowMask {
		out = append(out, byte(n&lowMask)|more)
		n >>= lowBits
	}
	return append(out, byte(n))
}

// AppendS: P1.1.
func AppendS(b []byte, n int64) []byte {
	// The last byte's highest bit is the sign, so it holds one bit less of the number.
	const least, greatest = -1 << (lowBits - 1), 1<<(lowBits-1) - 1
	out := grown(b)
	for n < least || n > greatest {
		out = append(out, byte(n&lowMask)|more)
		n >>= lowBits
	}
	return append(out, byte(n&lowMask))
}

// grown copies b even if it has room: what is answered must not lie in the caller's bytes.
func grown(b []byte) []byte {
	out := make([]byte, len(b), len(b)+maxLen)
	copy(out, b)
	return out
}

// TakeU: P1.2.
func TakeU(b []byte, bits int) (n uint64, used int, ok bool) {
	return take(b, bits, func(low byte, shift int) (uint64, bool) {
		return uint64(low), low>>(bits-shift) == 0
	})
}

// TakeS: P1.2.
func TakeS(b []byte, bits int) (n int64, used int, ok bool) {
	return take(b, bits, func(low byte, shift int) (int64, bool) {
		top := int64(int8(low<<1) >> 1) // the seventh bit, which is the sign, goes on above
		kept := min(bits-shift, lowBits)
		above := top >> (kept - 1)
		return top, above == 0 || above == -1
	})
}

// take asks last for what the last byte stands for, and whether it keeps to the bits: signed and unsigned numbers differ there alone. It is asked only where bits is greater than shift.
func take[T int64 | uint64](b []byte, bits int, last func(low byte, shift int) (T, bool)) (T, int, bool) {
	if bits < 1 || bits > maxBits {
		return 0, 0, false
	}
	var n T
	for i, shift := 0, 0; i < len(b) && shift < bits; i, shift = i+1, shift+lowBits {
		low := b[i] & lowMask
		if b[i]&more != 0 {
			n |= T(low) << shift
			continue
		}
		top, ok := last(low, shift)
		if !ok {
			return 0, 0, false
		}
		return n | top<<shift, i + 1, true
	}
	return 0, 0, false
}
