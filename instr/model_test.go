package instr_test

import (
	"slices"

	"gabelle/api"
	"gabelle/leb"
)

// What may stand behind an opcode, piece by piece.
const (
	none      = ""
	blockType = "t"
	number    = "A"
	labels    = "LA"
	indirect  = "A0"
	access    = "AB"
	zero      = "0"
	constant  = "c"
	long      = "C"
)

// form is the chapters' words on what stands behind each opcode, and false of one that is not known.
func form(op uint8) (string, bool) {
	switch {
	case isFloat(op):
		return "", false
	case op >= 0x02 && op <= 0x04:
		return blockType, true
	case op == 0x0c, op == 0x0d, op == 0x10, op >= 0x20 && op <= 0x24:
		return number, true
	case op == 0x0e:
		return labels, true
	case op == 0x11:
		return indirect, true
	case op >= 0x28 && op <= 0x3e:
		return access, true
	case op == 0x3f, op == 0x40:
		return zero, true
	case op == 0x41:
		return constant, true
	case op == 0x42:
		return long, true
	}
	return none, op <= 0x05 || op == 0x0b || op == 0x0f || op == 0x1a || op == 0x1b || op >= 0x45 && op <= 0xad
}

func isFloat(op uint8) bool {
	for _, span := range [][2]uint8{{0x2a, 0x2b}, {0x38, 0x39}, {0x43, 0x44}, {0x5b, 0x66}, {0x8b, 0xa6}, {0xa8, 0xab}, {0xae, 0xbf}} {
		if span[0] <= op && op <= span[1] {
			return true
		}
	}
	return false
}

// known are all opcodes that are.
func known() []uint8 {
	var l []uint8
	for i := range 256 {
		if _, ok := form(uint8(i)); ok {
			l = append(l, uint8(i))
		}
	}
	return l
}

func isType(t uint32) bool { return t == 0x40 || t == 0x7f || t == 0x7e }

// modelTake is the chapter's words of an instruction's bytes.
func modelTake(b []byte) (api.Instr, int, api.Errno) {
	if len(b) == 0 {
		return api.Instr{}, 0, api.ErrBin
	}
	if isFloat(b[0]) {
		return api.Instr{}, 0, api.ErrFloat
	}
	pieces, ok := form(b[0])
	x, n := api.Instr{Op: b[0]}, 1
	for i := 0; ok && i < len(pieces); i++ {
		var used int
		if pieces[i] == 't' && n < len(b) && (b[n] == 0x7d || b[n] == 0x7c) {
			return api.Instr{}, 0, api.ErrFloat
		}
		used, ok = modelPiece(b[n:], pieces[i], &x)
		n += used
	}
	if !ok {
		return api.Instr{}, 0, api.ErrBin
	}
	return x, n, api.OK
}

func modelPiece(b []byte, piece byte, x *api.Instr) (used int, ok bool) {
	var n uint64
	switch piece {
	case 't':
		if ok = len(b) > 0 && isType(uint32(b[0])); ok {
			used, x.A = 1, uint32(b[0])
		}
	case '0':
		used, ok = 1, len(b) > 0 && b[0] == 0
	case 'A':
		n, used, ok = leb.TakeU(b, 32)
		x.A = uint32(n)
	case 'B':
		n, used, ok = leb.TakeU(b, 32)
		x.B = uint32(n)
	case 'c':
		x.C, used, ok = leb.TakeS(b, 32)
	case 'C':
		x.C, used, ok = leb.TakeS(b, 64)
	case 'L':
		n, used, ok = leb.TakeU(b, 32)
		for ok && uint64(len(x.L)) < n {
			label, more, there := leb.TakeU(b[used:], 32)
			x.L, used, ok = append(x.L, uint32(label)), used+more, there
		}
	}
	return used, ok
}

// modelAppend is the chapter's words the other way round.
func modelAppend(x api.Instr) ([]byte, bool) {
	pieces, ok := form(x.Op)
	if !ok {
		return nil, false
	}
	b, rest := []byte{x.Op}, x
	for i := range pieces {
		switch pieces[i] {
		case 't':
			b, rest.A, ok = append(b, byte(x.A)), 0, isType(x.A)
		case '0':
			b = append(b, 0)
		case 'A':
			b, rest.A = leb.AppendU(b, uint64(x.A)), 0
		case 'B':
			b, rest.B = leb.AppendU(b, uint64(x.B)), 0
		case 'c':
			b, rest.C, ok = leb.AppendS(b, x.C), 0, x.C >= -1<<31 && x.C < 1<<31
		case 'C':
			b, rest.C = leb.AppendS(b, x.C), 0
		case 'L':
			b, rest.L = leb.AppendU(b, uint64(len(x.L))), nil
			for _, label := range x.L {
				b = leb.AppendU(b, uint64(label))
			}
		}
	}
	if !ok || rest.A != 0 || rest.B != 0 || rest.C != 0 || len(rest.L) > 0 {
		return nil, false
	}
	return b, true
}

// modelSeq goes through instructions up to the mark that closes them, block within block; next tells the next one, and an error of it. It tells that mark, or the first error. (Blocks here are calls within calls, as the grammar has them.)
func modelSeq(next func() (api.Instr, api.Errno), keep func(api.Instr)) (uint8, api.Errno) {
	for {
		x, e := next()
		if e != api.OK {
			return 0, e
		}
		if x.Op == api.OpElse || x.Op == api.OpEnd {
			return x.Op, api.OK
		}
		keep(x)
		if x.Op != api.OpBlock && x.Op != api.OpLoop && x.Op != api.OpIf {
			continue
		}
		closer, e := modelSeq(next, keep)
		if e == api.OK && closer == api.OpElse && x.Op == api.OpIf {
			keep(api.Instr{Op: api.OpElse})
			closer, e = modelSeq(next, keep)
		}
		if e == api.OK && closer == api.OpElse {
			e = api.ErrBin
		}
		if e != api.OK {
			return 0, e
		}
		keep(api.Instr{Op: api.OpEnd})
	}
}

func modelTakeExpr(b []byte) ([]api.Instr, int, api.Errno) {
	var l []api.Instr
	n := 0
	closer, e := modelSeq(func() (api.Instr, api.Errno) {
		x, used, e := modelTake(b[n:])
		n += used
		return x, e
	}, func(x api.Instr) { l = append(l, x) })
	if e == api.OK && closer == api.OpElse {
		e = api.ErrBin
	}
	if e != api.OK {
		return nil, 0, e
	}
	return l, n, api.OK
}

// modelAppendExpr: they are an expression's, if one end more closes just all of them.
func modelAppendExpr(l []api.Instr) ([]byte, bool) {
	rest := append(slices.Clone(l), api.Instr{Op: api.OpEnd})
	closer, e := modelSeq(func() (api.Instr, api.Errno) {
		if len(rest) == 0 {
			return api.Instr{}, api.ErrBin
		}
		x := rest[0]
		rest = rest[1:]
		return x, api.OK
	}, func(api.Instr) {})
	if e != api.OK || closer != api.OpEnd || len(rest) > 0 {
		return nil, false
	}
	var out []byte
	for _, x := range l {
		b, ok := modelAppend(x)
		if !ok {
			return nil, false
		}
		out = append(out, b...)
	}
	return append(out, api.OpEnd), true
}
