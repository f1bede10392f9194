package instr

import (
	"gabelle/api"
	"gabelle/leb"
	"gabelle/opc"
)

const indexBits = 32

// reader has come to a place of b. Where something is wrong its methods panic with an error's number.
type reader struct {
	b  []byte
	at int
}

// read answers what take reads from b's beginning on, and how many bytes that is. Only the reader's own panics are taken up.
func read[T any](b []byte, take func(*reader) T) (what T, used int, e api.Errno) {
	defer func() {
		if wrong := recover(); wrong != nil {
			e = wrong.(api.Errno)
		}
	}()
	r := &reader{b: b}
	what = take(r)
	return what, r.at, api.OK
}

// expr reads in order: an else that may not stand where it is ends it ahead of whatever is wrong behind it.
func (r *reader) expr() []api.Instr {
	var l []api.Instr
	var open blocks
	for {
		x := r.instr()
		if x.Op == api.OpEnd && len(open) == 0 {
			return l
		}
		if !open.pass(x.Op) {
			panic(api.ErrBin)
		}
		l = append(l, x)
	}
}

func (r *reader) instr() api.Instr {
	x := api.Instr{Op: r.opcode()}
	switch opc.Form(x.Op) {
	case opc.FmBlock:
		x.A = r.blockType()
	case opc.FmLabel, opc.FmIndex:
		x.A = r.number()
	case opc.FmLabels:
		x.L = r.labels()
		x.A = r.number()
	case opc.FmIndirect:
		x.A = r.number()
		r.zero()
	case opc.FmAccess:
		x.A = r.number()
		x.B = r.number()
	case opc.FmPage:
		r.zero()
	case opc.FmI32:
		x.C = r.constant(32)
	case opc.FmI64:
		x.C = r.constant(64)
	}
	return x
}

func (r *reader) opcode() uint8 {
	op := r.byte()
	if opc.Float(op) {
		panic(api.ErrFloat)
	}
	if !opc.Known(op) {
		panic(api.ErrBin)
	}
	return op
}

func (r *reader) blockType() uint32 {
	t := r.byte()
	if t == api.F32 || t == api.F64 {
		panic(api.ErrFloat)
	}
	if !isBlockType(uint32(t)) {
		panic(api.ErrBin)
	}
	return uint32(t)
}

// labels makes no room ahead: the count is what the bytes say, not what there is.
func (r *reader) labels() []uint32 {
	var l []uint32
	for range r.number() {
		l = append(l, r.number())
	}
	return l
}

func (r *reader) zero() {
	if r.byte() != 0 {
		panic(api.ErrBin)
	}
}

func (r *reader) byte() uint8 {
	if r.at == len(r.b) {
		panic(api.ErrBin)
	}
	r.at++
	return r.b[r.at-1]
}

func (r *reader) number() uint32 {
	n, used, ok := leb.TakeU(r.b[r.at:], indexBits)
	if !ok {
		panic(api.ErrBin)
	}
	r.at += used
	return uint32(n)
}

func (r *reader) constant(bits int) int64 {
	n, used, ok := leb.TakeS(r.b[r.at:], bits)
	if !ok {
		panic(api.ErrBin)
	}
	r.at += used
	return n
}
