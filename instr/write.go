package instr

import (
	"gabelle/api"
	"gabelle/leb"
	"gabelle/opc"
)

// fits: x has what its form has and no more, and what it has may be there.
func fits(x api.Instr) bool {
	form := opc.Form(x.Op)
	return opc.Known(x.Op) &&
		(x.A == 0 || hasA(form)) &&
		(x.B == 0 || form == opc.FmAccess) &&
		(x.C == 0 || form == opc.FmI32 || form == opc.FmI64) &&
		(len(x.L) == 0 || form == opc.FmLabels) &&
		(form != opc.FmBlock || isBlockType(x.A)) &&
		(form != opc.FmI32 || x.C == int64(int32(x.C)))
}

func hasA(form uint8) bool {
	switch form {
	case opc.FmBlock, opc.FmLabel, opc.FmLabels, opc.FmIndex, opc.FmIndirect, opc.FmAccess:
		return true
	}
	return false
}

// own copies b even if it has room: what is answered must not lie in the caller's bytes.
func own(b []byte) []byte { return append([]byte{}, b...) }

// put writes an x that fits into b's own room: lists of instructions would else be copied once for each.
func put(b []byte, x api.Instr) []byte {
	b = append(b, x.Op)
	switch opc.Form(x.Op) {
	case opc.FmBlock:
		b = append(b, uint8(x.A))
	case opc.FmLabel, opc.FmIndex:
		b = putNumber(b, x.A)
	case opc.FmLabels:
		b = putNumber(putLabels(b, x.L), x.A)
	case opc.FmIndirect:
		b = append(putNumber(b, x.A), 0)
	case opc.FmAccess:
		b = putNumber(putNumber(b, x.A), x.B)
	case opc.FmPage:
		b = append(b, 0)
	case opc.FmI32, opc.FmI64:
		b = append(b, leb.AppendS(nil, x.C)...)
	}
	return b
}

func putLabels(b []byte, l []uint32) []byte {
	b = putNumber(b, uint32(len(l)))
	for _, n := range l {
		b = putNumber(b, n)
	}
	return b
}

func putNumber(b []byte, n uint32) []byte { return append(b, leb.AppendU(nil, uint64(n))...) }
