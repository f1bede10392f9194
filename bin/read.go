package bin

import (
	"bytes"
	"math"

	"gabelle/api"
	"gabelle/instr"
	"gabelle/leb"
	"gabelle/name"
)

const (
	numberBits = 32
	ofFuncs    = 0x60 // what a function's type begins with
	tableOf    = 0x70 // what a table's elements are
)

// reader has its bytes' rest ahead of it. Where something is wrong its methods panic with an error's number.
type reader struct{ rest []byte }

// list makes no room ahead: the count is what the bytes say, not what there is.
func list[T any](r *reader, one func(*reader) T) []T {
	var l []T
	for range r.number() {
		l = append(l, one(r))
	}
	return l
}

func (r *reader) funcType() api.FuncType {
	r.must(ofFuncs)
	params := list(r, (*reader).valueType)
	results := list(r, (*reader).valueType)
	return api.FuncType{Params: params, Results: results}
}

func (r *reader) imported() api.Import {
	x := api.Import{Mod: r.name(), Name: r.name(), Kind: r.upTo(api.ExGlobal)}
	switch x.Kind {
	case api.ExFunc:
		x.Type = r.number()
	case api.ExTable:
		x.Lim = r.table()
	case api.ExMem:
		x.Lim = r.limits()
	case api.ExGlobal:
		x.Glob = r.globalType()
	}
	return x
}

func (r *reader) table() api.Limits {
	r.must(tableOf)
	return r.limits()
}

func (r *reader) limits() api.Limits {
	hasMax := r.upTo(1) == 1
	l := api.Limits{Min: r.number(), Max: -1}
	if hasMax {
		l.Max = int64(r.number())
	}
	return l
}

func (r *reader) global() api.Global {
	return api.Global{Type: r.globalType(), Init: r.expr()}
}

func (r *reader) globalType() api.GlobalType {
	return api.GlobalType{T: r.valueType(), Mut: r.upTo(1) == 1}
}

func (r *reader) export() api.Export {
	return api.Export{Name: r.name(), Kind: r.upTo(api.ExGlobal), Index: r.number()}
}

func (r *reader) elem() api.Elem {
	return api.Elem{Table: r.number(), Offset: r.expr(), Funcs: list(r, (*reader).number)}
}

// code reads from its own bytes alone: what stands behind them is another code's.
func (r *reader) code() api.Code {
	own := &reader{rest: r.take(r.number())}
	c := api.Code{Locals: own.locals(), Body: own.expr()}
	own.end()
	return c
}

// locals holds the sum against its bound when the list has been read, since it is the whole list's.
func (r *reader) locals() []api.Local {
	l := list(r, (*reader).local)
	var sum uint64
	for _, run := range l {
		sum += uint64(run.N)
	}
	if sum > math.MaxUint32 {
		panic(api.ErrBin)
	}
	return l
}

func (r *reader) local() api.Local { return api.Local{N: r.number(), T: r.valueType()} }

func (r *reader) data() api.Data {
	x := api.Data{Mem: r.number(), Offset: r.expr()}
	// In bytes of their own, for they would else lie in the section's with those of other data.
	x.B = bytes.Clone(r.take(r.number()))
	return x
}

func (r *reader) valueType() uint8 {
	t := r.byte()
	switch t {
	case api.I32, api.I64:
		return t
	case api.F32, api.F64:
		panic(api.ErrFloat)
	}
	panic(api.ErrBin)
}

func (r *reader) expr() []api.Instr {
	l, used, e := instr.TakeExpr(r.rest)
	if e != api.OK {
		panic(e)
	}
	r.rest = r.rest[used:]
	return l
}

func (r *reader) name() string {
	s, used, ok := name.Take(r.rest)
	if !ok {
		panic(api.ErrBin)
	}
	r.rest = r.rest[used:]
	return s
}

func (r *reader) number() uint32 {
	n, used, ok := leb.TakeU(r.rest, numberBits)
	if !ok {
		panic(api.ErrBin)
	}
	r.rest = r.rest[used:]
	return uint32(n)
}

func (r *reader) must(want uint8) {
	if r.byte() != want {
		panic(api.ErrBin)
	}
}

func (r *reader) upTo(most uint8) uint8 {
	x := r.byte()
	if x > most {
		panic(api.ErrBin)
	}
	return x
}

func (r *reader) byte() uint8 { return r.take(1)[0] }

// take cuts n bytes off, which lie in the reader's own. n is not made an int ahead of the comparison: it could go beyond one.
func (r *reader) take(n uint32) []byte {
	if uint64(n) > uint64(len(r.rest)) {
		panic(api.ErrBin)
	}
	b := r.rest[:n]
	r.rest = r.rest[n:]
	return b
}

func (r *reader) end() {
	if len(r.rest) > 0 {
		panic(api.ErrBin)
	}
}
