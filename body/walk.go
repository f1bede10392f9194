package body

import (
	"math/bits"
	"slices"

	"gabelle/api"
	"gabelle/opc"
	"gabelle/space"
	"gabelle/typing"
)

// walk is where the body is gone through. That each else and end has its block is known ahead of it, for the body has bytes.
type walk struct {
	space *space.Space
	fn    api.FuncType
	code  api.Code
	stack *typing.Stack
	open  []bool // of each open block, whether it is an if that has no else
}

// asks tells what the instruction of that opcode asks, and does.
func (w *walk) asks(op uint8) func(api.Instr) api.Errno {
	switch op {
	case api.OpBlock, api.OpIf, api.OpLoop:
		return w.block
	case api.OpElse:
		return w.otherwise
	case api.OpEnd:
		return w.end
	case api.OpBr:
		return w.br
	case api.OpBrIf:
		return w.brIf
	case api.OpBrTable:
		return w.brTable
	case api.OpReturn:
		return w.leave
	case api.OpUnreachable:
		return w.unreachable
	case api.OpCall:
		return w.call
	case api.OpCallIndirect:
		return w.callIndirect
	case api.OpDrop:
		return w.drop
	case api.OpSelect:
		return w.choose
	case api.OpLocalGet, api.OpLocalSet, api.OpLocalTee:
		return w.local
	case api.OpGlobalGet:
		return w.globalGet
	case api.OpGlobalSet:
		return w.globalSet
	case api.OpMemSize, api.OpMemGrow:
		return w.pages
	}
	if opc.Width(op) > 0 {
		return w.access
	}
	return w.plain
}

func (w *walk) block(x api.Instr) api.Errno {
	if x.Op == api.OpIf && !w.stack.Want(api.I32) {
		return api.ErrType
	}
	var ends []uint8
	if x.A != uint32(api.BlockNone) {
		ends = []uint8{uint8(x.A)}
	}
	label := ends
	if x.Op == api.OpLoop {
		label = nil
	}
	w.stack.Open(label, ends)
	w.open = append(w.open, x.Op == api.OpIf)
	return api.OK
}

func (w *walk) otherwise(api.Instr) api.Errno {
	ends, ok := w.stack.Close()
	if !ok {
		return api.ErrType
	}
	w.stack.Open(ends, ends)
	w.open[len(w.open)-1] = false
	return api.OK
}

func (w *walk) end(api.Instr) api.Errno {
	last := len(w.open) - 1
	lacksElse := w.open[last]
	w.open = w.open[:last]
	ends, ok := w.stack.Close()
	if !ok || lacksElse && len(ends) > 0 {
		return api.ErrType
	}
	w.stack.Push(ends...)
	return api.OK
}

func (w *walk) br(x api.Instr) api.Errno {
	label, ok := w.stack.Label(x.A)
	if !ok {
		return api.ErrLabel
	}
	return w.goes(label)
}

func (w *walk) brIf(x api.Instr) api.Errno {
	label, ok := w.stack.Label(x.A)
	if !ok {
		return api.ErrLabel
	}
	if !w.stack.Want(api.I32) {
		return api.ErrType
	}
	return w.turned(label, label)
}

func (w *walk) brTable(x api.Instr) api.Errno {
	label, ok := w.stack.Label(x.A)
	same := true
	for _, n := range x.L {
		l, is := w.stack.Label(n)
		ok = ok && is
		same = same && slices.Equal(l, label)
	}
	if !ok {
		return api.ErrLabel
	}
	if !same || !w.stack.Want(api.I32) {
		return api.ErrType
	}
	return w.goes(label)
}

func (w *walk) leave(api.Instr) api.Errno { return w.goes(w.fn.Results) }

func (w *walk) unreachable(api.Instr) api.Errno { return w.goes(nil) }

func (w *walk) call(x api.Instr) api.Errno {
	t, ok := w.space.Func(x.A)
	if !ok {
		return api.ErrIndex
	}
	return w.turned(t.Params, t.Results)
}

func (w *walk) callIndirect(x api.Instr) api.Errno {
	_, table := w.space.Table(0)
	t, ok := w.space.Type(x.A)
	if !table || !ok {
		return api.ErrIndex
	}
	if !w.stack.Want(api.I32) {
		return api.ErrType
	}
	return w.turned(t.Params, t.Results)
}

func (w *walk) drop(api.Instr) api.Errno {
	if _, ok := w.stack.Pop(); !ok {
		return api.ErrType
	}
	return api.OK
}

func (w *walk) choose(api.Instr) api.Errno {
	if !w.stack.Want(api.I32) {
		return api.ErrType
	}
	a, first := w.stack.Pop()
	b, second := w.stack.Pop()
	if !first || !second || a != b && a != 0 && b != 0 {
		return api.ErrType
	}
	w.stack.Push(max(a, b)) // the other one's type, where one is any one, 0
	return api.OK
}

func (w *walk) local(x api.Instr) api.Errno {
	t, ok := Local(w.fn, w.code, x.A)
	if !ok {
		return api.ErrIndex
	}
	one := []uint8{t}
	switch x.Op {
	case api.OpLocalGet:
		return w.turned(nil, one)
	case api.OpLocalSet:
		return w.turned(one, nil)
	}
	return w.turned(one, one)
}

func (w *walk) globalGet(x api.Instr) api.Errno {
	g, ok := w.space.Global(x.A)
	if !ok {
		return api.ErrIndex
	}
	return w.turned(nil, []uint8{g.T})
}

func (w *walk) globalSet(x api.Instr) api.Errno {
	g, ok := w.space.Global(x.A)
	if !ok {
		return api.ErrIndex
	}
	if !g.Mut {
		return api.ErrType
	}
	return w.turned([]uint8{g.T}, nil)
}

func (w *walk) access(x api.Instr) api.Errno {
	if _, ok := w.space.Mem(0); !ok {
		return api.ErrIndex
	}
	// A is held against a count of bits, for no number holds 2 to the power of a great A.
	if x.A >= uint32(bits.Len(uint(opc.Width(x.Op)))) {
		return api.ErrType
	}
	return w.plain(x)
}

func (w *walk) pages(x api.Instr) api.Errno {
	if _, ok := w.space.Mem(0); !ok {
		return api.ErrIndex
	}
	return w.plain(x)
}

// plain is of nop, too: Sig tells nothing of it.
func (w *walk) plain(x api.Instr) api.Errno {
	takes, gives, _ := opc.Sig(x.Op)
	return w.turned(takes, gives)
}

// turned wants some types, and pushes others.
func (w *walk) turned(takes, gives []uint8) api.Errno {
	if !w.stack.Want(takes...) {
		return api.ErrType
	}
	w.stack.Push(gives...)
	return api.OK
}

// goes wants some types, behind which nothing is reached.
func (w *walk) goes(takes []uint8) api.Errno {
	if !w.stack.Want(takes...) {
		return api.ErrType
	}
	w.stack.Dead()
	return api.OK
}
