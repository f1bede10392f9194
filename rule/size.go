package rule

import (
	"gabelle/api"
	"gabelle/space"
)

// sizes notes a valid module's sizes, each with how great it may be.
type sizes struct {
	api.Module
	space   *space.Space
	heights []int
	note    func(size, most uint64)
}

// tooMuch tells whether something of a valid module, whose codes' stacks grow to these heights, is more than may be.
func tooMuch(m api.Module, s *space.Space, heights []int) bool {
	much := false
	x := &sizes{m, s, heights, func(size, most uint64) { much = much || size > most }}
	x.lists()
	x.entries()
	x.limits()
	for i := range m.Codes {
		x.code(i)
	}
	return much
}

func (x *sizes) lists() {
	x.note(count(x.Types), api.MaxTypes)
	x.note(count(x.Imports), api.MaxImports)
	x.note(count(x.Funcs), api.MaxFuncs)
	x.note(uint64(x.space.Count(api.ExGlobal)), api.MaxGlobals)
	x.note(count(x.Exports), api.MaxExports)
	x.note(count(x.Elems), api.MaxElems)
	x.note(count(x.Datas), api.MaxDatas)
}

func (x *sizes) entries() {
	for _, t := range x.Types {
		x.note(count(t.Params), api.MaxParams)
	}
	for _, v := range x.Imports {
		x.note(uint64(len(v.Mod)), api.MaxName)
		x.note(uint64(len(v.Name)), api.MaxName)
	}
	for _, v := range x.Exports {
		x.note(uint64(len(v.Name)), api.MaxName)
	}
	for _, v := range x.Elems {
		x.note(count(v.Funcs), api.MaxTable)
	}
}

// limits are asked of the spaces, where imported ones stand, too.
func (x *sizes) limits() {
	for i := range x.space.Count(api.ExTable) {
		l, _ := x.space.Table(uint32(i))
		x.note(uint64(l.Min), api.MaxTable)
	}
	for i := range x.space.Count(api.ExMem) {
		l, _ := x.space.Mem(uint32(i))
		x.note(uint64(l.Min), api.MaxPages)
	}
}

func (x *sizes) code(i int) {
	c := x.Codes[i]
	t, _ := x.space.Func(uint32(x.space.Imported(api.ExFunc) + i))
	// Runs are added in 64 bits, for all together may be more than 32 bits hold.
	locals := count(t.Params)
	for _, run := range c.Locals {
		locals += uint64(run.N)
	}
	x.note(locals, api.MaxLocals)
	x.note(count(c.Body), api.MaxBody)
	x.note(uint64(x.heights[i]), api.MaxHeight)
	x.body(c.Body)
}

func (x *sizes) body(l []api.Instr) {
	open := uint64(0)
	for _, v := range l {
		switch v.Op {
		case api.OpBlock, api.OpLoop, api.OpIf:
			open++
			x.note(open, api.MaxNest)
		case api.OpEnd:
			open--
		case api.OpBrTable:
			// A is not counted: each br_table has that one, however few L are.
			x.note(count(v.L), api.MaxLabels)
		}
	}
}

func count[T any](l []T) uint64 { return uint64(len(l)) }
