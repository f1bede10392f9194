package bin_test

import (
	"gabelle/api"
	"gabelle/instr"
	"gabelle/leb"
	"gabelle/name"
	"gabelle/sect"
)

// model is the chapter's words, one behind the other. The first thing that is wrong is kept; behind it there is nothing more to read.
type model struct {
	b []byte
	e api.Errno
}

func (m *model) wrong(e api.Errno) {
	if m.e == api.OK {
		m.b, m.e = nil, e
	}
}

func (m *model) skip(n int) (b []byte) {
	b, m.b = m.b[:n], m.b[n:]
	return b
}

func (m *model) u32() uint32 {
	n, used, ok := leb.TakeU(m.b, 32)
	if !ok {
		m.wrong(api.ErrBin)
		return 0
	}
	m.skip(used)
	return uint32(n)
}

func (m *model) some(n uint32) []byte {
	if int64(n) > int64(len(m.b)) {
		m.wrong(api.ErrBin)
		return nil
	}
	return m.skip(int(n))
}

// one is a byte that is one of those that may be.
func (m *model) one(may ...byte) byte {
	b := m.some(1)
	for _, x := range may {
		if len(b) == 1 && b[0] == x {
			return x
		}
	}
	m.wrong(api.ErrBin)
	return 0
}

func (m *model) valueType() byte {
	if len(m.b) > 0 && (m.b[0] == 0x7d || m.b[0] == 0x7c) {
		m.wrong(api.ErrFloat)
	}
	return m.one(0x7f, 0x7e)
}

func (m *model) text() string {
	s, used, ok := name.Take(m.b)
	if !ok {
		m.wrong(api.ErrBin)
		return ""
	}
	m.skip(used)
	return s
}

func (m *model) expr() []api.Instr {
	l, used, e := instr.TakeExpr(m.b)
	if e != api.OK {
		m.wrong(e)
		return nil
	}
	m.skip(used)
	return l
}

func (m *model) limits() api.Limits {
	if m.one(0, 1) == 0 {
		return api.Limits{Min: m.u32(), Max: -1}
	}
	least := m.u32()
	return api.Limits{Min: least, Max: int64(m.u32())}
}

func (m *model) globalType() api.GlobalType {
	t := m.valueType()
	return api.GlobalType{T: t, Mut: m.one(0, 1) == 1}
}

// each calls add once for each of a list's entries.
func (m *model) each(add func()) {
	for n := m.u32(); n > 0 && m.e == api.OK; n-- {
		add()
	}
}

func (m *model) valueTypes() (l []byte) {
	m.each(func() { l = append(l, m.valueType()) })
	return l
}

func (m *model) numbers() (l []uint32) {
	m.each(func() { l = append(l, m.u32()) })
	return l
}

func (m *model) imported() api.Import {
	x := api.Import{Mod: m.text()}
	x.Name = m.text()
	x.Kind = m.one(0, 1, 2, 3)
	switch x.Kind {
	case 0:
		x.Type = m.u32()
	case 1:
		m.one(0x70)
		x.Lim = m.limits()
	case 2:
		x.Lim = m.limits()
	case 3:
		x.Glob = m.globalType()
	}
	return x
}

func (m *model) code() api.Code {
	in, c, sum := model{b: m.some(m.u32())}, api.Code{}, 0
	in.each(func() {
		run := api.Local{N: in.u32()}
		run.T = in.valueType()
		c.Locals, sum = append(c.Locals, run), sum+int(run.N)
	})
	if sum >= 1<<32 {
		in.wrong(api.ErrBin)
	}
	c.Body = in.expr()
	in.end()
	if in.e != api.OK {
		m.wrong(in.e)
	}
	return c
}

func (m *model) end() {
	if len(m.b) > 0 {
		m.wrong(api.ErrBin)
	}
}

func (m *model) section(id uint8, to *api.Module) {
	switch id {
	case 1:
		m.each(func() {
			m.one(0x60)
			x := api.FuncType{Params: m.valueTypes()}
			x.Results = m.valueTypes()
			to.Types = append(to.Types, x)
		})
	case 2:
		m.each(func() { to.Imports = append(to.Imports, m.imported()) })
	case 3:
		to.Funcs = m.numbers()
	case 4:
		m.each(func() {
			m.one(0x70)
			to.Tables = append(to.Tables, m.limits())
		})
	case 5:
		m.each(func() { to.Mems = append(to.Mems, m.limits()) })
	case 6:
		m.each(func() {
			x := api.Global{Type: m.globalType()}
			x.Init = m.expr()
			to.Globals = append(to.Globals, x)
		})
	case 7:
		m.each(func() {
			x := api.Export{Name: m.text()}
			x.Kind = m.one(0, 1, 2, 3)
			x.Index = m.u32()
			to.Exports = append(to.Exports, x)
		})
	case 8:
		to.HasStart, to.Start = true, m.u32()
	case 9:
		m.each(func() {
			x := api.Elem{Table: m.u32()}
			x.Offset = m.expr()
			x.Funcs = m.numbers()
			to.Elems = append(to.Elems, x)
		})
	case 10:
		m.each(func() { to.Codes = append(to.Codes, m.code()) })
	case 11:
		m.each(func() {
			x := api.Data{Mem: m.u32()}
			x.Offset = m.expr()
			x.B = m.some(m.u32())
			to.Datas = append(to.Datas, x)
		})
	}
}

func modelDecode(b []byte) (api.Module, api.Errno) {
	if len(b) > 65536 {
		return api.Module{}, api.ErrLong
	}
	l, e := sect.Split(b)
	if e != api.OK {
		return api.Module{}, e
	}
	var to api.Module
	for _, s := range l {
		m := model{b: s.B}
		m.section(s.Id, &to)
		m.end()
		if m.e != api.OK {
			return api.Module{}, m.e
		}
	}
	if len(to.Codes) != len(to.Funcs) {
		return api.Module{}, api.ErrBin
	}
	return to, api.OK
}
