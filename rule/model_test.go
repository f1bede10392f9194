package rule_test

import (
	"strconv"
	"strings"

	"gabelle/api"
	"gabelle/valid"
)

// chapter is the chapter's table, as it stands there.
const chapter = `
| 0 | input_len | - | i32 |
| 1 | input | i32 i32 i32 | - |
| 2 | caller | i32 | - |
| 3 | self | i32 | - |
| 4 | value | - | i64 |
| 5 | balance | i32 | i64 |
| 6 | read | i32 i32 i32 i32 | i32 |
| 7 | write | i32 i32 i32 i32 | - |
| 8 | remove | i32 i32 | i32 |
| 9 | emit | i32 i32 | - |
| 10 | call | i32 i64 i64 i32 i32 | i32 |
| 11 | ret_len | - | i32 |
| 12 | ret | i32 i32 i32 | - |
| 13 | finish | i32 i32 | - |
| 14 | revert | i32 i32 | - |
| 15 | gas_left | - | i64 |
`

// offered is a row of the chapter's table.
type offered struct {
	number int
	name   string
	t      api.FuncType
}

// written are the rows of the chapter's table, their lists of their own each time.
func written() []offered {
	var l []offered
	for line := range strings.Lines(chapter) {
		cells := strings.Split(line, "|")
		if len(cells) < 5 {
			continue
		}
		number, err := strconv.Atoi(strings.TrimSpace(cells[1]))
		if err != nil {
			panic(err)
		}
		l = append(l, offered{number, strings.TrimSpace(cells[2]), fn(typesOf(cells[3]), typesOf(cells[4])...)})
	}
	return l
}

func typesOf(cell string) []uint8 {
	var l []uint8
	for word := range strings.FieldsSeq(cell) {
		switch word {
		case "i32":
			l = append(l, 0x7f)
		case "i64":
			l = append(l, 0x7e)
		}
	}
	return l
}

// signature is a function's type as a text, which is the same just if the type is.
func signature(t api.FuncType) string {
	return string(t.Params) + ">" + string(t.Results)
}

// modelled is what Check tells, by the chapter's words.
func modelled(m api.Module) api.Errno {
	heights, e := valid.Check(m)
	switch {
	case e != 0:
		return e
	case !fits(sizesOf(m, heights)):
		return 122
	case !importsRight(m):
		return 120
	case !exportsRight(m):
		return 121
	}
	return 0
}

// size is one of a module's, and how great it may be.
type size struct{ is, most int64 }

func fits(l []size) bool {
	for _, x := range l {
		if x.is > x.most {
			return false
		}
	}
	return true
}

func sizesOf(m api.Module, heights []int) []size {
	var l []size
	add := func(is int, most int64) { l = append(l, size{int64(is), most}) }
	add(len(m.Types), 256)
	add(len(m.Imports), 64)
	add(len(m.Funcs), 512)
	add(len(m.Exports), 128)
	add(len(m.Elems), 64)
	add(len(m.Datas), 64)
	for _, t := range m.Types {
		add(len(t.Params), 16)
	}
	globals := len(m.Globals)
	tables, mems := m.Tables, m.Mems
	var functions []uint32
	for _, x := range m.Imports {
		add(len(x.Mod), 64)
		add(len(x.Name), 64)
		switch x.Kind {
		case 0:
			functions = append(functions, x.Type)
		case 1:
			tables = append([]api.Limits{x.Lim}, tables...)
		case 2:
			mems = append([]api.Limits{x.Lim}, mems...)
		case 3:
			globals++
		}
	}
	add(globals, 128)
	for _, x := range m.Exports {
		add(len(x.Name), 64)
	}
	for _, x := range m.Elems {
		add(len(x.Funcs), 1024)
	}
	for _, x := range tables {
		l = append(l, size{int64(x.Min), 1024})
	}
	for _, x := range mems {
		l = append(l, size{int64(x.Min), 16})
	}
	for i, c := range m.Codes {
		l = append(l, sizesOfCode(m.Types[m.Funcs[i]], c, heights[i])...)
	}
	return l
}

func sizesOfCode(t api.FuncType, c api.Code, height int) []size {
	locals := int64(len(t.Params))
	for _, x := range c.Locals {
		locals += int64(x.N)
	}
	l := []size{{locals, 256}, {int64(len(c.Body)), 8192}, {int64(height), 512}}
	deep := int64(0)
	for _, x := range c.Body {
		switch x.Op {
		case 0x02, 0x03, 0x04:
			deep++
		case 0x0b:
			deep--
		case 0x0e:
			l = append(l, size{int64(len(x.L)), 256})
		}
		l = append(l, size{deep, 64})
	}
	return l
}

func importsRight(m api.Module) bool {
	may := map[string]int{}
	for _, x := range written() {
		may[x.name+":"+signature(x.t)]++
	}
	for _, x := range m.Imports {
		if x.Kind != 0 || x.Mod != "env" || may[x.Name+":"+signature(m.Types[x.Type])] != 1 {
			return false
		}
	}
	return true
}

func exportsRight(m api.Module) bool {
	var functions []uint32
	for _, x := range m.Imports {
		if x.Kind == 0 {
			functions = append(functions, x.Type)
		}
	}
	functions = append(functions, m.Funcs...)
	plain := func(x api.Export) bool {
		return x.Kind == 0 && signature(m.Types[functions[x.Index]]) == ">"
	}
	mains, inits, plainInits := 0, 0, 0
	for _, x := range m.Exports {
		switch {
		case x.Name == "main" && plain(x):
			mains++
		case x.Name == "init":
			inits++
			if plain(x) {
				plainInits++
			}
		}
	}
	return mains > 0 && inits == plainInits
}
