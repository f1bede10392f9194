package body_test

import (
	"reflect"
	"slices"
	"strconv"
	"strings"
	"testing"

	"gabelle/api"
	"gabelle/body"
	"gabelle/opc"
	"gabelle/space"
)

const (
	ok       = api.OK
	errIndex = api.ErrIndex
	errType  = api.ErrType
	errLabel = api.ErrLabel
)

func TestExamples(t *testing.T) {
	fn := api.FuncType{Params: types(i32), Results: types(i64)}
	for _, r := range []row{
		{"local.get 0, i64.extend_i32_u", 1, ok},
		{"unreachable", 0, ok},
		{"return", 0, errType},
		{"i64.const 1, br 0", 1, ok},
		{"local.get 1", 0, errIndex},
		{"br 1", 0, errLabel},
		{"i32.const 0", 0, errType},
		{"call 0", 0, errIndex},
		{"i64.const 1, local.get 0, if, end", 2, ok},
	} {
		checkBody(t, api.Module{}, fn, api.Code{Body: written(r.text)}, r.height, r.e)
	}
}

// P10.1: parameters come first, then the locals run by run; a run of none has none.
func TestLocal(t *testing.T) {
	fn := takes(i32, i64, i32)
	c := api.Code{Locals: []api.Local{run(0, i32), run(2, i64), run(0, i64), run(1, i32), run(0, i32), run(0, i64), run(3, i64), run(0, i32)}}
	want := types(i32, i64, i32, i64, i64, i32, i64, i64, i64)
	for i, own := range want {
		checkLocal(t, fn, c, uint32(i), own, true)
	}
	for _, i := range beyond(len(want)) {
		checkLocal(t, fn, c, i, 0, false)
	}
	for i, own := range want[3:] {
		checkLocal(t, gives(i64), c, uint32(i), own, true)
	}
	for _, i := range beyond(len(want) - 3) {
		checkLocal(t, gives(i64), c, i, 0, false)
	}
	for i, own := range fn.Params {
		checkLocal(t, fn, api.Code{}, uint32(i), own, true)
	}
	for _, i := range beyond(len(fn.Params)) {
		checkLocal(t, fn, api.Code{}, i, 0, false)
		checkLocal(t, fn, api.Code{Locals: []api.Local{run(0, i32), run(0, i64)}}, i, 0, false)
	}
	for _, i := range beyond(0) {
		checkLocal(t, api.FuncType{}, api.Code{}, i, 0, false)
	}
}

// beyond are numbers from the first one on that is not there.
func beyond(n int) []uint32 {
	first := uint32(n)
	return []uint32{first, first + 1, first + 2, first + 1<<8, first + 1<<16, 1<<31 - 1, 1 << 31, 1<<31 + 1, 1<<32 - 2, 1<<32 - 1}
}

// P10.1: types are told as they stand, whatever they are.
func TestLocalOfAnyType(t *testing.T) {
	for n := range 256 {
		own := uint8(n)
		checkLocal(t, takes(i32, own), api.Code{Locals: []api.Local{run(1, ^own)}}, 1, own, true)
		checkLocal(t, takes(i32, own), api.Code{Locals: []api.Local{run(1, ^own)}}, 2, ^own, true)
	}
}

// P10.1: runs whose numbers come to 2^32 and beyond, together and with the parameters.
func TestLocalOfHugeRuns(t *testing.T) {
	const most = 1<<32 - 1
	type ask struct {
		i    uint32
		want uint8
	}
	for _, c := range []struct {
		params []uint8
		runs   []api.Local
		asks   []ask
	}{
		{nil, []api.Local{run(most, i64)}, []ask{{0, i64}, {1 << 31, i64}, {most - 1, i64}, {most, 0}}},
		{nil, []api.Local{run(most, i64), run(1, i32)}, []ask{{most - 1, i64}, {most, i32}}},
		{nil, []api.Local{run(most, i64), run(0, i64), run(most, i32)}, []ask{{0, i64}, {most - 1, i64}, {most, i32}}},
		{types(i32), []api.Local{run(most, i64)}, []ask{{0, i32}, {1, i64}, {most - 1, i64}, {most, i64}}},
		{types(i32, i32), []api.Local{run(most, i64), run(1, i32)}, []ask{{1, i32}, {2, i64}, {most, i64}}},
		{types(i32), []api.Local{run(1<<31, i64), run(1<<31, i32)}, []ask{{0, i32}, {1, i64}, {1 << 31, i64}, {1<<31 + 1, i32}, {most, i32}}},
		{nil, []api.Local{run(1<<31, i64), run(1<<31-1, i32)}, []ask{{1<<31 - 1, i64}, {1 << 31, i32}, {most - 1, i32}, {most, 0}}},
		{nil, []api.Local{run(1<<31, i64), run(1<<31, i32), run(9, i64)}, []ask{{0, i64}, {1<<31 - 1, i64}, {1 << 31, i32}, {most, i32}}},
		{types(i64, i64, i64), slices.Repeat([]api.Local{run(most, i32)}, 1000), []ask{{2, i64}, {3, i32}, {1 << 31, i32}, {most, i32}}},
		{nil, append(slices.Repeat([]api.Local{run(0, i32)}, 100000), run(7, i64)), []ask{{0, i64}, {6, i64}, {7, 0}, {most, 0}}},
	} {
		for _, a := range c.asks {
			checkLocal(t, takes(c.params...), api.Code{Locals: c.runs}, a.i, a.want, a.want != 0)
		}
	}
}

// P10.1: what the function gives, and the code's body, have no part in it.
func TestLocalAlone(t *testing.T) {
	c := api.Code{Locals: someLocals(), Body: written("local.get 99, i32.add")}
	c.Body = append(c.Body, api.Instr{Op: 0xff})
	fn := api.FuncType{Params: types(i32), Results: types(i64, i64, 3)}
	for i, own := range types(i32, i64, i32, i64) {
		checkLocal(t, fn, c, uint32(i), own, true)
	}
	checkLocal(t, fn, c, 4, 0, false)
}

// P10.2: without a space it is ErrNil, whatever else there is.
func TestWithoutSpace(t *testing.T) {
	for _, c := range []api.Code{
		{},
		{Body: written("nop")},
		{Body: written("end")},
		{Body: written("call 99")},
		{Locals: []api.Local{run(1, api.F32)}},
		{Locals: []api.Local{run(1, api.F32)}, Body: written("block")},
	} {
		for _, fn := range []api.FuncType{{}, gives(i32)} {
			if h, e := body.Check(nil, fn, c); h != 0 || e != api.ErrNil {
				t.Errorf("%s: %d, %d", told(c.Body), h, e)
			}
		}
	}
	if h, e := body.Check(space.Of(api.Module{}), api.FuncType{}, api.Code{}); h != 0 || e != ok {
		t.Errorf("with a space: %d, %d", h, e)
	}
}

// P10.2: a body that has no bytes is ErrArg, ahead of a local's type, and of an instruction's error that stands ahead of it.
func TestWithoutBytes(t *testing.T) {
	amiss := [][]api.Instr{
		written("block"),
		written("loop"),
		written("i32.const 1, if"),
		written("i32.const 1, if, else"),
		written("block, block, end"),
		written("end"),
		written("nop, end, nop"),
		written("block, end, end"),
		written("else"),
		written("block, else, end"),
		written("loop, else, end"),
		written("i32.const 1, if, else, else, end"),
		written("i32.const 1, if, block, else, end, end"),
		written("i32.const 1, if, end, else"),
		{{Op: 0x06}},
		{{Op: 0xc0}},
		{{Op: 0xff}},
		{{Op: 0x43}},
		{{Op: 0x92}},
		{{Op: api.OpBlock}, {Op: api.OpEnd}},
		{{Op: api.OpBlock, A: uint32(api.F32)}, {Op: api.OpEnd}},
		{{Op: api.OpBlock, A: 0x140}, {Op: api.OpEnd}},
		{{Op: api.OpNop, A: 1}},
		{{Op: api.OpNop, B: 1}},
		{{Op: api.OpNop, C: 1}},
		{{Op: api.OpNop, L: []uint32{0}}},
		{{Op: api.OpI32Const, C: 1 << 31}, {Op: api.OpDrop}},
		{{Op: api.OpI32Const, C: -1<<31 - 1}, {Op: api.OpDrop}},
		{{Op: api.OpBr, L: []uint32{0}}},
		{{Op: api.OpMemSize, A: 1}, {Op: api.OpDrop}},
	}
	for _, l := range amiss {
		for _, ahead := range []string{"", "nop", "call 99", "br 7", "i64.const 1, drop, i32.add", "unreachable"} {
			for _, locals := range [][]api.Local{nil, {run(1, i64)}, {run(1, api.F64)}} {
				for _, fn := range []api.FuncType{{}, gives(i32), takes(i64)} {
					c := api.Code{Locals: locals, Body: joined(written(ahead), l)}
					checkBody(t, whole(), fn, c, 0, api.ErrArg)
					checkBody(t, api.Module{}, fn, c, 0, api.ErrArg)
				}
			}
		}
	}
}

// P10.2: a local of a type that is none of whole numbers is ErrType, ahead of an instruction's error; a run of none has no local.
func TestLocalsTypes(t *testing.T) {
	for n := range 256 {
		own := uint8(n)
		e := api.ErrType
		if own == i32 || own == i64 {
			e = ok
		}
		for _, locals := range [][]api.Local{
			{run(1, own)},
			{run(1, own), run(2, i32)},
			{run(2, i32), run(1, own), run(1, i64)},
			{run(2, i32), run(1, i64), run(1, own)},
			{run(0, i32), run(1<<32-1, own)},
			{run(1<<32-1, i64), run(1<<32-1, i32), run(1, own)},
			{run(0, own), run(3, own)},
		} {
			checkBody(t, whole(), takes(i32), api.Code{Locals: locals}, 0, e)
			if e != ok {
				for _, text := range []string{"nop", "unreachable", "call 99", "br 1", "i32.add", "local.get 1, drop"} {
					checkBody(t, whole(), takes(i32), api.Code{Locals: locals, Body: written(text)}, 0, e)
				}
			}
		}
		checkBody(t, whole(), takes(i32), api.Code{Locals: []api.Local{run(0, own), run(1, i64), run(0, own)}}, 0, ok)
		// A parameter's type is the function's, and no local's of the code.
		checkBody(t, whole(), takes(own), api.Code{Body: written("local.get 0, local.set 0, local.get 0, drop")}, 1, ok)
	}
	checkBody(t, whole(), takes(i32), api.Code{Locals: []api.Local{run(1, api.F32)}, Body: written("call 99")}, 0, errType)
	checkBody(t, whole(), takes(i32), api.Code{Locals: []api.Local{run(1, i32)}, Body: written("call 99")}, 0, errIndex)
}

// P10.2: bodies of nothing, and functions that give none, one and more.
func TestResults(t *testing.T) {
	for _, c := range []struct {
		results []uint8
		text    string
		height  int
		e       api.Errno
	}{
		{nil, "", 0, ok},
		{types(i32), "", 0, errType},
		{types(i64), "", 0, errType},
		{types(i32, i64), "", 0, errType},
		{nil, "i32.const 1", 0, errType},
		{types(i32), "i32.const 1", 1, ok},
		{types(i32), "i64.const 1", 0, errType},
		{types(i64), "i32.const 1", 0, errType},
		{types(i64), "i64.const 1", 1, ok},
		{types(i64), "i64.const 1, i64.const 1", 0, errType},
		{types(i64), "i32.const 1, i64.const 1", 0, errType},
		{types(i32, i64), "i32.const 1, i64.const 1", 2, ok},
		{types(i32, i64), "i64.const 1, i32.const 1", 0, errType},
		{types(i32, i64), "i64.const 1", 0, errType},
		{types(i32, i64), "i32.const 1", 0, errType},
		{types(i32, i64), "i32.const 1, i32.const 1, i64.const 1", 0, errType},
		{types(i32, i64), "i32.const 1, i64.const 1, return", 2, ok},
		{types(i32, i64), "i64.const 1, return", 0, errType},
		{types(i32, i64), "i32.const 1, i64.const 1, br 0", 2, ok},
		{types(i32, i64), "i64.const 1, i32.const 1, br 0", 0, errType},
		{types(i32, i64), "i32.const 1, i64.const 1, i32.const 1, br_if 0", 3, ok},
		{types(i32, i64), "i32.const 1, i64.const 1, i32.const 1, br_table 0 0 0", 3, ok},
		{types(i32, i64), "unreachable", 0, ok},
		{types(i32, i64), "unreachable, i64.const 1", 1, ok},
		{types(i32, i64), "unreachable, i32.const 1", 0, errType},
		{types(i32, i64), "i32.const 1, call 5", 2, ok},
		{types(0), "i32.const 1", 1, ok},
		{types(0), "", 0, errType},
		{types(api.F32), "i32.const 1", 0, errType},
		{types(api.F32), "unreachable", 0, ok},
	} {
		row{c.text, c.height, c.e}.check(t, whole(), c.results...)
	}
}

// P10.2: block and loop, with a result and without, which differ by their labels alone.
func TestBlocks(t *testing.T) {
	for _, op := range []string{"block", "loop"} {
		for _, r := range []row{
			{"OPEN, end", 0, ok},
			{"OPEN, nop, end, OPEN, end", 0, ok},
			{"OPEN, i32.const 1, end", 0, errType},
			{"OPEN, i32.const 1, drop, end", 1, ok},
			{"OPEN i32, end, drop", 0, errType},
			{"OPEN i32, i32.const 1, end", 0, errType},
			{"OPEN i32, i32.const 1, end, drop", 1, ok},
			{"OPEN i32, i64.const 1, end, drop", 0, errType},
			{"OPEN i64, i32.const 1, end, drop", 0, errType},
			{"OPEN i64, i64.const 1, end, drop", 1, ok},
			{"OPEN i64, i64.const 1, i64.const 1, end, drop", 0, errType},
			{"OPEN i64, i64.const 1, end, i32.eqz, drop", 0, errType},
			{"OPEN i64, i64.const 1, end, i64.eqz, drop", 1, ok},
			{"i32.const 1, OPEN, end, drop", 1, ok},
			{"i32.const 1, OPEN, drop, end", 0, errType},
			{"i32.const 1, OPEN i32, end", 0, errType},
			{"i32.const 1, OPEN i32, i32.const 1, end, i32.add, drop", 2, ok},
			{"i64.const 1, OPEN i32, i32.const 1, end, i32.add, drop", 0, errType},
			{"OPEN, unreachable, end", 0, ok},
			{"OPEN i32, unreachable, end, drop", 1, ok},
			{"OPEN i32, unreachable, end", 0, errType},
			{"OPEN i32, unreachable, i64.const 1, end, drop", 0, errType},
			{"OPEN i32, unreachable, end, i64.eqz, drop", 0, errType},
			{"OPEN, unreachable, end, drop", 0, errType},
			{"unreachable, OPEN, drop, end", 0, errType},
			{"unreachable, OPEN i32, i32.const 1, end, i64.add, drop", 0, errType},
			{"unreachable, OPEN i32, i32.const 1, end, i32.add, drop", 1, ok},
			{"OPEN, OPEN, OPEN, end, end, end", 0, ok},
			{"OPEN i32, OPEN i32, OPEN i32, i32.const 1, end, end, end, drop", 1, ok},
			{"OPEN i32, OPEN i64, OPEN i32, i32.const 1, end, end, end, drop", 0, errType},
		} {
			r.text = strings.ReplaceAll(r.text, "OPEN", op)
			r.check(t, whole())
		}
	}
	checkRows(t, whole(),
		row{"block i32, i32.const 1, br 0, end, drop", 1, ok},
		row{"block i32, br 0, end, drop", 0, errType},
		row{"block i32, i64.const 1, br 0, end, drop", 0, errType},
		row{"loop i32, i32.const 1, br 0, end, drop", 1, ok},
		row{"loop i32, br 0, end, drop", 1, ok},
		row{"loop i32, i64.const 1, br 0, end, drop", 1, ok},
		row{"loop i32, i32.const 1, i32.const 1, br_if 0, end, drop", 2, ok},
		row{"loop i32, i64.const 1, i32.const 1, br_if 0, end, drop", 0, errType},
		row{"loop i32, i32.const 1, br_if 0, i32.const 1, end, drop", 1, ok},
		row{"block i32, i32.const 1, br_if 0, i32.const 1, end, drop", 0, errType},
	)
}

// P10.2: if, else and their ends.
func TestIf(t *testing.T) {
	checkRows(t, whole(),
		row{"i32.const 1, if, end", 1, ok},
		row{"if, end", 0, errType},
		row{"i64.const 1, if, end", 0, errType},
		row{"unreachable, if, end", 0, ok},
		row{"unreachable, i64.const 1, if, end", 0, errType},
		row{"block, if, end, end", 0, errType},
		row{"i32.const 1, block, if, end, end", 0, errType},
		row{"i32.const 1, i32.const 1, if, drop, end", 0, errType},
		row{"i32.const 1, i32.const 1, if, end, drop", 2, ok},
		row{"i32.const 1, if, else, end", 1, ok},
		row{"if, else, end", 0, errType},
		row{"i32.const 1, if, i32.const 1, end", 0, errType},
		row{"i32.const 1, if, i32.const 1, else, end", 0, errType},
		row{"i32.const 1, if, else, i32.const 1, end", 0, errType},
		row{"i32.const 1, if, i32.const 1, drop, else, i64.const 1, i64.const 1, drop, drop, end", 2, ok},
		row{"i32.const 1, if i32, i32.const 1, else, i32.const 2, end, drop", 1, ok},
		row{"i32.const 1, if i64, i64.const 1, else, i64.const 2, end, drop", 1, ok},
		row{"i32.const 1, if i64, i64.const 1, else, i64.const 2, end, i32.eqz, drop", 0, errType},
		row{"i32.const 1, if i32, i32.const 1, else, i32.const 2, end", 0, errType},
		row{"i32.const 1, if i32, i64.const 1, else, i32.const 2, end, drop", 0, errType},
		row{"i32.const 1, if i32, i32.const 1, else, i64.const 2, end, drop", 0, errType},
		row{"i32.const 1, if i32, else, i32.const 2, end, drop", 0, errType},
		row{"i32.const 1, if i32, i32.const 1, else, end, drop", 0, errType},
		row{"i32.const 1, if i32, i32.const 1, i32.const 1, else, i32.const 2, end, drop", 0, errType},
		row{"i32.const 1, if i32, i32.const 1, else, i32.const 2, i32.const 2, end, drop", 0, errType},
		row{"i32.const 1, if i32, i32.const 1, else, unreachable, end, drop", 1, ok},
		row{"i32.const 1, if i32, unreachable, else, i32.const 1, end, drop", 1, ok},
		row{"i32.const 1, if i32, unreachable, else, end, drop", 0, errType},
		row{"i32.const 1, if i32, unreachable, i64.const 1, else, i32.const 1, end, drop", 0, errType},
		row{"i32.const 1, if i32, unreachable, else, unreachable, end, drop", 1, ok},
		// Without an else there is no other way to a result.
		row{"i32.const 1, if i32, i32.const 1, end, drop", 0, errType},
		row{"i32.const 1, if i32, unreachable, end, drop", 0, errType},
		row{"i32.const 1, if i32, end, drop", 0, errType},
		row{"i32.const 1, if, unreachable, end", 1, ok},
		row{"i32.const 1, if i32, i32.const 1, if i32, i32.const 1, else, i32.const 2, end, else, i32.const 3, end, drop", 1, ok},
		row{"i32.const 1, if i32, i32.const 1, if i32, i32.const 1, end, else, i32.const 3, end, drop", 0, errType},
		row{"i32.const 1, if i32, i32.const 1, if i32, i32.const 1, else, i32.const 2, end, end, drop", 0, errType},
		row{"i32.const 1, if, block i32, i32.const 1, end, drop, end", 1, ok},
		row{"i32.const 1, if, loop i32, i32.const 1, end, drop, end", 1, ok},
		row{"block i32, i32.const 1, if, end, i32.const 1, end, drop", 1, ok},
		row{"i32.const 1, if i32, block i32, i32.const 1, end, else, i32.const 1, end, drop", 1, ok},
		row{"i32.const 1, if i32, block i32, i32.const 1, end, end, drop", 0, errType},
		row{"i32.const 1, if i32, i32.const 1, else, block i32, i32.const 1, end, end, drop", 1, ok},
		// An if's label, and an else's, are of the result.
		row{"i32.const 1, if i32, i32.const 1, br 0, else, i32.const 1, br 0, end, drop", 1, ok},
		row{"i32.const 1, if i32, br 0, else, i32.const 1, end, drop", 0, errType},
		row{"i32.const 1, if i32, i32.const 1, else, br 0, end, drop", 0, errType},
		row{"i32.const 1, if i32, i64.const 1, br 0, else, i32.const 1, end, drop", 0, errType},
		row{"i32.const 1, if i32, i32.const 1, else, i64.const 1, br 0, end, drop", 0, errType},
		row{"i32.const 1, if, br 0, else, br 0, end", 1, ok},
	)
}

// P10.2: br, by labels that are there and that are not; of a loop's nothing is wanted.
func TestBr(t *testing.T) {
	checkRows(t, whole(),
		row{"br 0", 0, ok},
		row{"br 1", 0, errLabel},
		row{"br 4294967295", 0, errLabel},
		row{"br 2147483648", 0, errLabel},
		row{"block, br 0, end", 0, ok},
		row{"block, br 1, end", 0, ok},
		row{"block, br 2, end", 0, errLabel},
		row{"block, end, br 1", 0, errLabel},
		row{"i32.const 1, br 0", 1, ok},
		row{"i32.const 1, br 0, drop", 1, ok},
		row{"i32.const 1, br 0, i32.const 1", 0, errType},
		row{"block i32, i32.const 1, br 0, end, drop", 1, ok},
		row{"block i32, br 0, end, drop", 0, errType},
		row{"block i32, i64.const 1, br 0, end, drop", 0, errType},
		row{"block i32, i64.const 1, i32.const 1, br 0, end, drop", 2, ok},
		row{"block i32, i32.const 1, i64.const 1, br 0, end, drop", 0, errType},
		row{"i32.const 1, block i32, br 0, end, drop", 0, errType},
		row{"block i32, block i64, i32.const 1, br 1, end, drop, i32.const 1, end, drop", 1, ok},
		row{"block i32, block i64, i64.const 1, br 1, end, drop, i32.const 1, end, drop", 0, errType},
		row{"block i32, block i64, i64.const 1, br 0, end, drop, i32.const 1, end, drop", 1, ok},
		row{"block i32, block i64, br 2, end, drop, i32.const 1, end, drop", 1, ok},
		row{"block i32, block i64, br 3, end, drop, i32.const 1, end, drop", 0, errLabel},
		row{"block i32, loop i64, i32.const 1, br 1, end, drop, i32.const 1, end, drop", 1, ok},
		row{"block i32, loop i64, br 0, end, drop, i32.const 1, end, drop", 1, ok},
		// The label is asked for ahead of its types.
		row{"block i32, br 2, end, drop", 0, errLabel},
	)
	row{"br 0", 0, errType}.check(t, whole(), i64)
	row{"i32.const 1, br 0", 0, errType}.check(t, whole(), i64)
	row{"i64.const 1, br 0", 1, ok}.check(t, whole(), i64)
	row{"i64.const 1, br 0, i64.const 1, i64.const 1", 0, errType}.check(t, whole(), i64)
	row{"block, i64.const 1, br 1, end, unreachable", 1, ok}.check(t, whole(), i64)
	row{"block, i64.const 1, br 1, end", 0, errType}.check(t, whole(), i64)
	row{"loop, br 0, end, unreachable", 0, ok}.check(t, whole(), i64)
}

// P10.2: br_if wants an i32, and beneath it the label's types, which it leaves.
func TestBrIf(t *testing.T) {
	checkRows(t, whole(),
		row{"i32.const 1, br_if 0", 1, ok},
		row{"br_if 0", 0, errType},
		row{"i64.const 1, br_if 0", 0, errType},
		row{"i32.const 1, br_if 1", 0, errLabel},
		row{"i32.const 1, br_if 4294967295", 0, errLabel},
		// The label is asked for ahead of the i32.
		row{"br_if 1", 0, errLabel},
		row{"i64.const 1, br_if 1", 0, errLabel},
		row{"block i64, br_if 2, end, drop", 0, errLabel},
		row{"i32.const 1, br_if 0, drop", 0, errType},
		row{"i32.const 1, i32.const 1, br_if 0, drop", 2, ok},
		row{"block i64, i64.const 1, i32.const 1, br_if 0, end, drop", 2, ok},
		row{"block i64, i64.const 1, i32.const 1, br_if 0, end, i32.eqz, drop", 0, errType},
		row{"block i64, i32.const 1, br_if 0, i64.const 1, end, drop", 0, errType},
		row{"block i64, i32.const 1, i32.const 1, br_if 0, end, drop", 0, errType},
		row{"block i64, i32.const 1, i64.const 1, br_if 0, end, drop", 0, errType},
		row{"i64.const 1, block i64, i32.const 1, br_if 0, end, drop, drop", 0, errType},
		row{"block i64, i64.const 1, i32.const 1, br_if 0, drop, i64.const 1, end, drop", 2, ok},
		row{"block i64, i64.const 1, i32.const 1, br_if 1, end, drop", 2, ok},
		row{"loop i64, i32.const 1, br_if 0, i64.const 1, end, drop", 1, ok},
		// In a dead frame the label's types stand behind it, if they did not ahead of it.
		row{"block i64, unreachable, br_if 0, end, drop", 1, ok},
		row{"block i64, unreachable, br_if 0, i32.eqz, end, drop", 0, errType},
		row{"block i64, unreachable, br_if 0, i64.eqz, drop, i64.const 1, end, drop", 1, ok},
		row{"block i64, unreachable, i32.const 1, br_if 0, end, drop", 1, ok},
		row{"block i64, unreachable, i64.const 1, br_if 0, end, drop", 0, errType},
		row{"block i64, unreachable, i32.const 1, i32.const 1, br_if 0, end, drop", 0, errType},
		row{"block i64, unreachable, br_if 1, end, drop", 1, ok},
		row{"unreachable, br_if 0", 0, ok},
		row{"unreachable, br_if 1", 0, errLabel},
	)
	row{"i64.const 1, i32.const 1, br_if 0", 2, ok}.check(t, whole(), i64)
	row{"i32.const 1, br_if 0, i64.const 1", 0, errType}.check(t, whole(), i64)
	row{"unreachable, br_if 0", 1, ok}.check(t, whole(), i64)
}

// P10.2: br_table asks for all labels, for their types, for an i32 and for what lies beneath it.
func TestBrTable(t *testing.T) {
	checkRows(t, whole(),
		row{"i32.const 1, br_table 0", 1, ok},
		row{"i32.const 1, br_table 0 0 0 0", 1, ok},
		row{"br_table 0", 0, errType},
		row{"i64.const 1, br_table 0", 0, errType},
		row{"i32.const 1, br_table 1", 0, errLabel},
		row{"i32.const 1, br_table 4294967295", 0, errLabel},
		row{"i32.const 1, br_table 4294967295 0", 0, errLabel},
		row{"i32.const 1, br_table 0 1", 0, errLabel},
		row{"i32.const 1, br_table 1 0", 0, errLabel},
		row{"i32.const 1, br_table 0 0 1 0 0", 0, errLabel},
		row{"i32.const 1, br_table 0 0 0 1 0", 0, errLabel},
		row{"i32.const 1, br_table 0, drop, i64.eqz, drop", 1, ok},
		row{"i32.const 1, br_table 0, i32.const 1", 0, errType},
		row{"block, block, i32.const 1, br_table 0 1 2 1 0 2, end, end", 1, ok},
		row{"block, block, i32.const 1, br_table 0 1 2 3 2 1 0, end, end", 0, errLabel},
		row{"block, loop i64, i32.const 1, br_table 0 1 2, end, drop, end", 1, ok},
		row{"block, loop i64, i64.const 1, br_table 0 1 2, end, drop, end", 0, errType},
		row{"block i64, block i64, i64.const 1, i32.const 1, br_table 0 1, end, end, drop", 2, ok},
		row{"block i64, block i64, i64.const 1, i32.const 1, br_table 1 0, end, end, drop", 2, ok},
		row{"block i64, block i64, i32.const 1, br_table 0 1, end, end, drop", 0, errType},
		row{"block i64, block i64, i32.const 1, i32.const 1, br_table 0 1, end, end, drop", 0, errType},
		row{"block i64, block i64, i64.const 1, br_table 0 1, end, end, drop", 0, errType},
		row{"i64.const 1, block i64, i32.const 1, br_table 0, end, drop, drop", 0, errType},
		// Labels whose types differ, of those in L from A's, by their types and by how many they are.
		row{"block i64, block i32, i64.const 1, i32.const 1, br_table 0 1, end, drop, i64.const 1, end, drop", 0, errType},
		row{"block i64, block i32, i32.const 1, i32.const 1, br_table 1 0, end, drop, i64.const 1, end, drop", 0, errType},
		row{"block i64, block i32, i32.const 1, i32.const 1, br_table 0 0, end, drop, i64.const 1, end, drop", 2, ok},
		row{"block i64, block i32, i64.const 1, i32.const 1, br_table 1 1, end, drop, i64.const 1, end, drop", 2, ok},
		row{"block i64, i64.const 1, i32.const 1, br_table 0 1, end, drop", 0, errType},
		row{"block i64, i64.const 1, i32.const 1, br_table 1 0, end, drop", 0, errType},
		row{"block i64, i64.const 1, i32.const 1, br_table 0 1 0, end, drop", 0, errType},
		row{"block i64, i64.const 1, i32.const 1, br_table 1 0 0, end, drop", 0, errType},
		row{"block i64, unreachable, br_table 0 1, end, drop", 0, errType},
		row{"block i64, block i32, unreachable, br_table 0 1, end, drop, i64.const 1, end, drop", 0, errType},
		row{"loop i64, i32.const 1, br_table 0 1, end, drop", 1, ok},
		row{"loop i64, i64.const 1, i32.const 1, br_table 0, end, drop", 2, ok},
		// All labels are asked for ahead of types that differ, and of the i32.
		row{"block i64, br_table 0 1 2, end, drop", 0, errLabel},
		row{"block i64, br_table 2 0 1, end, drop", 0, errLabel},
		row{"block i64, br_table 2 1 0, end, drop", 0, errLabel},
		row{"block i64, br_table 1 2 0, end, drop", 0, errLabel},
		row{"br_table 0 0 1", 0, errLabel},
		row{"i64.const 1, br_table 1 0", 0, errLabel},
		// In a dead frame.
		row{"unreachable, br_table 0 0", 0, ok},
		row{"block i64, unreachable, br_table 0 0, end, drop", 1, ok},
		row{"block i64, unreachable, i32.const 1, br_table 0 0, end, drop", 1, ok},
		row{"block i64, unreachable, i32.const 1, i32.const 1, br_table 0 0, end, drop", 0, errType},
	)
	row{"i64.const 1, i32.const 1, br_table 0 0", 2, ok}.check(t, whole(), i64)
	row{"i32.const 1, br_table 0 0", 0, errType}.check(t, whole(), i64)
}

// P10.2: return wants the function's results in whatever block it stands, and is no end of the block's.
func TestReturn(t *testing.T) {
	checkRows(t, whole(),
		row{"return", 0, ok},
		row{"i32.const 1, return", 1, ok},
		row{"i32.const 1, return, drop, drop", 1, ok},
		row{"return, i32.const 1", 0, errType},
		row{"block i32, return, end, drop", 1, ok},
		row{"block, return, end, return", 0, ok},
	)
	for _, r := range []row{
		{"return", 0, errType},
		{"i32.const 1, return", 0, errType},
		{"i64.const 1, return", 1, ok},
		{"i32.const 1, i64.const 1, return", 2, ok},
		{"i64.const 1, i32.const 1, return", 0, errType},
		{"i64.const 1, block i64, return, end, drop", 0, errType},
		{"block i32, i64.const 1, return, end, drop, i64.const 1", 1, ok},
		{"block i32, i32.const 1, return, end, drop, i64.const 1", 0, errType},
		{"block, i64.const 1, return, end", 0, errType},
		{"unreachable, return", 0, ok},
		{"unreachable, i32.const 1, return", 0, errType},
		{"unreachable, i64.const 1, return", 1, ok},
	} {
		r.check(t, whole(), i64)
	}
}

// P10.2: unreachable asks nothing; what stood there in its frame is gone, and no more.
func TestUnreachable(t *testing.T) {
	checkRows(t, whole(),
		row{"unreachable", 0, ok},
		row{"i32.const 1, i64.const 1, unreachable", 2, ok},
		row{"i32.const 1, unreachable, i64.eqz, drop", 1, ok},
		row{"i32.const 1, block, unreachable, end, drop", 1, ok},
		row{"i32.const 1, block, unreachable, end", 0, errType},
		row{"i32.const 1, block, unreachable, end, i64.eqz, drop", 0, errType},
		row{"unreachable, unreachable, drop, unreachable, i64.add, drop", 1, ok},
		row{"unreachable, i32.const 1, i64.add, drop", 0, errType},
		row{"unreachable, i32.const 1", 0, errType},
		row{"unreachable, i32.const 1, drop, drop, drop", 1, ok},
		row{"block, unreachable, end, drop", 0, errType},
	)
}

// P10.2: call asks for a function that is there, with a type that is there, and then for its parameters.
func TestCall(t *testing.T) {
	checkRows(t, whole(),
		row{"call 1", 0, ok},
		row{"i32.const 1, i64.const 1, call 0", 2, ok},
		row{"i64.const 1, i32.const 1, call 0", 0, errType},
		row{"i64.const 1, i64.const 1, call 0", 0, errType},
		row{"i32.const 1, i32.const 1, call 0", 0, errType},
		row{"i64.const 1, call 0", 0, errType},
		row{"i32.const 1, call 0", 0, errType},
		row{"call 0", 0, errType},
		row{"i32.const 1, i64.const 1, call 0, drop", 0, errType},
		row{"i64.const 1, call 2, drop", 1, ok},
		row{"i64.const 1, call 2, i64.eqz, drop", 0, errType},
		row{"i64.const 1, call 2, i32.eqz, drop", 1, ok},
		row{"i64.const 1, call 2", 0, errType},
		row{"call 2, drop", 0, errType},
		row{"call 3, drop", 1, ok},
		row{"call 3, i64.eqz, drop", 1, ok},
		row{"call 3, i32.eqz, drop", 0, errType},
		row{"i64.const 1, i32.const 1, i32.const 1, call 4, drop", 3, ok},
		row{"i64.const 1, i64.const 1, i32.const 1, call 4, drop", 0, errType},
		row{"i32.const 1, i32.const 1, call 4, drop", 0, errType},
		row{"i32.const 1, call 5, i64.eqz, i32.add, drop", 2, ok},
		row{"i32.const 1, call 5, i32.eqz, i32.add, drop", 0, errType},
		row{"call 6", 0, errIndex},
		row{"call 7", 0, errIndex},
		row{"call 4294967295", 0, errIndex},
		row{"i64.const 1, block, call 2, drop, end, drop", 0, errType},
		row{"unreachable, call 0", 0, ok},
		row{"unreachable, call 4, drop", 1, ok},
		row{"unreachable, call 7", 0, errIndex},
		row{"unreachable, i32.const 1, call 0", 0, errType},
		row{"unreachable, i64.const 1, call 0", 1, ok},
	)
	// The function is asked for ahead of what it takes.
	checkRows(t, api.Module{}, row{"call 0", 0, errIndex}, row{"i32.const 1, call 0, drop", 0, errIndex})
}

// P10.2: call_indirect asks for a table and a type, and then for an i32 and what the type takes.
func TestCallIndirect(t *testing.T) {
	rows := []row{
		{"i32.const 1, call_indirect 0", 1, ok},
		{"call_indirect 0", 0, errType},
		{"i64.const 1, call_indirect 0", 0, errType},
		{"i64.const 1, i32.const 1, call_indirect 1, drop", 2, ok},
		{"i32.const 1, i64.const 1, call_indirect 1, drop", 0, errType},
		{"i32.const 1, i32.const 1, call_indirect 1, drop", 0, errType},
		{"i32.const 1, call_indirect 1, drop", 0, errType},
		{"i64.const 1, i32.const 1, call_indirect 1, i32.eqz, drop", 2, ok},
		{"i64.const 1, i32.const 1, call_indirect 1, i64.eqz, drop", 0, errType},
		{"i64.const 1, i32.const 1, call_indirect 1", 0, errType},
		{"i32.const 1, i64.const 1, i32.const 1, call_indirect 2", 3, ok},
		{"i64.const 1, i32.const 1, call_indirect 2", 0, errType},
		{"i32.const 1, call_indirect 3, drop", 1, ok},
		{"i32.const 1, i32.const 1, call_indirect 5, i64.eqz, i32.add, drop", 2, ok},
		{"i32.const 1, call_indirect 6", 0, errIndex},
		{"i32.const 1, call_indirect 4294967295", 0, errIndex},
		// The type is asked for ahead of operands.
		{"call_indirect 6", 0, errIndex},
		{"i64.const 1, call_indirect 6", 0, errIndex},
		{"unreachable, call_indirect 1, drop", 1, ok},
		{"unreachable, call_indirect 6", 0, errIndex},
		{"unreachable, i64.const 1, call_indirect 1, drop", 0, errType},
	}
	checkRows(t, whole(), rows...)
	checkRows(t, imported(), rows...)
	for _, r := range rows {
		// Without a table none is there, whatever else is so; the type may be there.
		if r.text != "i64.const 1, i32.const 1, call_indirect 1" {
			row{r.text, 0, errIndex}.check(t, lacking())
		}
	}
	checkRows(t, lacking(), row{"call_indirect 0", 0, errIndex}, row{"unreachable, call_indirect 0", 0, errIndex})
	m := whole()
	m.Mems = nil
	checkRows(t, m, row{"i32.const 1, call_indirect 0", 1, ok})
}

// P10.2: drop takes an operand of whatever type.
func TestDrop(t *testing.T) {
	checkRows(t, whole(),
		row{"drop", 0, errType},
		row{"i32.const 1, drop", 1, ok},
		row{"i64.const 1, drop", 1, ok},
		row{"i64.const 1, drop, drop", 0, errType},
		row{"i64.const 1, i32.const 1, drop, i64.eqz, drop", 2, ok},
		row{"i32.const 1, block, drop, end", 0, errType},
		row{"unreachable, drop, drop", 0, ok},
		row{"i32.const 1, unreachable, i64.const 1, drop, drop", 1, ok},
		row{"i32.const 1, block, unreachable, drop, drop, end, drop", 1, ok},
	)
}

// P10.2: select takes two of one type beneath an i32; in a dead frame either may be any one.
func TestSelect(t *testing.T) {
	checkRows(t, whole(),
		row{"i32.const 1, i32.const 2, i32.const 3, select, drop", 3, ok},
		row{"i64.const 1, i64.const 2, i32.const 3, select, drop", 3, ok},
		row{"i32.const 1, i32.const 2, i32.const 3, select, i32.eqz, drop", 3, ok},
		row{"i32.const 1, i32.const 2, i32.const 3, select, i64.eqz, drop", 0, errType},
		row{"i64.const 1, i64.const 2, i32.const 3, select, i64.eqz, drop", 3, ok},
		row{"i64.const 1, i64.const 2, i32.const 3, select, i32.eqz, drop", 0, errType},
		row{"i32.const 1, i32.const 2, i32.const 3, select", 0, errType},
		row{"i32.const 1, i64.const 2, i32.const 3, select, drop", 0, errType},
		row{"i64.const 1, i32.const 2, i32.const 3, select, drop", 0, errType},
		row{"i32.const 1, i32.const 2, i64.const 3, select, drop", 0, errType},
		row{"i64.const 1, i64.const 2, i64.const 3, select, drop", 0, errType},
		row{"i32.const 2, i32.const 3, select, drop", 0, errType},
		row{"i32.const 3, select, drop", 0, errType},
		row{"select, drop", 0, errType},
		row{"i32.const 1, block, i32.const 2, i32.const 3, select, drop, end, drop", 0, errType},
		row{"i32.const 1, i32.const 2, block, i32.const 3, select, drop, end, drop, drop", 0, errType},
		row{"unreachable, select", 0, errType},
		row{"unreachable, select, drop", 1, ok},
		row{"unreachable, select, i32.eqz, drop", 1, ok},
		row{"unreachable, select, i64.eqz, drop", 1, ok},
		row{"unreachable, i32.const 3, select, i64.eqz, drop", 1, ok},
		row{"unreachable, i64.const 3, select, drop", 0, errType},
		row{"unreachable, i64.const 2, i32.const 3, select, i64.eqz, drop", 2, ok},
		row{"unreachable, i64.const 2, i32.const 3, select, i32.eqz, drop", 0, errType},
		row{"unreachable, i32.const 2, i32.const 3, select, i32.eqz, drop", 2, ok},
		row{"unreachable, i32.const 2, i32.const 3, select, i64.eqz, drop", 0, errType},
		row{"unreachable, i64.const 1, i32.const 2, i32.const 3, select, drop", 0, errType},
		row{"unreachable, i64.const 1, i64.const 2, i32.const 3, select, drop", 3, ok},
		// What stood there as any one is so again, above and beneath one of a type.
		row{"unreachable, select, i64.const 2, i32.const 3, select, i64.eqz, drop", 3, ok},
		row{"unreachable, select, i64.const 2, i32.const 3, select, i32.eqz, drop", 0, errType},
		row{"unreachable, i64.const 1, select, drop", 0, errType},
		row{"unreachable, i64.const 1, i32.const 2, br_if 0, drop, select, i64.eqz, drop", 2, ok},
		row{"unreachable, select, select, select, i64.eqz, drop", 1, ok},
	)
	// An operand of any one, which was pushed, above one that has a type.
	fn := api.FuncType{Params: types(0, i64)}
	for text, e := range map[string]api.Errno{
		"local.get 1, local.get 0, i32.const 1, select, i64.eqz, drop": ok,
		"local.get 1, local.get 0, i32.const 1, select, i32.eqz, drop": errType,
		"local.get 0, local.get 1, i32.const 1, select, i64.eqz, drop": ok,
		"local.get 0, local.get 1, i32.const 1, select, i32.eqz, drop": errType,
		"local.get 0, local.get 0, i32.const 1, select, i32.eqz, drop": ok,
		"local.get 0, local.get 0, i32.const 1, select, i64.eqz, drop": ok,
		"local.get 0, local.get 0, local.get 0, select, i64.eqz, drop": ok,
		"local.get 0, local.get 0, local.get 1, select, i64.eqz, drop": errType,
	} {
		height := 3
		if e != ok {
			height = 0
		}
		checkBody(t, whole(), fn, api.Code{Body: written(text)}, height, e)
	}
}

// P10.2: locals of both types, and those that are not there, which are asked for ahead of operands.
func TestLocals(t *testing.T) {
	for i, own := range types(i32, i64, i32, i64) {
		n := strconv.Itoa(i)
		same, other, eqz, otherEqz := "i32.const 1", "i64.const 1", "i32.eqz", "i64.eqz"
		if own == i64 {
			same, other, eqz, otherEqz = other, same, otherEqz, eqz
		}
		checkRows(t, whole(),
			row{"local.get " + n + ", drop", 1, ok},
			row{"local.get " + n, 0, errType},
			row{"local.get " + n + ", " + eqz + ", drop", 1, ok},
			row{"local.get " + n + ", " + otherEqz + ", drop", 0, errType},
			row{same + ", local.set " + n, 1, ok},
			row{other + ", local.set " + n, 0, errType},
			row{"local.set " + n, 0, errType},
			row{same + ", local.set " + n + ", drop", 0, errType},
			row{same + ", local.tee " + n + ", drop", 1, ok},
			row{same + ", local.tee " + n, 0, errType},
			row{other + ", local.tee " + n + ", drop", 0, errType},
			row{"local.tee " + n + ", drop", 0, errType},
			row{same + ", local.tee " + n + ", " + eqz + ", drop", 1, ok},
			row{same + ", local.tee " + n + ", " + otherEqz + ", drop", 0, errType},
			row{same + ", block, local.set " + n + ", end", 0, errType},
			row{"unreachable, local.set " + n, 0, ok},
			row{"unreachable, local.tee " + n + ", " + eqz + ", drop", 1, ok},
			row{"unreachable, local.tee " + n + ", " + otherEqz + ", drop", 0, errType},
			row{"unreachable, " + other + ", local.set " + n, 0, errType},
			row{"unreachable, " + other + ", local.tee " + n + ", drop", 0, errType},
		)
	}
	for _, n := range []string{"4", "5", "260", "65536", "2147483648", "4294967295"} {
		checkRows(t, whole(),
			row{"local.get " + n, 0, errIndex},
			row{"local.set " + n, 0, errIndex},
			row{"local.tee " + n, 0, errIndex},
			row{"i32.const 1, local.set " + n, 0, errIndex},
			row{"unreachable, local.tee " + n, 0, errIndex},
		)
	}
	huge := api.Code{Locals: []api.Local{run(1<<32-1, i64), run(1<<32-1, i32)}}
	for text, e := range map[string]api.Errno{
		"local.get 4294967294, i64.eqz, drop": ok,
		"local.get 4294967295, i32.eqz, drop": ok,
		"local.get 4294967295, i64.eqz, drop": errType,
	} {
		huge.Body = written(text)
		height := 1
		if e != ok {
			height = 0
		}
		if h, got := body.Check(space.Of(whole()), api.FuncType{}, huge); h != height || got != e {
			t.Errorf("%s: %d, %d", text, h, got)
		}
	}
}

// P10.2: globals, imported and own ones, Mut and not; one that is not there is told ahead of all else.
func TestGlobals(t *testing.T) {
	checkRows(t, whole(),
		row{"global.get 0, i32.eqz, drop", 1, ok},
		row{"global.get 0, i64.eqz, drop", 0, errType},
		row{"global.get 1, i64.eqz, drop", 1, ok},
		row{"global.get 1, i32.eqz, drop", 0, errType},
		row{"global.get 2, i32.eqz, drop", 1, ok},
		row{"global.get 3, i64.eqz, drop", 1, ok},
		row{"global.get 3", 0, errType},
		row{"global.get 4", 0, errIndex},
		row{"global.get 4294967295", 0, errIndex},
		row{"i32.const 1, global.set 0", 0, errType},
		row{"i64.const 1, global.set 1", 1, ok},
		row{"i32.const 1, global.set 1", 0, errType},
		row{"global.set 1", 0, errType},
		row{"i32.const 1, global.set 2", 1, ok},
		row{"i64.const 1, global.set 2", 0, errType},
		row{"i32.const 1, global.set 2, drop", 0, errType},
		row{"i64.const 1, global.set 3", 0, errType},
		row{"i64.const 1, global.set 4", 0, errIndex},
		row{"global.set 4", 0, errIndex},
		row{"global.set 4294967295", 0, errIndex},
		row{"i32.const 1, block, global.set 2, end", 0, errType},
		row{"unreachable, global.set 0", 0, errType},
		row{"unreachable, global.set 1", 0, ok},
		row{"unreachable, i32.const 1, global.set 1", 0, errType},
		row{"unreachable, global.set 3", 0, errType},
		row{"unreachable, global.set 4", 0, errIndex},
		row{"unreachable, global.get 0, drop", 1, ok},
	)
	checkRows(t, api.Module{}, row{"global.get 0, drop", 0, errIndex}, row{"i32.const 1, global.set 0", 0, errIndex})
}

// accesses are the loads and stores, by the type beside the address.
func accesses() []access {
	return []access{
		{"i32.load", i32, 4}, {"i32.load8_s", i32, 1}, {"i32.load8_u", i32, 1}, {"i32.load16_s", i32, 2}, {"i32.load16_u", i32, 2},
		{"i64.load", i64, 8}, {"i64.load8_s", i64, 1}, {"i64.load8_u", i64, 1}, {"i64.load16_s", i64, 2}, {"i64.load16_u", i64, 2},
		{"i64.load32_s", i64, 4}, {"i64.load32_u", i64, 4},
		{"i32.store", i32, 4}, {"i32.store8", i32, 1}, {"i32.store16", i32, 2},
		{"i64.store", i64, 8}, {"i64.store8", i64, 1}, {"i64.store16", i64, 2}, {"i64.store32", i64, 4},
	}
}

type access struct {
	name  string
	t     uint8
	bytes int
}

// P10.2: loads and stores ask for a memory, for an alignment of no more than the access's bytes, and then for operands.
func TestAccesses(t *testing.T) {
	for _, a := range accesses() {
		same, other, eqz, otherEqz := "i32.const 1, ", "i64.const 1, ", "i32.eqz, drop", "i64.eqz, drop"
		if a.t == i64 {
			same, other, eqz, otherEqz = other, same, otherEqz, eqz
		}
		store := strings.Contains(a.name, "store")
		wants := 0
		for 1<<(wants+1) <= a.bytes {
			wants++
		}
		aligned := func(n int) string { return a.name + " " + strconv.Itoa(n) + " 4294967295" }
		rows := []row{{aligned(0), 0, errType}, {"i64.const 1, " + aligned(0), 0, errType}}
		good := "i32.const 1, "
		if store {
			good += same
			rows = append(rows,
				row{"i32.const 1, " + other + aligned(0), 0, errType},
				row{"i64.const 1, " + same + aligned(0), 0, errType},
				row{same + aligned(0), 0, errType},
				row{good + aligned(0) + ", drop", 0, errType},
				row{"unreachable, " + other + aligned(0), 0, errType},
				row{"unreachable, " + same + aligned(0), 1, ok},
				row{"unreachable, " + aligned(0), 0, ok})
		} else {
			rows = append(rows,
				row{good + aligned(0), 0, errType},
				row{good + aligned(0) + ", " + eqz, 1, ok},
				row{good + aligned(0) + ", " + otherEqz, 0, errType},
				row{"unreachable, i64.const 1, " + aligned(0) + ", drop", 0, errType},
				row{"unreachable, " + aligned(0) + ", " + eqz, 1, ok})
		}
		height, behind := 1, ", drop"
		if store {
			height, behind = 2, ""
		}
		for n := range wants + 1 {
			rows = append(rows, row{good + aligned(n) + behind, height, ok})
		}
		for _, n := range []int{wants + 1, wants + 2, 7, 8, 15, 31, 32, 33, 62, 63, 64, 65, 127, 128, 255, 256, 1<<31 - 1, 1 << 31, 1<<32 - 1} {
			rows = append(rows, row{good + aligned(n) + behind, 0, errType}, row{"unreachable, " + aligned(n) + behind, 0, errType})
		}
		checkRows(t, whole(), rows...)
		checkRows(t, imported(), rows...)
		// Without a memory none is there, whatever the alignment and the operands are.
		for _, n := range []int{0, wants, wants + 1, 1<<32 - 1} {
			checkRows(t, lacking(), row{good + aligned(n) + behind, 0, errIndex}, row{aligned(n), 0, errIndex}, row{"unreachable, " + aligned(n) + behind, 0, errIndex})
		}
	}
}

// P10.2: memory.size and memory.grow ask for a memory ahead of operands.
func TestPages(t *testing.T) {
	rows := []row{
		{"memory.size, drop", 1, ok},
		{"memory.size", 0, errType},
		{"memory.size, i32.eqz, drop", 1, ok},
		{"memory.size, i64.eqz, drop", 0, errType},
		{"i32.const 1, memory.grow, drop", 1, ok},
		{"i32.const 1, memory.grow", 0, errType},
		{"i32.const 1, memory.grow, i32.eqz, drop", 1, ok},
		{"i32.const 1, memory.grow, i64.eqz, drop", 0, errType},
		{"i64.const 1, memory.grow, drop", 0, errType},
		{"memory.grow, drop", 0, errType},
		{"memory.size, memory.grow, drop", 1, ok},
		{"unreachable, memory.grow, drop", 1, ok},
		{"unreachable, i64.const 1, memory.grow, drop", 0, errType},
	}
	checkRows(t, whole(), rows...)
	checkRows(t, imported(), rows...)
	for _, r := range rows {
		checkRows(t, lacking(), row{r.text, 0, errIndex})
	}
	m := whole()
	m.Tables = nil
	checkRows(t, m, row{"memory.size, drop", 1, ok})
	m = whole()
	m.Mems = nil
	checkRows(t, m, row{"memory.size, drop", 0, errIndex}, row{"memory.grow", 0, errIndex})
}

// P10.2: each opcode of constants and of operations is as the table of opcodes tells, with no module's help.
func TestPlain(t *testing.T) {
	consts := map[uint8]string{i32: "i32.const 1, ", i64: "i64.const 1, "}
	eqzs := map[uint8]string{i32: "i32.eqz, drop", i64: "i64.eqz, drop"}
	wrong := map[uint8]uint8{i32: i64, i64: i32}
	for name, sig := range plains() {
		takes, gives := sig[:len(sig)-1], sig[len(sig)-1]
		if strings.HasSuffix(name, ".const") {
			name += " 7"
		}
		ahead := ""
		for _, own := range takes {
			ahead += consts[own]
		}
		rows := []row{
			{ahead + name + ", " + eqzs[gives], max(1, len(takes)), ok},
			{ahead + name + ", " + eqzs[wrong[gives]], 0, errType},
			{ahead + name, 0, errType},
			{ahead + name + ", drop, drop", 0, errType},
			{"unreachable, " + name + ", " + eqzs[gives], 1, ok},
			{"unreachable, " + name + ", " + eqzs[wrong[gives]], 0, errType},
		}
		for i, own := range takes {
			ahead := ""
			for j, other := range takes {
				if j == i {
					other = wrong[own]
				}
				ahead += consts[other]
			}
			rows = append(rows, row{ahead + name + ", drop", 0, errType}, row{"unreachable, " + ahead + name + ", drop", 0, errType})
			less := ""
			for _, other := range takes[i+1:] {
				less += consts[other]
			}
			rows = append(rows, row{less + name + ", drop", 0, errType}, row{"unreachable, " + less + name + ", drop", len(takes[i+1:]), ok})
			rows[len(rows)-1].height = max(1, len(takes[i+1:]))
		}
		checkRows(t, api.Module{}, rows...)
		checkRows(t, whole(), rows...)
	}
}

// plains are constants and operations: what they take, and behind it the one that they give.
func plains() map[string][]uint8 {
	all := map[string][]uint8{
		"i32.const":        types(i32),
		"i64.const":        types(i64),
		"i32.wrap_i64":     types(i64, i32),
		"i64.extend_i32_s": types(i32, i64),
		"i64.extend_i32_u": types(i32, i64),
	}
	for prefix, own := range map[string]uint8{"i32.": i32, "i64.": i64} {
		all[prefix+"eqz"] = types(own, i32)
		for name := range strings.FieldsSeq("eq ne lt_s lt_u gt_s gt_u le_s le_u ge_s ge_u") {
			all[prefix+name] = types(own, own, i32)
		}
		for name := range strings.FieldsSeq("clz ctz popcnt") {
			all[prefix+name] = types(own, own)
		}
		for name := range strings.FieldsSeq("add sub mul div_s div_u rem_s rem_u and or xor shl shr_s shr_u rotl rotr") {
			all[prefix+name] = types(own, own, own)
		}
	}
	return all
}

// P10.2: each known opcode has a row in these tests, and each that is not known is ErrArg.
func TestOpcodes(t *testing.T) {
	rows := map[string]bool{}
	for name := range plains() {
		rows[name] = true
	}
	for _, a := range accesses() {
		rows[a.name] = true
	}
	for name := range strings.FieldsSeq("unreachable nop block loop if else end br br_if br_table return call call_indirect drop select local.get local.set local.tee global.get global.set memory.size memory.grow") {
		rows[name] = true
	}
	for n := range 256 {
		op := uint8(n)
		if opc.Known(op) != rows[opc.Name(op)] {
			t.Errorf("opcode %x: %v", op, rows[opc.Name(op)])
		}
		if !opc.Known(op) {
			checkBody(t, whole(), api.FuncType{}, api.Code{Body: []api.Instr{{Op: op}}}, 0, api.ErrArg)
			checkBody(t, whole(), api.FuncType{}, api.Code{Body: []api.Instr{{Op: api.OpUnreachable}, {Op: op}}}, 0, api.ErrArg)
		}
	}
	checkRows(t, api.Module{}, row{"nop", 0, ok}, row{"nop, i32.const 1, nop, drop, nop", 1, ok}, row{"unreachable, nop", 0, ok})
}

// P10.2: of two instructions with an error the first one's is told.
func TestFirst(t *testing.T) {
	errs := map[string]api.Errno{"local.get 9": errIndex, "br 9": errLabel, "i64.eqz": errType, "call 9": errIndex, "drop": errType, "br_table 0 9": errLabel, "block i32, end": errType}
	for first, e := range errs {
		for second := range errs {
			for _, between := range []string{"", "nop, ", "i32.const 1, drop, "} {
				checkRows(t, whole(),
					row{first + ", " + between + second, 0, e},
					row{between + first + ", " + second, 0, e},
					row{"block, " + first + ", end, " + between + second, 0, e},
					row{"loop i32, " + between + first + ", " + second + ", end", 0, e})
			}
		}
		// The end of all comes last.
		row{first, 0, e}.check(t, whole(), i32, i64)
	}
}

// P10.2: the height is the greatest that was, not the last; operands of outer blocks count.
func TestHeight(t *testing.T) {
	checkRows(t, whole(),
		row{"", 0, ok},
		row{"nop", 0, ok},
		row{"i32.const 1, drop, i32.const 1, drop", 1, ok},
		row{"i32.const 1, i32.const 1, i32.const 1, drop, drop, drop, i32.const 1, drop", 3, ok},
		row{"i32.const 1, drop, i32.const 1, i32.const 1, drop, drop", 2, ok},
		row{"i32.const 1, i32.const 1, i32.add, i32.const 1, i32.add, drop", 2, ok},
		row{"i32.const 1, i32.const 1, i32.const 1, i32.add, i32.add, drop", 3, ok},
		row{"i64.const 1, call 2, call 2, drop", 0, errType},
		row{"i64.const 1, block, i64.const 1, block, i64.const 1, drop, end, drop, end, drop", 3, ok},
		row{"i64.const 1, block i32, i64.const 1, block i32, i32.const 1, end, drop, drop, i32.const 1, end, drop, drop", 3, ok},
		row{"i64.const 1, block i32, unreachable, end, drop, drop", 2, ok},
		row{"i64.const 1, block i32, unreachable, i32.const 1, i32.const 1, end, drop, drop", 0, errType},
		row{"i64.const 1, i64.const 1, i64.const 1, unreachable, i64.const 1, drop", 3, ok},
		row{"unreachable, i64.const 1, i64.const 1, unreachable, i64.const 1, drop", 2, ok},
		row{"block, i64.const 1, br 0, end, i64.const 1, i64.const 1, drop, drop", 2, ok},
		row{"i32.const 1, if, i32.const 1, i32.const 1, drop, drop, else, i32.const 1, drop, end", 2, ok},
		row{"i32.const 1, if, i32.const 1, drop, else, i32.const 1, i32.const 1, i32.const 1, drop, drop, drop, end", 3, ok},
		row{"i32.const 1, call 5, drop, drop", 2, ok},
		row{"unreachable, call 5, drop, drop", 2, ok},
		row{"unreachable, br_if 0, i32.const 1, drop", 1, ok},
	)
	for n := range 40 {
		l := strings.Repeat("i64.const 1, ", n)
		row{l + strings.Repeat("drop, ", n), n, ok}.check(t, whole())
		row{l + "unreachable", n, ok}.check(t, whole(), i64)
		row{l + strings.Repeat("i64.add, ", max(0, n-1)), n, ok}.check(t, whole(), slices.Repeat(types(i64), min(1, n))...)
		if n == 0 {
			continue
		}
		row{strings.Repeat("i64.const 1, block, ", n) + strings.Repeat("end, drop, ", n), n, ok}.check(t, whole())
		row{strings.Repeat("block i64, ", n) + "unreachable, " + strings.Repeat("end, ", n) + "drop", 1, ok}.check(t, whole())
		row{strings.Repeat("block i64, i32.const 1, br 1, ", n), 0, api.ErrArg}.check(t, whole())
	}
}

// P10.3: more behind what makes it dead is well typed only if it fits.
func TestBehindDead(t *testing.T) {
	for _, dead := range []string{"return", "br 0", "unreachable", "i32.const 1, br_table 0 0", "block, return, end, unreachable", "loop, br 0, end, return"} {
		height := strings.Count(dead, "const")
		checkRows(t, whole(), row{dead, height, ok})
		for more, h := range map[string]int{
			"nop":                         0,
			"drop":                        0,
			"i32.const 1, drop":           1,
			"i32.add, drop":               1,
			"i64.const 1, i64.add, drop":  1,
			"i64.eqz, br_if 0":            1,
			"select, local.set 1":         1,
			"select, local.set 0":         1,
			"block, end":                  0,
			"if, else, end":               0,
			"call 0":                      0,
			"return":                      0,
			"br_table 0":                  0,
			"local.tee 0, drop":           1,
			"i32.load 2 0, drop":          1,
			"i64.const 1, i64.store 3 0":  1,
			"global.set 1":                0,
			"memory.grow, local.set 2":    1,
			"i32.const 1, i64.const 1":    -1,
			"i32.const 1":                 -1,
			"i32.add":                     -1,
			"i64.const 1, i32.eqz, drop":  -1,
			"i32.const 1, i64.add, drop":  -1,
			"select":                      -1,
			"block, drop, end":            -1,
			"block i32, end, drop":        -1,
			"i64.const 1, if, end":        -1,
			"if i32, i32.const 1, end":    -1,
			"i64.const 1, call 2":         -1,
			"i32.const 1, global.set 1":   -1,
			"global.set 0":                -1,
			"i64.const 1, i32.load 2 0":   -1,
			"i32.load 3 0, drop":          -1,
			"i64.const 1, br_table 0":     -1,
			"i64.const 1, memory.grow":    -1,
			"i32.const 1, local.set 1":    -1,
			"i64.const 1, i64.const 1":    -1,
			"i32.wrap_i64, i64.eqz, drop": -1,
		} {
			r := row{dead + ", " + more, max(height, h), ok}
			if h < 0 {
				r.height, r.e = 0, errType
			}
			r.check(t, whole())
		}
		checkRows(t, whole(), row{dead + ", br 1", 0, errLabel}, row{dead + ", call 9", 0, errIndex}, row{dead + ", local.get 4", 0, errIndex})
	}
}

// P10.3: nothing behind a body's end counts: not what its list has room for; and an end that is no block's has no bytes.
func TestBehindEnd(t *testing.T) {
	s := space.Of(whole())
	for _, text := range []string{"", "i64.const 1, drop", "block, end", "return", "i64.const 1"} {
		l := written(text)
		h, e := body.Check(s, api.FuncType{}, api.Code{Body: l})
		for _, more := range []string{"nop", "drop", "end", "call 99", "i32.const 1", "block"} {
			longer := joined(l, written(more))
			if got, is := body.Check(s, api.FuncType{}, api.Code{Body: longer[:len(l)]}); got != h || is != e {
				t.Errorf("%s, with %s behind it: %d, %d, want %d, %d", text, more, got, is, h, e)
			}
			checkBody(t, whole(), api.FuncType{}, api.Code{Body: joined(l, written("end"), written(more))}, 0, api.ErrArg)
		}
	}
}

// P10.1: a list's room has no part in it, either.
func TestLocalBehindEnd(t *testing.T) {
	params := types(i32, i64)
	runs := []api.Local{run(1, i64), run(1, i32)}
	fn, c := takes(params[:1]...), api.Code{Locals: runs[:1]}
	checkLocal(t, fn, c, 1, i64, true)
	checkLocal(t, fn, c, 2, 0, false)
	fn.Params = params[:1]
	checkLocal(t, fn, c, 1, i64, true)
	checkLocal(t, fn, c, 2, 0, false)
}

// P10.1, P10.2: what is handed in stays as it is, the room of its lists too, and asked again it is the same.
func TestHandedIn(t *testing.T) {
	m := whole()
	s := space.Of(m)
	for _, text := range []string{
		"local.get 0, i64.extend_i32_u",
		"i64.const 1, i32.const 1, br_table 0 0 0",
		"i64.const 1, i32.const 1, br_if 0",
		"block i64, i64.const 1, i32.const 1, br_table 0 1 0 1, end",
		"i32.const 1, if i64, call 3, else, i64.const 1, i32.const 1, i32.const 1, call 4, end",
		"i64.const 1, local.tee 1, i32.const 0, call_indirect 1, drop, local.get 3",
		"call 9",
		"i32.add",
		"br_table 0 0 5",
		"end",
	} {
		code := func() (api.FuncType, api.Code) {
			params, results := append(types(i32), 9, 9)[:1], append(types(i64), 9, 9)[:1]
			l := append(written(text), written("call 77")...)
			for i := range l {
				if l[i].L != nil {
					l[i].L = append(l[i].L, 77)[:len(l[i].L)]
				}
			}
			runs := append(someLocals(), run(7, 7))
			return api.FuncType{Params: params, Results: results}, api.Code{Locals: runs[:4], Body: l[:len(l)-1]}
		}
		fn, c := code()
		h, e := body.Check(s, fn, c)
		body.Local(fn, c, 2)
		for range 3 {
			if again, is := body.Check(s, fn, c); again != h || is != e {
				t.Errorf("%s: %d, %d, and then %d, %d", text, h, e, again, is)
			}
		}
		fnWas, cWas := code()
		if !reflect.DeepEqual(roomy(fn, c), roomy(fnWas, cWas)) {
			t.Errorf("%s: what was handed in is changed", text)
		}
		if again, is := body.Check(space.Of(whole()), fnWas, cWas); again != h || is != e {
			t.Errorf("%s: %d, %d, by another space %d, %d", text, h, e, again, is)
		}
	}
	if !reflect.DeepEqual(m, whole()) {
		t.Error("the module is changed")
	}
	for i := range uint32(8) {
		own, is := s.Func(i)
		other, was := space.Of(whole()).Func(i)
		if is != was || !space.Same(own, other) {
			t.Errorf("function %d of the space is changed", i)
		}
	}
}

// roomy are all lists with the room that they have.
func roomy(fn api.FuncType, c api.Code) []any {
	all := []any{fn.Params[:cap(fn.Params)], fn.Results[:cap(fn.Results)], c.Locals[:cap(c.Locals)], c.Body[:cap(c.Body)]}
	for _, x := range c.Body {
		all = append(all, x.L[:cap(x.L)])
	}
	return all
}

// R1: bodies, lists and numbers that are huge.
func TestHuge(t *testing.T) {
	const n = 200000
	m := whole()
	s := space.Of(m)
	check := func(what string, fn api.FuncType, l []api.Instr, height int, e api.Errno) {
		t.Helper()
		if h, got := body.Check(s, fn, api.Code{Body: l}); h != height || got != e {
			t.Errorf("%s: %d, %d, want %d, %d", what, h, got, height, e)
		}
	}
	check("nops", api.FuncType{}, slices.Repeat(written("nop"), n), 0, ok)
	check("pushes", api.FuncType{}, joined(slices.Repeat(written("i64.const 1"), n), written("unreachable")), n, ok)
	check("blocks", api.FuncType{}, joined(slices.Repeat(written("block"), n), slices.Repeat(written("end"), n)), 0, ok)
	check("blocks of results", gives(i64), joined(slices.Repeat(written("block i64"), n), written("i64.const 1"), slices.Repeat(written("end"), n)), 1, ok)
	check("loops that lack", gives(i64), joined(slices.Repeat(written("loop i64"), n), slices.Repeat(written("end"), n)), 0, errType)
	check("open blocks", api.FuncType{}, slices.Repeat(written("block"), n), 0, api.ErrArg)
	check("the outermost label", api.FuncType{}, joined(slices.Repeat(written("block"), n), written("br "+strconv.Itoa(n)), slices.Repeat(written("end"), n)), 0, ok)
	check("a label more", api.FuncType{}, joined(slices.Repeat(written("block"), n), written("br "+strconv.Itoa(n+1)), slices.Repeat(written("end"), n)), 0, errLabel)
	table := api.Instr{Op: api.OpBrTable, L: make([]uint32, n)}
	check("labels", api.FuncType{}, joined(written("i32.const 1"), []api.Instr{table}), 1, ok)
	table.L[n-1] = 1
	check("labels, one of which is not there", api.FuncType{}, joined(written("i32.const 1"), []api.Instr{table}), 0, errLabel)
	many := slices.Repeat(types(i64, i32), n/2)
	check("results", gives(many...), slices.Repeat(written("i64.const 1, i32.const 1"), n/2), n, ok)
	check("results that differ", gives(many...), slices.Repeat(written("i32.const 1, i64.const 1"), n/2), 0, errType)
	check("parameters", takes(many...), written("local.get 199999, i32.eqz, drop, local.get 199998, i64.eqz, drop"), 1, ok)
	for _, name := range []string{"br", "br_if", "br_table", "call", "call_indirect", "local.get", "local.set", "local.tee", "global.get", "global.set"} {
		e := errIndex
		if strings.HasPrefix(name, "br") {
			e = errLabel
		}
		check(name, api.FuncType{}, written(name+" 4294967295"), 0, e)
		check(name, api.FuncType{}, written("unreachable, "+name+" 4294967295"), 0, e)
	}
}
