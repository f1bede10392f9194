package bin_test

import (
	"bytes"
	"math"
	"reflect"
	"runtime"
	"slices"
	"testing"

	"gabelle/api"
	"gabelle/bin"
	"gabelle/name"
	"gabelle/opc"
)

func checkModule(t *testing.T, b []byte, want api.Module) {
	t.Helper()
	if m, e := bin.Decode(b); e != api.OK || !sameModule(m, want) {
		t.Fatalf("Decode(% x) = %+v, %d, want %+v", b, m, e, want)
	}
}

func checkError(t *testing.T, b []byte, want api.Errno) {
	t.Helper()
	if m, e := bin.Decode(b); e != want || !sameModule(m, api.Module{}) {
		t.Fatalf("Decode(% x) = %+v, %d, want %d", b[:min(len(b), 400)], m, e, want)
	}
}

func checkModel(t *testing.T, b []byte) {
	t.Helper()
	want, e := modelDecode(b)
	if e != api.OK {
		checkError(t, b, e)
		return
	}
	checkModule(t, b, want)
}

func TestExamples(t *testing.T) {
	checkModule(t, of(unhex("01040160000003020100"), unhex("0a040102000b")), api.Module{Types: []api.FuncType{{}}, Funcs: []uint32{0}, Codes: []api.Code{{}}})
	checkError(t, of(unhex("01050160017d00")), api.ErrFloat)
	checkError(t, of(unhex("03020100")), api.ErrBin)
	checkModule(t, of(unhex("0503010002")), api.Module{Mems: []api.Limits{{Min: 2, Max: -1}}})
	checkModule(t, of(unhex("050401010203")), api.Module{Mems: []api.Limits{{Min: 2, Max: 3}}})
}

// P6.1: each section, with each of its things; and each by itself, where it may be.
func TestRich(t *testing.T) {
	checkModule(t, binary(rich), richModule())
	whole := reflect.ValueOf(richModule())
	fields := [][]string{{"Types"}, {"Imports"}, {"Funcs"}, {"Tables"}, {"Mems"}, {"Globals"}, {"Exports"}, {"HasStart", "Start"}, {"Elems"}, {"Codes"}, {"Datas"}}
	ids, contents := richSections()
	for i, id := range ids {
		if id == 3 || id == 10 {
			continue
		}
		var want api.Module
		for _, f := range fields[i] {
			reflect.ValueOf(&want).Elem().FieldByName(f).Set(whole.FieldByName(f))
		}
		checkModule(t, of(section(id, contents[i])), want)
	}
	both := api.Module{Funcs: richModule().Funcs, Codes: richModule().Codes}
	checkModule(t, of(section(3, contents[2]), section(10, contents[9])), both)
}

// P6.1: no section is as an empty list, but for the one that says where to start.
func TestNoSections(t *testing.T) {
	checkModule(t, head(), api.Module{})
	all := head()
	for _, id := range []uint8{1, 2, 3, 4, 5, 6, 7, 9, 10, 11} {
		checkModule(t, of(section(id, []byte{0})), api.Module{})
		all = append(all, section(id, []byte{0})...)
	}
	checkModule(t, all, api.Module{})
	checkError(t, of(section(8)), api.ErrBin)
	checkModule(t, of(section(8, []byte{0})), api.Module{HasStart: true})
	checkModule(t, of(section(8, number(math.MaxUint32))), api.Module{HasStart: true, Start: math.MaxUint32})
}

// P6.1: the contents of each section, cut at each byte and with a byte more.
func TestCutAndMore(t *testing.T) {
	_, contents := richSections()
	for at, b := range contents {
		for n := range b {
			checkError(t, richWith(at, b[:n]), api.ErrBin)
		}
		for x := range 256 {
			checkError(t, richWith(at, append(slices.Clone(b), byte(x))), api.ErrBin)
		}
	}
}

// P6.1: functions and codes that are cut, or have more, together with as many of the others as would be there then.
func TestCutFuncsAndCodes(t *testing.T) {
	funcs, code := []byte{3, 0, 129, 1, 2}, []byte{2, 0, 0x0b}
	codes := slices.Concat([]byte{3}, code, code, code)
	for n := range 4 {
		codesThere := append([]byte{byte(n)}, bytes.Repeat(code, n)...)
		for cut := range funcs {
			checkError(t, of(section(3, funcs[:cut]), section(10, codesThere)), api.ErrBin)
		}
		funcsThere := append([]byte{byte(n)}, make([]byte, n)...)
		for cut := range codes {
			checkError(t, of(section(3, funcsThere), section(10, codes[:cut])), api.ErrBin)
		}
		for x := range 256 {
			checkError(t, of(section(3, funcsThere, []byte{byte(x)}), section(10, codesThere)), api.ErrBin)
			checkError(t, of(section(3, funcsThere), section(10, codesThere, []byte{byte(x)})), api.ErrBin)
		}
		checkError(t, of(section(3, funcsThere), section(10, codesThere, code)), api.ErrBin)
	}
}

// P6.1: each byte that says a kind, with each value, alone; behind it stands what each value that may be has.
func TestKinds(t *testing.T) {
	for _, x := range []struct {
		id            uint8
		ahead, behind string
		may           []byte
	}{
		{1, "01", "0000", []byte{0x60}},
		{4, "01", "0005", []byte{0x70}},
		{2, "01 00 00 01", "0005", []byte{0x70}},
		{2, "01 00 00", "05", []byte{0}},
		{2, "01 00 00", "700005", []byte{1}},
		{2, "01 00 00", "0005", []byte{2}},
		{2, "01 00 00", "7f00", []byte{3}},
		{7, "01 00", "05", []byte{0, 1, 2, 3}},
		{4, "01 70", "05", []byte{0}},
		{4, "01 70", "0506", []byte{1}},
		{5, "01", "05", []byte{0}},
		{5, "01", "0506", []byte{1}},
		{2, "01 00 00 01 70", "05", []byte{0}},
		{2, "01 00 00 01 70", "0506", []byte{1}},
		{2, "01 00 00 02", "05", []byte{0}},
		{2, "01 00 00 02", "0506", []byte{1}},
		{2, "01 00 00 03 7e", "", []byte{0, 1}},
		{6, "01 7e", "0b", []byte{0, 1}},
	} {
		for v := range 256 {
			b := of(section(x.id, written(pieces(x.ahead)), []byte{byte(v)}, unhex(x.behind)))
			if !slices.Contains(x.may, byte(v)) {
				checkError(t, b, api.ErrBin)
			} else if m, e := bin.Decode(b); e != api.OK {
				t.Fatalf("Decode(% x) = %+v, %d", b, m, e)
			}
			checkModel(t, b)
		}
	}
}

// P6.1: each byte of a binary that has everything, with each value.
func TestEachByte(t *testing.T) {
	b := binary(rich)
	for i, was := range b {
		for x := range 256 {
			b[i] = byte(x)
			checkModel(t, b)
		}
		b[i] = was
	}
}

// P6.1: a type in each place of a value's type, and in a block's.
func TestTypes(t *testing.T) {
	l := pieces(rich)
	for _, at := range places(l, string(isType)+string(isBlock)) {
		for x := range 256 {
			b := of(written(put(l, at, hexed([]byte{byte(x)}))))
			switch {
			case x == 0x7d, x == 0x7c:
				checkError(t, b, api.ErrFloat)
			case x == 0x7f, x == 0x7e, x == 0x40 && l[at][2] == isBlock:
				if m, e := bin.Decode(b); e != api.OK {
					t.Fatalf("Decode(% x) = %+v, %d", b, m, e)
				}
				checkModel(t, b)
			default:
				checkError(t, b, api.ErrBin)
			}
		}
	}
}

// P6.1: a type of floats is one in the place of a value's type alone.
func TestFloatsElsewhere(t *testing.T) {
	l := pieces(rich)
	for _, x := range []string{"7d", "7c"} {
		for _, at := range places(l, string(isKind)) {
			checkError(t, of(written(put(l, at, x))), api.ErrBin)
		}
		for _, at := range places(l, string(isNumber)) {
			checkModel(t, of(written(put(l, at, x))))
		}
	}
	checkModule(t, of(section(8, []byte{0x7d})), api.Module{HasStart: true, Start: 0x7d})
	checkModule(t, of(section(11, unhex("010041000b037d7c43"))), api.Module{Datas: []api.Data{{Offset: []api.Instr{{Op: api.OpI32Const}}, B: []byte{0x7d, 0x7c, 0x43}}}})
	checkModule(t, of(section(7, unhex("01027d430043"))), api.Module{Exports: []api.Export{{Name: "}C", Index: 0x43}}})
}

// P6.1: each opcode in each place of one.
func TestOpcodes(t *testing.T) {
	l := pieces(rich)
	for _, at := range places(l, string(isOpcode)) {
		for x := range 256 {
			b := of(written(put(l, at, hexed([]byte{byte(x)}))))
			switch {
			case opc.Float(uint8(x)):
				checkError(t, b, api.ErrFloat)
			case !opc.Known(uint8(x)):
				checkError(t, b, api.ErrBin)
			default:
				checkModel(t, b)
			}
		}
	}
}

// fault is something that is amiss, at a place.
type fault struct {
	at    int
	piece string
	e     api.Errno
}

// faults are all that are made of the pieces by their marks, in the order in which they are read.
func faults(l []string) []fault {
	const tooMuch = "ffffffff1f"
	var out []fault
	for at, x := range l {
		switch x[len(x)-1] {
		case isKind:
			out = append(out, fault{at, "ff", api.ErrBin})
		case isType:
			out = append(out, fault{at, "7d", api.ErrFloat}, fault{at, "7c", api.ErrFloat}, fault{at, "7b", api.ErrBin})
		case isBlock:
			out = append(out, fault{at, "7d", api.ErrFloat}, fault{at, "41", api.ErrBin})
		case isOpcode:
			out = append(out, fault{at, "43", api.ErrFloat}, fault{at, "ff", api.ErrBin})
		case isName:
			out = append(out, fault{at, "01c3", api.ErrBin})
		case isCount, isNumber:
			out = append(out, fault{at, tooMuch, api.ErrBin})
		case isEnd:
			out = append(out, fault{at, "00", api.ErrBin})
		}
	}
	return out
}

// P6.1: of what is amiss the first that is read is told: each alone, and any two, within a section and in two of them.
func TestFirstFault(t *testing.T) {
	l := pieces(rich)
	all := faults(l)
	for i, x := range all {
		one := put(l, x.at, x.piece)
		checkError(t, of(written(one)), x.e)
		for _, y := range all[i+1:] {
			if y.at != x.at {
				checkError(t, of(written(put(one, y.at, y.piece))), x.e)
			}
		}
	}
}

// P6.1: the number of codes is held against that of functions when all else has been read.
func TestCodesInTheEnd(t *testing.T) {
	float := section(11, unhex("010043000b00"))
	wrong := section(11, unhex("0100ff000b00"))
	for _, ahead := range [][]byte{
		section(3, []byte{1, 0}),
		section(10, unhex("0102000b")),
		slices.Concat(section(3, []byte{2, 0, 0}), section(10, unhex("0102000b"))),
		slices.Concat(section(3, []byte{1, 0}), section(10, unhex("0202000b02000b"))),
	} {
		checkError(t, of(ahead), api.ErrBin)
		checkError(t, of(ahead, float), api.ErrFloat)
		checkError(t, of(ahead, wrong), api.ErrBin)
		checkError(t, of(section(1, unhex("0160017d00")), ahead), api.ErrFloat)
	}
}

// P6.1: as many codes as functions, be that none; one fewer, one more, far more; the one without the other.
func TestAsManyCodes(t *testing.T) {
	for funcs := range 5 {
		for codes := range 5 {
			f := section(3, []byte{byte(funcs)}, make([]byte, funcs))
			c := section(10, []byte{byte(codes)}, bytes.Repeat([]byte{2, 0, 0x0b}, codes))
			binaries := [][]byte{of(f, c)}
			if funcs == 0 {
				binaries = append(binaries, of(c))
			}
			if codes == 0 {
				binaries = append(binaries, of(f))
			}
			for _, b := range binaries {
				if funcs == codes {
					checkModule(t, b, api.Module{Funcs: make([]uint32, funcs), Codes: make([]api.Code, codes)})
				} else {
					checkError(t, b, api.ErrBin)
				}
			}
		}
	}
}

// allocated is how many bytes are made meanwhile.
func allocated(do func()) uint64 {
	var before, behind runtime.MemStats
	runtime.ReadMemStats(&before)
	do()
	runtime.ReadMemStats(&behind)
	return behind.TotalAlloc - before.TotalAlloc
}

// P6.1, R1: counts and lengths that go beyond the bytes, and huge ones, are found at once, without room for them.
func TestHugeCounts(t *testing.T) {
	l := pieces(rich)
	for _, at := range places(l, string(isCount)+string(isName)) {
		text := unhex(l[at])[1:] // of a name; of a count there is none
		for _, n := range []uint64{0, 1, 2, 3, 127, 128, 16384, 65535, 65536, math.MaxInt32, math.MaxInt32 + 1, math.MaxUint32 - 1, math.MaxUint32} {
			b := of(written(put(l, at, hexed(append(number(n), text...)))))
			checkModel(t, b)
			if n > 127 {
				checkError(t, b, api.ErrBin)
			}
			if made := allocated(func() { bin.Decode(b) }); made > 1<<16 {
				t.Fatalf("Decode(% x) makes %d bytes", b, made)
			}
		}
	}
}

// P6.1: huge counts, with nothing behind them, and with some entries; what is amiss in these comes ahead of the entries that are not there.
func TestHugeCountsEntries(t *testing.T) {
	huge := number(math.MaxUint32)
	for _, x := range []struct {
		id    uint8
		ahead []byte
		one   string
		float string
	}{
		{1, nil, "600000", "60017d00"},
		{1, []byte{1, 0x60}, "7f", "7c"},
		{1, []byte{1, 0x60, 0}, "7e", "7d"},
		{2, nil, "0000037f00", "0000037d00"},
		{3, nil, "05", ""},
		{4, nil, "700001", ""},
		{5, nil, "0001", ""},
		{6, nil, "7f000b", "7f0043"},
		{7, nil, "000000", ""},
		{9, nil, "000b00", "0043"},
		{9, []byte{1, 0, 0x0b}, "07", ""},
		{10, nil, "02000b", "020043"},
		{11, nil, "000b00", "0043"},
		{11, []byte{1, 0, 0x0b}, "07", ""},
	} {
		for n := range 3 {
			b := slices.Concat(x.ahead, huge, bytes.Repeat(unhex(x.one), n))
			checkError(t, of(section(x.id, b)), api.ErrBin)
			if x.float != "" {
				checkError(t, of(section(x.id, b, unhex(x.float))), api.ErrFloat)
			}
		}
	}
}

// P6.1: numbers may have more bytes than they need, up to five, and are of 32 bits.
func TestNumbers(t *testing.T) {
	l := pieces(rich)
	all := l
	for _, at := range places(l, string(isCount)+string(isNumber)) {
		was := unhex(l[at])
		for more := range 8 {
			b := of(written(put(l, at, hexed(longer(was, more)))))
			if len(was)+more <= 5 {
				checkModule(t, b, richModule())
			} else {
				checkError(t, b, api.ErrBin)
			}
		}
		all = put(all, at, hexed(longer(was, 5-len(was))))
		for _, x := range []string{"ffffffff0f", "ffffffff10", "ffffffff1f", "ffffffff7f", "8080808010", "80808080800f", "80", "ffffffff"} {
			checkModel(t, of(written(put(l, at, x))))
		}
		for _, x := range []string{"ffffffff10", "ffffffff1f", "8080808010", "ffffffffff00"} {
			checkError(t, of(written(put(l, at, x))), api.ErrBin)
		}
	}
	checkModule(t, of(written(all)), richModule())
	checkModule(t, of(section(5, unhex("0101ffffffff0fffffffff0f"))), api.Module{Mems: []api.Limits{{Min: math.MaxUint32, Max: math.MaxUint32}}})
	checkModule(t, of(section(5, unhex("010100ffffffff07"))), api.Module{Mems: []api.Limits{{Max: math.MaxInt32}}})
}

// P6.1: a code's size and a section's may have more bytes than they need.
func TestSizes(t *testing.T) {
	want := api.Module{Funcs: []uint32{0}, Codes: []api.Code{{}}}
	for more := range 5 {
		code := slices.Concat([]byte{1}, longer([]byte{2}, more), []byte{0, 0x0b})
		checkModule(t, of(section(3, []byte{1, 0}), section(10, code)), want)
	}
	for _, size := range []string{"828080808000", "8280808010", "ffffffff1f"} {
		checkError(t, of(section(3, []byte{1, 0}), section(10, []byte{1}, unhex(size), []byte{0, 0x0b})), api.ErrBin)
	}
}

// withCodes is a binary of such codes, and as many functions.
func withCodes(codes ...[]byte) []byte {
	n := number(uint64(len(codes)))
	return of(section(3, n, make([]byte, len(codes))), section(10, append([][]byte{n}, codes...)...))
}

// P6.1: a code that says more bytes than are there, ahead of what is amiss in these.
func TestCodeBytesNotThere(t *testing.T) {
	for _, inside := range []string{"000b", "00430b", "00ff0b", "01017d0b", "0043", ""} {
		b := unhex(inside)
		for _, n := range []uint64{uint64(len(b)) + 1, uint64(len(b)) + 2, 127, 128, 65536, math.MaxInt32, math.MaxInt32 + 1, math.MaxUint32} {
			checkError(t, withCodes(append(number(n), b...)), api.ErrBin)
			checkError(t, withCodes(unhex("02000b"), append(number(n), b...)), api.ErrBin)
		}
	}
	checkError(t, withCodes(unhex("0200430b")), api.ErrFloat)
	checkError(t, withCodes(unhex("020043"), unhex("09000b")), api.ErrFloat)
	checkError(t, withCodes(unhex("09000b"), unhex("020043")), api.ErrBin)
}

// P6.1: a code's bytes are all of it: what is read of it ends where they end, be there more behind them or not.
func TestCodeBytesLeft(t *testing.T) {
	for x := range 256 {
		checkError(t, withCodes([]byte{3, 0, 0x0b, byte(x)}), api.ErrBin)
		checkError(t, withCodes([]byte{3, 0, 0x0b, byte(x)}, []byte{2, 0, 0x0b}), api.ErrBin)
	}
	for _, codes := range []string{
		"00", "0100", "01000b", "0103", "010b", "03000b0b", "04000b000b", "0301000b", "0341000b",
	} {
		checkError(t, withCodes(unhex(codes)), api.ErrBin)
	}
	checkError(t, withCodes([]byte{1, 0}, []byte{0x0b, 0}), api.ErrBin)
	checkError(t, withCodes([]byte{3, 0, 0x0b}, []byte{2, 0, 0x0b}), api.ErrBin)
	checkError(t, withCodes([]byte{1, 0}, []byte{0x43}), api.ErrBin)
	checkError(t, withCodes(unhex("03000b00"), unhex("020043")), api.ErrBin)
	checkError(t, withCodes(unhex("03004300"), unhex("03000b00")), api.ErrFloat)
	checkError(t, withCodes(unhex("04000b430b")), api.ErrBin)
}

// withLocals is a code of such runs, all of one type, and an expression's bytes.
func withLocals(expr string, runs ...uint64) []byte {
	b := number(uint64(len(runs)))
	for _, n := range runs {
		b = append(append(b, number(n)...), 0x7e)
	}
	return sized(append(b, unhex(expr)...))
}

// P6.1: runs of locals that are together fewer than 2^32, just as many, and more, also where a sum of 32 bits wraps.
func TestLocals(t *testing.T) {
	const most, half = math.MaxUint32, 1 << 31
	for _, runs := range [][]uint64{{}, {0}, {most}, {most, 0}, {0, most}, {half, half - 1}, {1, 2, 3}, {most - 2, 1, 1}, slices.Repeat([]uint64{1 << 20}, 4095), slices.Repeat([]uint64{0}, 500)} {
		m, e := bin.Decode(withCodes(withLocals("0b", runs...)))
		if e != api.OK || len(m.Codes) != 1 || len(m.Codes[0].Locals) != len(runs) {
			t.Fatalf("of %v: %v, %d", runs, m, e)
		}
		for i, n := range runs {
			if got := m.Codes[0].Locals[i]; uint64(got.N) != n || got.T != api.I64 {
				t.Fatalf("of %v: %v", runs, m)
			}
		}
	}
	for _, runs := range [][]uint64{{most, 1}, {1, most}, {half, half}, {half, half, 1}, {most, 2}, {most, most}, {most, most, 2}, {most, most, most}, {half, half, half, half}, {most, 0, 0, 1, 0}, {1 << 32}, slices.Repeat([]uint64{1 << 20}, 4096), slices.Repeat([]uint64{most}, 1000)} {
		checkError(t, withCodes(withLocals("0b", runs...)), api.ErrBin)
		checkError(t, withCodes(withLocals("0b"), withLocals("0b", runs...)), api.ErrBin)
		checkError(t, withCodes(withLocals("430b", runs...)), api.ErrBin)
		checkError(t, withCodes(withLocals("0b", runs...), withLocals("430b")), api.ErrBin)
		checkError(t, withCodes(withLocals("430b"), withLocals("0b", runs...)), api.ErrFloat)
	}
	if m, e := bin.Decode(withCodes(withLocals("0b", most), withLocals("0b", most), withLocals("0b", half, 1))); e != api.OK {
		t.Errorf("codes' locals count together: %v, %d", m, e)
	}
}

// P6.1: MaxModule bytes may be; one more is too long, ahead of whatever else is amiss.
func TestMaxModule(t *testing.T) {
	b := binary(rich)
	room := api.MaxModule - len(b) - 4
	full := append(b, section(0, make([]byte, room))...)
	if len(full) != api.MaxModule {
		t.Fatal(len(full))
	}
	checkModule(t, full, richModule())
	checkError(t, append(full, 0), api.ErrLong)
	checkError(t, append(slices.Clone(b), section(0, make([]byte, room+1))...), api.ErrLong)

	for _, b := range [][]byte{nil, head(), binary(rich), of(section(1, unhex("0160017d00"))), []byte("\x00asm\x02"), of([]byte{12, 0})} {
		for _, fill := range []byte{0, 0x43, 0xff} {
			long := append(slices.Clone(b), bytes.Repeat([]byte{fill}, api.MaxModule+1)...)
			checkError(t, long, api.ErrLong)
			checkError(t, long[:api.MaxModule+1], api.ErrLong)
			checkModel(t, long[:api.MaxModule])
		}
	}
	checkError(t, make([]byte, api.MaxModule), api.ErrBin)
	checkError(t, make([]byte, 1<<22), api.ErrLong)
	checkError(t, nil, api.ErrBin)
	checkError(t, []byte{}, api.ErrBin)
}

// P6.1: what is wrong with a binary's sections comes ahead of all that is wrong in them.
func TestSplitFirst(t *testing.T) {
	float := section(1, unhex("0160017d00"))
	checkError(t, of(float), api.ErrFloat)
	for _, behind := range []string{"00", "02", "0c00", "0100", "0000", "0001ff", "0201", "03808080808000", "0aff", "05000400", "08ffffffff0f"} {
		checkError(t, of(float, unhex(behind)), api.ErrBin)
	}
	b := of(float)
	for i := range 8 {
		b[i] ^= 1
		checkError(t, b, api.ErrBin)
		b[i] ^= 1
	}
	checkError(t, of(section(0, nil), float), api.ErrBin)
	checkError(t, of(section(2, []byte{0}), float), api.ErrBin)
}

// P6.2: custom sections anywhere make no difference, whatever stands in them; nor does what stands in none of the sections' contents.
func TestCustomAnywhere(t *testing.T) {
	ids, contents := richSections()
	for _, c := range [][]byte{
		section(0, []byte{0}),
		section(0, name.Append(nil, "name"), unhex("7d7c43ff")),
		section(0, []byte{0}, binary(rich)),
		bytes.Repeat(section(0, []byte{1, 'a'}), 50),
		{0, 0x82, 0x80, 0x80, 0x80, 0, 1, 'a'},
	} {
		everywhere := append(head(), c...)
		for at := range len(ids) + 1 {
			b := head()
			for i, id := range ids {
				if i == at {
					b = append(b, c...)
				}
				b = append(b, section(id, contents[i])...)
			}
			if at == len(ids) {
				b = append(b, c...)
			} else {
				everywhere = slices.Concat(everywhere, section(ids[at], contents[at]), c)
			}
			checkModule(t, b, richModule())
		}
		checkModule(t, everywhere, richModule())
		checkModule(t, of(c), api.Module{})
		checkError(t, of(c, section(3, []byte{1, 0}), c), api.ErrBin)
		checkError(t, of(c, section(1, unhex("0160017d00")), c), api.ErrFloat)
	}
	for _, c := range []string{"0000", "000101", "0001ff", "000201c3"} {
		for at := range len(ids) + 1 {
			b := head()
			for i, id := range ids[:at] {
				b = append(b, section(id, contents[i])...)
			}
			checkError(t, append(b, unhex(c)...), api.ErrBin)
		}
	}
}

// P6.1: names are texts, whatever their characters and their length.
func TestNames(t *testing.T) {
	for _, s := range []string{"", "a", "ä", "\x00", "\U0010ffff", string(bytes.Repeat([]byte{'x'}, 127)), string(bytes.Repeat([]byte{'y'}, 300))} {
		n := name.Append(nil, s)
		checkModule(t, of(section(7, []byte{1}, n, []byte{2, 3})), api.Module{Exports: []api.Export{{Name: s, Kind: 2, Index: 3}}})
		checkModule(t, of(section(2, []byte{1}, n, []byte{1, 'b', 0, 4})), api.Module{Imports: []api.Import{{Mod: s, Name: "b", Type: 4}}})
		checkModule(t, of(section(2, []byte{1, 1, 'c'}, n, []byte{0, 4})), api.Module{Imports: []api.Import{{Mod: "c", Name: s, Type: 4}}})
	}
	for _, x := range []string{"01ff", "01c3", "02c080", "03eda080", "04f4908080", "ffffffff0f61", "ff", ""} {
		checkError(t, of(section(7, []byte{1}, unhex(x), []byte{0, 0})), api.ErrBin)
		checkError(t, of(section(2, []byte{1}, unhex(x), []byte{1, 'b', 0, 0})), api.ErrBin)
		checkError(t, of(section(2, []byte{1, 1, 'b'}, unhex(x), []byte{0, 0})), api.ErrBin)
	}
}

// P6.1: lists of no, one and many entries.
func TestManyEntries(t *testing.T) {
	for _, x := range []struct {
		id    uint8
		one   string
		field string
		want  any
	}{
		{1, "60017e00", "Types", api.FuncType{Params: []uint8{api.I64}}},
		{2, "0161000007", "Imports", api.Import{Mod: "a", Type: 7}},
		{3, "8101", "Funcs", uint32(129)},
		{4, "70010203", "Tables", api.Limits{Min: 2, Max: 3}},
		{5, "0004", "Mems", api.Limits{Min: 4, Max: -1}},
		{6, "7e0142050b", "Globals", api.Global{Type: api.GlobalType{T: api.I64, Mut: true}, Init: []api.Instr{{Op: api.OpI64Const, C: 5}}}},
		{7, "01610306", "Exports", api.Export{Name: "a", Kind: 3, Index: 6}},
		{9, "0541000b020809", "Elems", api.Elem{Table: 5, Offset: []api.Instr{{Op: api.OpI32Const}}, Funcs: []uint32{8, 9}}},
		{10, "0501027f010b", "Codes", api.Code{Locals: []api.Local{{N: 2, T: api.I32}}, Body: []api.Instr{{Op: api.OpNop}}}},
		{11, "0641010b03616263", "Datas", api.Data{Mem: 6, Offset: []api.Instr{{Op: api.OpI32Const, C: 1}}, B: []byte("abc")}},
	} {
		for _, n := range []int{0, 1, 2, 127, 128, 129, 2000} {
			sections := [][]byte{section(x.id, number(uint64(n)), bytes.Repeat(unhex(x.one), n))}
			switch x.id {
			case 3:
				sections = append(sections, section(10, number(uint64(n)), bytes.Repeat([]byte{2, 0, 0x0b}, n)))
			case 10:
				sections = slices.Insert(sections, 0, section(3, number(uint64(n)), make([]byte, n)))
			}
			m, e := bin.Decode(of(sections...))
			l := reflect.ValueOf(m).FieldByName(x.field)
			if e != api.OK || l.Len() != n {
				t.Fatalf("%d %s: %d, %d", n, x.field, l.Len(), e)
			}
			for i := range n {
				if !same(l.Index(i), reflect.ValueOf(x.want)) {
					t.Fatalf("%s %d: %+v", x.field, i, l.Index(i))
				}
			}
		}
	}
}

// P6.1: lists within entries: values' types, elements' functions and data's bytes, of none to many.
func TestManyWithin(t *testing.T) {
	for _, n := range []int{0, 1, 127, 128, 20000} {
		count := number(uint64(n))
		m, e := bin.Decode(of(
			section(1, []byte{1, 0x60}, count, bytes.Repeat([]byte{0x7e}, n), count, bytes.Repeat([]byte{0x7f}, n)),
			section(9, []byte{1, 0, 0x0b}, count, bytes.Repeat([]byte{9}, n)),
		))
		if e != api.OK || !bytes.Equal(m.Types[0].Params, bytes.Repeat([]byte{api.I64}, n)) || !bytes.Equal(m.Types[0].Results, bytes.Repeat([]byte{api.I32}, n)) || !slices.Equal(m.Elems[0].Funcs, slices.Repeat([]uint32{9}, n)) {
			t.Errorf("%d: %d", n, e)
		}
		m, e = bin.Decode(of(section(11, []byte{1, 0, 0x0b}, count, bytes.Repeat([]byte{0xfe}, n))))
		if e != api.OK || !bytes.Equal(m.Datas[0].B, bytes.Repeat([]byte{0xfe}, n)) {
			t.Errorf("%d: %d", n, e)
		}
	}
}

// R1: blocks in one another as deep as a module's bytes let them be.
func TestDeep(t *testing.T) {
	const deep = 20000
	code := slices.Concat([]byte{0}, bytes.Repeat([]byte{0x02, 0x40}, deep), bytes.Repeat([]byte{0x0b}, deep))
	checkError(t, withCodes(sized(code)), api.ErrBin)
	if m, e := bin.Decode(withCodes(sized(append(code, 0x0b)))); e != api.OK || len(m.Codes[0].Body) != 2*deep {
		t.Errorf("%d", e)
	}
}

// spans are where in memory the lists of an answer lie, with the room that they have.
func spans(v reflect.Value, add func(from, to uintptr)) {
	switch v.Kind() {
	case reflect.Slice:
		if v.Cap() > 0 {
			add(v.Pointer(), v.Pointer()+uintptr(v.Cap())*v.Type().Elem().Size())
		}
		for i := range v.Len() {
			spans(v.Index(i), add)
		}
	case reflect.Struct:
		for i := range v.NumField() {
			spans(v.Field(i), add)
		}
	}
}

// P6.1, R3: no list of a module lies in what was handed in, in another one of the module's, or in one of another answer.
func TestOwnMemory(t *testing.T) {
	b := append(binary(rich), make([]byte, 64)...)[:len(binary(rich))]
	first, _ := bin.Decode(b)
	second, _ := bin.Decode(b)
	var all [][2]uintptr
	for _, v := range []any{b, first, second} {
		spans(reflect.ValueOf(v), func(from, to uintptr) { all = append(all, [2]uintptr{from, to}) })
	}
	slices.SortFunc(all, func(x, y [2]uintptr) int { return int(x[0]) - int(y[0]) })
	for i := 1; i < len(all); i++ {
		if all[i][0] < all[i-1][1] {
			t.Errorf("lists share memory: %x", all[i-1:i+1])
		}
	}
	if len(all) < 40 {
		t.Errorf("only %d lists", len(all))
	}
	runtime.KeepAlive(b)
	runtime.KeepAlive(first)
	runtime.KeepAlive(second)
}

// P6.1, R3: what is handed in is not changed, and may be changed behind it; an answer that is written to changes no other one.
func TestKeepsNothing(t *testing.T) {
	b := binary(rich)
	room := append(slices.Clone(b), make([]byte, 64)...)[:len(b)]
	first, _ := bin.Decode(room)
	if !bytes.Equal(room[:cap(room)][:len(b)+64], append(slices.Clone(b), make([]byte, 64)...)) {
		t.Errorf("what is handed in is now % x", room)
	}
	second, _ := bin.Decode(room)
	clear(room)
	if !sameModule(first, richModule()) {
		t.Errorf("now %+v", first)
	}
	first.Datas[0].B[0], first.Types[1].Params[0], first.Imports[0].Name = 0xee, 0xee, "x"
	first.Codes[1].Body[2].L[0], first.Elems[0].Funcs[0], first.Globals[0].Init[0].C = 77, 77, 77
	_ = append(first.Datas[0].B, 0xee, 0xee, 0xee)
	if !sameModule(second, richModule()) {
		t.Errorf("now %+v", second)
	}
	checkModule(t, b, richModule())
}

// checkNoFloats is P6.2 of a module.
func checkNoFloats(t *testing.T, m api.Module) {
	t.Helper()
	var exprs [][]api.Instr
	var all []uint8
	for _, x := range m.Types {
		all = slices.Concat(all, x.Params, x.Results)
	}
	for _, x := range m.Imports {
		if x.Kind == api.ExGlobal {
			all = append(all, x.Glob.T)
		}
	}
	for _, x := range m.Globals {
		all, exprs = append(all, x.Type.T), append(exprs, x.Init)
	}
	for _, x := range m.Elems {
		exprs = append(exprs, x.Offset)
	}
	for _, x := range m.Datas {
		exprs = append(exprs, x.Offset)
	}
	for _, x := range m.Codes {
		exprs = append(exprs, x.Body)
		for _, run := range x.Locals {
			all = append(all, run.T)
		}
	}
	for _, x := range slices.Concat(exprs...) {
		if !opc.Known(x.Op) || opc.Form(x.Op) == opc.FmBlock && x.A != 0x40 && x.A != 0x7f && x.A != 0x7e {
			t.Fatalf("%+v has %v", m, x)
		}
	}
	for _, x := range all {
		if x != api.I32 && x != api.I64 {
			t.Fatalf("%+v has type %x", m, x)
		}
	}
}

// edges are bytes at which something ends or begins.
func edges() []byte {
	return []byte{0, 1, 2, 3, 4, 0x0b, 0x05, 0x40, 0x41, 0x43, 0x60, 0x70, 0x7c, 0x7d, 0x7e, 0x7f, 0x80, 0xff}
}

// mixed are binaries whose sections' contents were changed by a fixed rule: bytes put, taken away and made others.
func mixed(each func(b []byte)) {
	state := uint64(11)
	next := func(n int) int {
		state = state*6364136223846793005 + 1442695040888963407
		return int(state>>33) % n
	}
	ids, contents := richSections()
	for range 60000 {
		changed := slices.Clone(contents)
		for range 1 + next(3) {
			i := next(len(ids))
			b := slices.Clone(changed[i])
			at, x := next(len(b)+1), edges()[next(len(edges()))]
			switch next(4) {
			case 0:
				b = slices.Insert(b, at, x)
			case 1:
				b = slices.Delete(b, min(at, max(len(b)-1, 0)), min(at+1, len(b)))
			case 2:
				b = append(b[:at:at], x)
			default:
				if at < len(b) {
					b[at] = x
				}
			}
			changed[i] = b
		}
		out := head()
		for i, id := range ids {
			if next(4) > 0 || id == 3 || id == 10 {
				out = append(out, section(id, changed[i])...)
			}
		}
		each(out)
	}
}

// P6.1, P6.2: binaries of all kinds, held against the model; what is decoded has nothing of floats.
func TestMixed(t *testing.T) {
	decoded := 0
	mixed(func(b []byte) {
		checkModel(t, b)
		if m, e := bin.Decode(b); e == api.OK {
			decoded++
			checkNoFloats(t, m)
		}
	})
	if decoded < 1000 {
		t.Errorf("of the mixed binaries %d were a module's", decoded)
	}
}

// P6.1: whatever few bytes are a section's contents, each at an edge, held against the model.
func TestShortContents(t *testing.T) {
	code := section(10, []byte{1, 2, 0, 0x0b})
	var walk func(id uint8, b []byte, more int)
	walk = func(id uint8, b []byte, more int) {
		switch id {
		case 3:
			checkModel(t, of(section(3, b), code))
		case 10:
			checkModel(t, of(section(3, []byte{1, 0}), section(10, b)))
		default:
			checkModel(t, of(section(id, b)))
		}
		if more == 0 {
			return
		}
		for _, x := range edges() {
			walk(id, append(b[:len(b):len(b)], x), more-1)
		}
	}
	for id := uint8(1); id <= 11; id++ {
		walk(id, nil, 3)
		walk(id, []byte{1}, 4)
	}
}
