package enc_test

import (
	"math"
	"slices"
	"strings"
	"testing"

	"quoin/api"
	"quoin/bits"
	"quoin/enc"
	"quoin/insn"
)

// rows are the chapter's first table: names, the code, f of each one, g of each one (if there is one only, that is all's).
var rows = []struct {
	names string
	code  uint32
	f, g  []uint32
}{
	{"lui", 0x37, []uint32{0}, []uint32{0}},
	{"auipc", 0x17, []uint32{0}, []uint32{0}},
	{"jal", 0x6f, []uint32{0}, []uint32{0}},
	{"jalr", 0x67, []uint32{0}, []uint32{0}},
	{"beq bne blt bge bltu bgeu", 0x63, []uint32{0, 1, 4, 5, 6, 7}, []uint32{0}},
	{"lb lh lw ld lbu lhu lwu", 0x03, []uint32{0, 1, 2, 3, 4, 5, 6}, []uint32{0}},
	{"sb sh sw sd", 0x23, []uint32{0, 1, 2, 3}, []uint32{0}},
	{"addi slti sltiu xori ori andi", 0x13, []uint32{0, 2, 3, 4, 6, 7}, []uint32{0}},
	{"slli srli srai", 0x13, []uint32{1, 5, 5}, []uint32{0, 0, 32}},
	{"add sub sll slt sltu xor srl sra or and", 0x33, []uint32{0, 0, 1, 2, 3, 4, 5, 5, 6, 7}, []uint32{0, 32, 0, 0, 0, 0, 0, 32, 0, 0}},
	{"addiw slliw srliw sraiw", 0x1b, []uint32{0, 1, 5, 5}, []uint32{0, 0, 0, 32}},
	{"addw subw sllw srlw sraw", 0x3b, []uint32{0, 0, 1, 5, 5}, []uint32{0, 32, 0, 0, 32}},
	{"mul mulh mulhsu mulhu div divu rem remu", 0x33, []uint32{0, 1, 2, 3, 4, 5, 6, 7}, []uint32{1}},
	{"mulw divw divuw remw remuw", 0x3b, []uint32{0, 4, 5, 6, 7}, []uint32{1}},
	{"fence fence.i", 0x0f, []uint32{0, 1}, []uint32{0}},
	{"ecall ebreak", 0x73, []uint32{0}, []uint32{0}},
	{"csrrw csrrs csrrc csrrwi csrrsi csrrci", 0x73, []uint32{1, 2, 3, 5, 6, 7}, []uint32{0}},
	{"lr.w sc.w amoswap.w amoadd.w amoxor.w amoand.w amoor.w amomin.w amomax.w amominu.w amomaxu.w", 0x2f, []uint32{2}, atomics},
	{"lr.d sc.d amoswap.d amoadd.d amoxor.d amoand.d amoor.d amomin.d amomax.d amominu.d amomaxu.d", 0x2f, []uint32{3}, atomics},
}

// atomics are g of the last two rows.
var atomics = []uint32{4 * 2, 4 * 3, 4 * 1, 4 * 0, 4 * 4, 4 * 12, 4 * 8, 4 * 16, 4 * 20, 4 * 24, 4 * 28}

// shape is what a form has: which registers, the ends of Imm and its steps (chapter 2), and its number's places (the chapter's second table).
type shape struct {
	rd, rs1, rs2    bool
	low, high, step int
	places          []int
}

var shapes = map[byte]shape{
	'U': {true, false, false, 0, 1048575, 1, []int{12, 13, 14, 15, 16, 17, 18, 19, 20, 21, 22, 23, 24, 25, 26, 27, 28, 29, 30, 31}},
	'J': {true, false, false, -1048576, 1048574, 2, []int{21, 22, 23, 24, 25, 26, 27, 28, 29, 30, 20, 12, 13, 14, 15, 16, 17, 18, 19, 31}},
	'I': {true, true, false, -2048, 2047, 1, twelve},
	'L': {true, true, false, -2048, 2047, 1, twelve},
	'C': {true, true, false, 0, 4095, 1, twelve},
	'Z': {true, true, false, 0, 4095, 1, twelve},
	'B': {false, true, true, -4096, 4094, 2, []int{8, 9, 10, 11, 25, 26, 27, 28, 29, 30, 7, 31}},
	'S': {false, true, true, -2048, 2047, 1, []int{7, 8, 9, 10, 11, 25, 26, 27, 28, 29, 30, 31}},
	'6': {true, true, false, 0, 63, 1, []int{20, 21, 22, 23, 24, 25}},
	'5': {true, true, false, 0, 31, 1, []int{20, 21, 22, 23, 24}},
	'F': {false, false, false, 0, 255, 1, []int{20, 21, 22, 23, 24, 25, 26, 27}},
	'l': {true, true, false, 0, 3, 1, []int{25, 26}},
	'A': {true, true, true, 0, 3, 1, []int{25, 26}},
	'R': {true, true, true, 0, 0, 1, nil},
	'N': {false, false, false, 0, 0, 1, nil},
}

var twelve = []int{20, 21, 22, 23, 24, 25, 26, 27, 28, 29, 30, 31}

// row is an instruction of the first table, with the shape of its form.
type row struct {
	op   uint8
	name string
	base uint32
	form byte
	shape
}

// all are the instructions of the first table, one by one.
func all(t *testing.T) []row {
	t.Helper()
	var l []row
	for _, r := range rows {
		for k, n := range strings.Fields(r.names) {
			base := r.code | r.f[k%len(r.f)]<<12 | r.g[k%len(r.g)]<<25
			if n == "ebreak" {
				base |= 1 << 20
			}
			op, e := insn.Of(n)
			if e != api.OK {
				t.Fatal("no instruction", n)
			}
			form, _ := insn.Form(op)
			l = append(l, row{op, n, base, form, shapes[form]})
		}
	}
	if len(l) != 94 {
		t.Fatal("the test's own table has", len(l))
	}
	return l
}

// mask is the bits of r's fields.
func (r row) mask() uint32 {
	var m uint32
	if r.rd {
		m |= 0x1f << 7
	}
	if r.rs1 {
		m |= 0x1f << 15
	}
	if r.rs2 {
		m |= 0x1f << 20
	}
	for _, p := range r.places {
		m |= 1 << p
	}
	return m
}

// expected is i's word by the chapter's tables, bit by bit.
func (r row) expected(i api.Insn) uint32 {
	w := r.base | uint32(i.Rd)*128 | uint32(i.Rs1)*32768 | uint32(i.Rs2)*1048576
	v := i.Imm / r.step
	if v < 0 {
		v += 1 << len(r.places)
	}
	for k, p := range r.places {
		if v>>k%2 == 1 {
			w += 1 << p
		}
	}
	return w
}

// registersOf are those that a field may be tried with: 0 alone, if the form does not have it.
func registersOf(has bool) []int {
	if !has {
		return []int{0}
	}
	return []int{0, 1, 2, 4, 8, 10, 16, 21, 30, 31}
}

// numbersOf are those that Imm may be tried with: both ends and what is beside them, what is about 0, each bit alone and all but it.
func (r row) numbersOf() []int {
	l := []int{r.low, r.low + r.step, r.high - r.step, r.high, -r.step, 0, r.step}
	for k := range 21 {
		l = append(l, 1<<k, -1<<k, 1<<k-r.step, -1<<k-r.step, r.high-1<<k, r.low+1<<k)
	}
	l = slices.DeleteFunc(l, func(v int) bool { return v < r.low || v > r.high || v%r.step != 0 })
	slices.Sort(l)
	return slices.Compact(l)
}

// every are instructions of that kind: all that is tried with all that is tried.
func (r row) every() []api.Insn {
	var l []api.Insn
	for _, rd := range registersOf(r.rd) {
		for _, rs1 := range registersOf(r.rs1) {
			for _, rs2 := range registersOf(r.rs2) {
				for _, v := range r.numbersOf() {
					l = append(l, api.Insn{Op: r.op, Rd: rd, Rs1: rs1, Rs2: rs2, Imm: v})
				}
			}
		}
	}
	return l
}

// mustBe holds Word's answer against what it is to be.
func mustBe(t *testing.T, i api.Insn, want uint32) {
	t.Helper()
	if w, e := enc.Word(i); w != want || e != api.OK {
		t.Errorf("Word(%+v) = %08x, %d, not %08x", i, w, e, want)
	}
}

// mustRefuse holds that Word tells ErrInsn, and nothing else.
func mustRefuse(t *testing.T, i api.Insn) {
	t.Helper()
	if w, e := enc.Word(i); w != 0 || e != api.ErrInsn {
		t.Errorf("Word(%+v) = %08x, %d, not ErrInsn", i, w, e)
	}
}

// P3.1: every instruction's base.
func TestEveryBase(t *testing.T) {
	for _, r := range all(t) {
		if b, e := enc.Base(r.op); b != r.base || e != api.OK {
			t.Errorf("Base of %s = %08x, %d, not %08x", r.name, b, e, r.base)
		}
	}
}

// P3.1: numbers that are no instruction's: 0, and all from 95 to 255.
func TestBasesOfNone(t *testing.T) {
	for op := range 256 {
		if op >= 1 && op <= 94 {
			continue
		}
		if b, e := enc.Base(uint8(op)); b != 0 || e != api.ErrArg {
			t.Errorf("Base(%d) = %08x, %d", op, b, e)
		}
	}
}

// P3.1: every byte: a form's letter has its places, all others have none.
func TestPlacesOfEveryByte(t *testing.T) {
	if len(shapes) != 15 {
		t.Fatal("the test's own table has", len(shapes))
	}
	for k := range 256 {
		c := byte(k)
		l, e := enc.Places(c)
		s, is := shapes[c]
		if is && (e != api.OK || !slices.Equal(l, s.places)) {
			t.Errorf("Places(%q) = %v, %d, not %v", c, l, e, s.places)
		}
		if !is && (e != api.ErrArg || len(l) != 0) {
			t.Errorf("Places(%q) = %v, %d", c, l, e)
		}
	}
}

// P3.1: places are in new memory: what is written there, or behind them in spare room, no other call tells.
func TestPlacesAreNew(t *testing.T) {
	for c, s := range shapes {
		first, _ := enc.Places(c)
		second, _ := enc.Places(c)
		room := first[:cap(first)]
		for k := range room {
			room[k] = -1
		}
		if !slices.Equal(second, s.places) {
			t.Errorf("Places(%q) told earlier became %v", c, second)
		}
		if third, e := enc.Places(c); !slices.Equal(third, s.places) || e != api.OK {
			t.Errorf("Places(%q) became %v, %d", c, third, e)
		}
	}
	for _, r := range all(t) {
		i := api.Insn{Op: r.op, Imm: r.low}
		mustBe(t, i, r.expected(i))
	}
}

// P3.1: of every instruction the base alone, each field alone, and all of them together.
func TestWordOfEveryInstruction(t *testing.T) {
	for _, r := range all(t) {
		for _, i := range r.every() {
			mustBe(t, i, r.expected(i))
		}
	}
}

// P3.1: one instruction of each form with its registers and both ends of Imm, the words being written out.
func TestWordsOfForms(t *testing.T) {
	for _, c := range []struct {
		name              string
		rd, rs1, rs2, imm int
		want              uint32
	}{
		{"lui", 31, 0, 0, 0, 0x00000fb7},
		{"auipc", 1, 0, 0, 0xfffff, 0xfffff097},
		{"jal", 1, 0, 0, -1048576, 0x800000ef},
		{"jal", 1, 0, 0, 1048574, 0x7ffff0ef},
		{"jal", 0, 0, 0, -2, 0xfffff06f},
		{"jal", 0, 0, 0, 4096, 0x0000106f},
		{"jalr", 0, 1, 0, 0, 0x00008067},
		{"jalr", 1, 5, 0, -2048, 0x800280e7},
		{"beq", 0, 31, 0, -4096, 0x800f8063},
		{"bgeu", 0, 0, 31, 4094, 0x7ff07fe3},
		{"bne", 0, 8, 9, 2048, 0x009410e3},
		{"lb", 10, 11, 0, -1, 0xfff58503},
		{"lwu", 31, 31, 0, 2047, 0x7fffef83},
		{"sb", 0, 1, 2, -2048, 0x80208023},
		{"sd", 0, 31, 31, 2047, 0x7fffbfa3},
		{"addi", 1, 2, 0, -2048, 0x80010093},
		{"andi", 31, 31, 0, 2047, 0x7fffff93},
		{"addiw", 5, 6, 0, -1, 0xfff3029b},
		{"slli", 1, 2, 0, 0, 0x00011093},
		{"srai", 31, 31, 0, 63, 0x43ffdf93},
		{"slliw", 1, 2, 0, 31, 0x01f1109b},
		{"sraiw", 31, 0, 0, 16, 0x41005f9b},
		{"sub", 31, 31, 31, 0, 0x41ff8fb3},
		{"remuw", 1, 2, 3, 0, 0x023170bb},
		{"fence", 0, 0, 0, 0, 0x0000000f},
		{"fence", 0, 0, 0, 255, 0x0ff0000f},
		{"fence.i", 0, 0, 0, 0, 0x0000100f},
		{"ecall", 0, 0, 0, 0, 0x00000073},
		{"csrrw", 1, 2, 0, 4095, 0xfff110f3},
		{"csrrci", 31, 31, 0, 0, 0x000ffff3},
		{"csrrsi", 0, 1, 0, 2048, 0x8000e073},
		{"lr.w", 10, 11, 0, 2, 0x1405a52f},
		{"lr.d", 31, 31, 0, 3, 0x160fbfaf},
		{"sc.w", 10, 11, 12, 1, 0x1ac5a52f},
		{"amoadd.d", 31, 31, 31, 0, 0x01ffbfaf},
		{"amomaxu.d", 10, 11, 12, 3, 0xe6c5b52f},
	} {
		op, _ := insn.Of(c.name)
		mustBe(t, api.Insn{Op: op, Rd: c.rd, Rs1: c.rs1, Rs2: c.rs2, Imm: c.imm}, c.want)
	}
}

// P3.1: Word tells Check's error: of no instruction; of a number beyond its ends, or odd; of a register that may not be, or that the form does not have.
func TestWordOfWhatMayNotBe(t *testing.T) {
	for op := range 256 {
		if op >= 1 && op <= 94 {
			continue
		}
		mustRefuse(t, api.Insn{Op: uint8(op)})
		mustRefuse(t, api.Insn{Op: uint8(op), Rd: 1, Rs1: 2, Rs2: 3, Imm: 2})
	}
	for _, r := range all(t) {
		for _, v := range []int{r.low - 1, r.low - 2, r.high + 1, r.high + 2, 1 << 32, -1 << 32, math.MinInt, math.MaxInt} {
			mustRefuse(t, api.Insn{Op: r.op, Imm: v})
		}
		if r.step == 2 {
			mustRefuse(t, api.Insn{Op: r.op, Imm: 1})
			mustRefuse(t, api.Insn{Op: r.op, Imm: -3})
		}
		for _, v := range []int{-1, 32, 33, 1 << 32, math.MinInt, math.MaxInt} {
			mustRefuse(t, api.Insn{Op: r.op, Rd: v})
			mustRefuse(t, api.Insn{Op: r.op, Rs1: v})
			mustRefuse(t, api.Insn{Op: r.op, Rs2: v})
		}
		if !r.rd {
			mustRefuse(t, api.Insn{Op: r.op, Rd: 1})
		}
		if !r.rs1 {
			mustRefuse(t, api.Insn{Op: r.op, Rs1: 1})
		}
		if !r.rs2 {
			mustRefuse(t, api.Insn{Op: r.op, Rs2: 1})
		}
	}
}

// P3.2: each field is had back of the word, and all else is the base's.
func TestFieldsAreHadBack(t *testing.T) {
	for _, r := range all(t) {
		base, _ := enc.Base(r.op)
		places, _ := enc.Places(r.form)
		if base&r.mask() != 0 {
			t.Errorf("%s: its base %08x has bits of its fields", r.name, base)
		}
		for _, i := range r.every() {
			w, _ := enc.Word(i)
			back := api.Insn{Op: r.op, Imm: numberOf(t, w, places, r)}
			for _, f := range []struct {
				into *int
				has  bool
				at   int
			}{{&back.Rd, r.rd, 7}, {&back.Rs1, r.rs1, 15}, {&back.Rs2, r.rs2, 20}} {
				if f.has {
					v, _ := bits.Take(w, f.at, 5)
					*f.into = int(v)
				}
			}
			if back != i || w&^r.mask() != base {
				t.Fatalf("%+v is %08x, of which %+v is had back", i, w, back)
			}
		}
	}
}

// numberOf is the number that stands in w.
func numberOf(t *testing.T, w uint32, places []int, r row) int {
	t.Helper()
	if len(places) == 0 {
		return 0
	}
	v, e := bits.Gather(w, places)
	if e != api.OK {
		t.Fatal("Gather:", e)
	}
	if r.low == 0 {
		return int(v)
	}
	s, _ := bits.Sign(v, len(places))
	return s * r.step
}

// P3.2: of any two instructions that are not of one Op there is a bit that is no field's, and that is not the same: so no fields make their words the same.
func TestUnlikeOpsHaveUnlikeWords(t *testing.T) {
	l := all(t)
	for k, a := range l {
		for _, b := range l[:k] {
			v, _ := enc.Base(a.op)
			w, _ := enc.Base(b.op)
			if (v^w)&^(a.mask()|b.mask()) == 0 {
				t.Errorf("%s and %s may have one word", a.name, b.name)
			}
		}
	}
}

// P3.2: no word is told twice, of all that is tried.
func TestNoWordTwice(t *testing.T) {
	seen := map[uint32]api.Insn{}
	for _, r := range all(t) {
		for _, i := range r.every() {
			w, e := enc.Word(i)
			if e != api.OK {
				t.Fatalf("Word(%+v): %d", i, e)
			}
			if other, twice := seen[w]; twice {
				t.Fatalf("%+v and %+v are both %08x", other, i, w)
			}
			seen[w] = i
		}
	}
}

// Every row of the chapter's 'Examples'.
func TestExamples(t *testing.T) {
	mustBe(t, api.Insn{Op: 22, Rd: 1, Rs1: 2, Imm: -1}, 0xfff10093)
	mustBe(t, api.Insn{Op: 1, Rd: 5, Imm: 0x12345}, 0x123452b7)
	mustBe(t, api.Insn{Op: 5, Rs1: 1, Rs2: 2, Imm: -4}, 0xfe208ee3)
	mustBe(t, api.Insn{Op: 3, Rd: 1, Imm: 2048}, 0x001000ef)
	mustBe(t, api.Insn{Op: 21, Rs1: 1, Rs2: 2, Imm: 8}, 0x0020b423)
	mustBe(t, api.Insn{Op: 66}, 0x00100073)
	if b, e := enc.Base(0); b != 0 || e != api.ErrArg {
		t.Error("Base 0:", b, e)
	}
	if l, e := enc.Places('x'); len(l) != 0 || e != api.ErrArg {
		t.Error("Places of x:", l, e)
	}
	mustRefuse(t, api.Insn{})
}
