package dec_test

import (
	"slices"
	"strings"
	"testing"

	"quoin/api"
	"quoin/dec"
	"quoin/enc"
)

// rows are chapter 2's and chapter 3's tables together, in the order of Op: names, their form, the code, f of each one, g of each one (if there is one only, that is all's).
var rows = []struct {
	names string
	form  byte
	code  uint32
	f, g  []uint32
}{
	{"lui", 'U', 0x37, []uint32{0}, []uint32{0}},
	{"auipc", 'U', 0x17, []uint32{0}, []uint32{0}},
	{"jal", 'J', 0x6f, []uint32{0}, []uint32{0}},
	{"jalr", 'L', 0x67, []uint32{0}, []uint32{0}},
	{"beq bne blt bge bltu bgeu", 'B', 0x63, []uint32{0, 1, 4, 5, 6, 7}, []uint32{0}},
	{"lb lh lw ld lbu lhu lwu", 'L', 0x03, []uint32{0, 1, 2, 3, 4, 5, 6}, []uint32{0}},
	{"sb sh sw sd", 'S', 0x23, []uint32{0, 1, 2, 3}, []uint32{0}},
	{"addi slti sltiu xori ori andi", 'I', 0x13, []uint32{0, 2, 3, 4, 6, 7}, []uint32{0}},
	{"slli srli srai", '6', 0x13, []uint32{1, 5, 5}, []uint32{0, 0, 32}},
	{"add sub sll slt sltu xor srl sra or and", 'R', 0x33, []uint32{0, 0, 1, 2, 3, 4, 5, 5, 6, 7}, []uint32{0, 32, 0, 0, 0, 0, 0, 32, 0, 0}},
	{"addiw", 'I', 0x1b, []uint32{0}, []uint32{0}},
	{"slliw srliw sraiw", '5', 0x1b, []uint32{1, 5, 5}, []uint32{0, 0, 32}},
	{"addw subw sllw srlw sraw", 'R', 0x3b, []uint32{0, 0, 1, 5, 5}, []uint32{0, 32, 0, 0, 32}},
	{"mul mulh mulhsu mulhu div divu rem remu", 'R', 0x33, []uint32{0, 1, 2, 3, 4, 5, 6, 7}, []uint32{1}},
	{"mulw divw divuw remw remuw", 'R', 0x3b, []uint32{0, 4, 5, 6, 7}, []uint32{1}},
	{"fence", 'F', 0x0f, []uint32{0}, []uint32{0}},
	{"fence.i", 'N', 0x0f, []uint32{1}, []uint32{0}},
	{"ecall ebreak", 'N', 0x73, []uint32{0}, []uint32{0}},
	{"csrrw csrrs csrrc", 'C', 0x73, []uint32{1, 2, 3}, []uint32{0}},
	{"csrrwi csrrsi csrrci", 'Z', 0x73, []uint32{5, 6, 7}, []uint32{0}},
	{"lr.w", 'l', 0x2f, []uint32{2}, []uint32{8}},
	{"sc.w amoswap.w amoadd.w amoxor.w amoand.w amoor.w amomin.w amomax.w amominu.w amomaxu.w", 'A', 0x2f, []uint32{2}, atomics},
	{"lr.d", 'l', 0x2f, []uint32{3}, []uint32{8}},
	{"sc.d amoswap.d amoadd.d amoxor.d amoand.d amoor.d amomin.d amomax.d amominu.d amomaxu.d", 'A', 0x2f, []uint32{3}, atomics},
}

// atomics are g of the rows of form A.
var atomics = []uint32{4 * 3, 4 * 1, 4 * 0, 4 * 4, 4 * 12, 4 * 8, 4 * 16, 4 * 20, 4 * 24, 4 * 28}

// shape is what a form has: its fixed bits; which registers, the ends of Imm and its steps (chapter 2); its number's places (chapter 3).
type shape struct {
	fixed           uint32
	rd, rs1, rs2    bool
	low, high, step int
	places          []int
}

var shapes = map[byte]shape{
	'U': {0x0000007f, true, false, false, 0, 1048575, 1, []int{12, 13, 14, 15, 16, 17, 18, 19, 20, 21, 22, 23, 24, 25, 26, 27, 28, 29, 30, 31}},
	'J': {0x0000007f, true, false, false, -1048576, 1048574, 2, []int{21, 22, 23, 24, 25, 26, 27, 28, 29, 30, 20, 12, 13, 14, 15, 16, 17, 18, 19, 31}},
	'I': {0x0000707f, true, true, false, -2048, 2047, 1, twelve},
	'L': {0x0000707f, true, true, false, -2048, 2047, 1, twelve},
	'C': {0x0000707f, true, true, false, 0, 4095, 1, twelve},
	'Z': {0x0000707f, true, true, false, 0, 4095, 1, twelve},
	'B': {0x0000707f, false, true, true, -4096, 4094, 2, []int{8, 9, 10, 11, 25, 26, 27, 28, 29, 30, 7, 31}},
	'S': {0x0000707f, false, true, true, -2048, 2047, 1, []int{7, 8, 9, 10, 11, 25, 26, 27, 28, 29, 30, 31}},
	'6': {0xfc00707f, true, true, false, 0, 63, 1, []int{20, 21, 22, 23, 24, 25}},
	'5': {0xfe00707f, true, true, false, 0, 31, 1, []int{20, 21, 22, 23, 24}},
	'F': {0xf00fffff, false, false, false, 0, 255, 1, []int{20, 21, 22, 23, 24, 25, 26, 27}},
	'l': {0xf9f0707f, true, true, false, 0, 3, 1, []int{25, 26}},
	'A': {0xf800707f, true, true, true, 0, 3, 1, []int{25, 26}},
	'R': {0xfe00707f, true, true, true, 0, 0, 1, nil},
	'N': {0xffffffff, false, false, false, 0, 0, 1, nil},
}

var twelve = []int{20, 21, 22, 23, 24, 25, 26, 27, 28, 29, 30, 31}

// row is an instruction of the tables, with the shape of its form.
type row struct {
	op   uint8
	name string
	base uint32
	shape
}

// all are the instructions of the tables, one by one.
func all(t *testing.T) []row {
	t.Helper()
	var l []row
	for _, r := range rows {
		for k, n := range strings.Fields(r.names) {
			base := r.code | r.f[k%len(r.f)]<<12 | r.g[k%len(r.g)]<<25
			if n == "ebreak" {
				base |= 1 << 20
			}
			l = append(l, row{uint8(len(l) + 1), n, base, shapes[r.form]})
		}
	}
	if len(l) != 94 {
		t.Fatal("the test's own table has", len(l))
	}
	return l
}

// called is the instruction of that name.
func called(t *testing.T, name string) row {
	t.Helper()
	l := all(t)
	k := slices.IndexFunc(l, func(r row) bool { return r.name == name })
	if k < 0 {
		t.Fatal("no instruction", name)
	}
	return l[k]
}

// read is what w is as r's word, by the tables, bit by bit.
func (r row) read(w uint32) api.Insn {
	i := api.Insn{Op: r.op}
	if r.rd {
		i.Rd = int(w / 128 % 32)
	}
	if r.rs1 {
		i.Rs1 = int(w / 32768 % 32)
	}
	if r.rs2 {
		i.Rs2 = int(w / 1048576 % 32)
	}
	for k, p := range r.places {
		if w>>p%2 == 1 {
			i.Imm += r.step << k
		}
	}
	if i.Imm > r.high {
		i.Imm -= r.step << len(r.places)
	}
	return i
}

// expected is what Insn tells of w, by the tables.
func expected(t *testing.T, l []row, w uint32) (api.Insn, api.Errno) {
	t.Helper()
	var found []api.Insn
	for _, r := range l {
		if w&r.fixed == r.base {
			found = append(found, r.read(w))
		}
	}
	switch len(found) {
	case 0:
		return api.Insn{}, api.ErrWord
	case 1:
		return found[0], api.OK
	}
	t.Fatalf("by the test's own tables %08x is of %v", w, found)
	return api.Insn{}, api.OK
}

// registersOf are those that a field may be tried with: 0 alone, if the form does not have it.
func registersOf(has bool) []int {
	if !has {
		return []int{0}
	}
	return []int{0, 1, 2, 4, 8, 16, 21, 31}
}

// numbersOf are those that Imm may be tried with: both ends and what is beside them, what is about 0, each bit alone and all but it.
func (r row) numbersOf() []int {
	l := []int{r.low, r.low + r.step, r.high - r.step, r.high, -r.step, 0, r.step}
	for k := range 21 {
		l = append(l, 1<<k, -1<<k, r.high-1<<k, r.low+1<<k)
	}
	l = slices.DeleteFunc(l, func(v int) bool { return v < r.low || v > r.high || v%r.step != 0 })
	slices.Sort(l)
	return slices.Compact(l)
}

// fillings are words with which a field's bits may be filled: none, all, every other one, and some without a rule.
var fillings = []uint32{0, 0xffffffff, 0x55555555, 0xaaaaaaaa, 0x12345678, 0xedcba987, 0x80000000, 0x7fffffff}

// mustBe holds Insn's answer against what it is to be.
func mustBe(t *testing.T, w uint32, want api.Insn) {
	t.Helper()
	if i, e := dec.Insn(w); i != want || e != api.OK {
		t.Errorf("Insn(%08x) = %+v, %d, not %+v", w, i, e, want)
	}
}

// mustRefuse holds that Insn tells ErrWord, and nothing else.
func mustRefuse(t *testing.T, w uint32) {
	t.Helper()
	if i, e := dec.Insn(w); i != (api.Insn{}) || e != api.ErrWord {
		t.Errorf("Insn(%08x) = %+v, %d, not ErrWord", w, i, e)
	}
}

// mustAgree holds that Insn tells of w what the tables do; and that w is the word of what was told.
func mustAgree(t *testing.T, l []row, w uint32) {
	t.Helper()
	want, fault := expected(t, l, w)
	i, e := dec.Insn(w)
	if i != want || e != fault {
		t.Fatalf("Insn(%08x) = %+v, %d, not %+v, %d", w, i, e, want, fault)
	}
	if e != api.OK {
		return
	}
	if back, e := enc.Word(i); back != w || e != api.OK {
		t.Fatalf("Insn(%08x) = %+v, whose word is %08x, %d", w, i, back, e)
	}
}

// P4.1: every byte: a form's letter has its fixed bits, all others have none.
func TestFixedOfEveryByte(t *testing.T) {
	if len(shapes) != 15 {
		t.Fatal("the test's own table has", len(shapes))
	}
	for k := range 256 {
		c := byte(k)
		w, e := dec.Fixed(c)
		s, is := shapes[c]
		if is && (w != s.fixed || e != api.OK) {
			t.Errorf("Fixed(%q) = %08x, %d, not %08x", c, w, e, s.fixed)
		}
		if !is && (w != 0 || e != api.ErrArg) {
			t.Errorf("Fixed(%q) = %08x, %d, not ErrArg", c, w, e)
		}
	}
}

// P4.1, P4.2: of every Op the word of each instruction that is tried, with its registers and the ends of Imm, is read back.
func TestEveryInstructionIsReadBack(t *testing.T) {
	for _, r := range all(t) {
		for _, rd := range registersOf(r.rd) {
			for _, rs1 := range registersOf(r.rs1) {
				for _, rs2 := range registersOf(r.rs2) {
					for _, v := range r.numbersOf() {
						i := api.Insn{Op: r.op, Rd: rd, Rs1: rs1, Rs2: rs2, Imm: v}
						w, e := enc.Word(i)
						if e != api.OK {
							t.Fatalf("Word(%+v): %d", i, e)
						}
						mustBe(t, w, i)
					}
				}
			}
		}
	}
}

// P4.1: of every Op the base with its fields filled is that instruction, with just these fields.
func TestEveryBaseWithItsFieldsFilled(t *testing.T) {
	for _, r := range all(t) {
		for _, f := range fillings {
			w := r.base | f&^r.fixed
			mustBe(t, w, r.read(w))
		}
	}
}

// P4.1: one instruction of each form with its registers and both ends of Imm, the words being written out.
func TestWordsOfForms(t *testing.T) {
	for _, c := range []struct {
		w                 uint32
		name              string
		rd, rs1, rs2, imm int
	}{
		{0x00000fb7, "lui", 31, 0, 0, 0},
		{0xfffff097, "auipc", 1, 0, 0, 0xfffff},
		{0x800000ef, "jal", 1, 0, 0, -1048576},
		{0x7ffff0ef, "jal", 1, 0, 0, 1048574},
		{0xfffff06f, "jal", 0, 0, 0, -2},
		{0x0000106f, "jal", 0, 0, 0, 4096},
		{0x00008067, "jalr", 0, 1, 0, 0},
		{0x800280e7, "jalr", 1, 5, 0, -2048},
		{0x800f8063, "beq", 0, 31, 0, -4096},
		{0x7ff07fe3, "bgeu", 0, 0, 31, 4094},
		{0x009410e3, "bne", 0, 8, 9, 2048},
		{0xfff58503, "lb", 10, 11, 0, -1},
		{0x7fffef83, "lwu", 31, 31, 0, 2047},
		{0x80208023, "sb", 0, 1, 2, -2048},
		{0x7fffbfa3, "sd", 0, 31, 31, 2047},
		{0x80010093, "addi", 1, 2, 0, -2048},
		{0x7fffff93, "andi", 31, 31, 0, 2047},
		{0xfff3029b, "addiw", 5, 6, 0, -1},
		{0x00011093, "slli", 1, 2, 0, 0},
		{0x43ffdf93, "srai", 31, 31, 0, 63},
		{0x01f1109b, "slliw", 1, 2, 0, 31},
		{0x41005f9b, "sraiw", 31, 0, 0, 16},
		{0x41ff8fb3, "sub", 31, 31, 31, 0},
		{0x023170bb, "remuw", 1, 2, 3, 0},
		{0x0000000f, "fence", 0, 0, 0, 0},
		{0x0ff0000f, "fence", 0, 0, 0, 255},
		{0x0000100f, "fence.i", 0, 0, 0, 0},
		{0x00000073, "ecall", 0, 0, 0, 0},
		{0x00100073, "ebreak", 0, 0, 0, 0},
		{0xfff110f3, "csrrw", 1, 2, 0, 4095},
		{0x800fdff3, "csrrwi", 31, 31, 0, 2048},
		{0x1605252f, "lr.w", 10, 10, 0, 3},
		{0x1a20b0af, "sc.d", 1, 1, 2, 1},
		{0xe6c5b52f, "amomaxu.d", 10, 11, 12, 3},
	} {
		mustBe(t, c.w, api.Insn{Op: called(t, c.name).op, Rd: c.rd, Rs1: c.rs1, Rs2: c.rs2, Imm: c.imm})
	}
}

// P4.1: words whose fixed bits are no instruction's.
func TestWordsOfNone(t *testing.T) {
	for _, w := range []uint32{
		0x00000000, 0xffffffff,
		// codes that are none's, short words' ends among them
		0x0000007f, 0x00000001, 0x00000002, 0x00000010, 0x00000036, 0x00000007, 0x00000027, 0x0000005b,
		// f that is none's
		0x00001067, 0x00002063, 0x00003063, 0x00007003, 0x00004023, 0x00007023, 0x0000201b, 0x0000203b, 0x0200103b, 0x0000200f, 0x00004073, 0x0000002f, 0x0000402f, 0x0000702f,
		// g that is none's
		0x06009093, 0x40001013, 0x80005013, 0x44005013, 0x0200101b, 0x4200501b, 0x40001033, 0x04000033, 0x42000033, 0x80000033, 0x4000103b, 0x0400003b, 0x2800202f, 0xf800302f,
		// registers and numbers of what has none
		0x0000008f, 0x0000800f, 0x1000000f, 0x8330000f, 0x0000108f, 0x0010100f, 0x000000f3, 0x00008073, 0x00200073, 0x00300073, 0x001000f3, 0x80000073, 0x1010202f, 0x11f0302f, 0x1610302f,
	} {
		mustRefuse(t, w)
	}
}

// P4.1: of each instruction's word each fixed bit turned alone makes it another one's, or none's; each bit of a field leaves it that instruction's.
func TestEachBitTurned(t *testing.T) {
	l := all(t)
	for _, r := range l {
		for _, f := range fillings {
			w := r.base | f&^r.fixed
			for k := range 32 {
				turned := w ^ 1<<k
				mustAgree(t, l, turned)
				i, _ := dec.Insn(turned)
				if isFixed := r.fixed>>k&1 == 1; (i.Op == r.op) == isFixed {
					t.Errorf("%s: %08x with bit %d turned is %+v", r.name, w, k, i)
				}
			}
		}
	}
}

// P4.1, P4.2: each code with each f and each g, and what stands between them filled: what is read is what the tables tell, and is written as just that word.
func TestEachCodeWithAllElse(t *testing.T) {
	l := all(t)
	for c := range uint32(0x80) {
		for f := range uint32(8) {
			for g := range uint32(0x80) {
				w := c | f<<12 | g<<25
				for _, between := range []uint32{0, 0x01ff8f80, 0x00100000, 0x00000080, 0x00008000, 0x00f58d00} {
					mustAgree(t, l, w|between)
				}
			}
		}
	}
}

// P4.1, P4.2: words without a rule, with each code that instructions have.
func TestWordsWithoutARule(t *testing.T) {
	l := all(t)
	w := uint32(1)
	for range 20000 {
		w = w*1664525 + 1013904223
		mustAgree(t, l, w)
		for _, code := range []uint32{0x37, 0x17, 0x6f, 0x67, 0x63, 0x03, 0x23, 0x13, 0x33, 0x1b, 0x3b, 0x0f, 0x73, 0x2f} {
			mustAgree(t, l, w&^0x7f|code)
		}
	}
}

// Every row of the chapter's 'Examples'.
func TestExamples(t *testing.T) {
	mustBe(t, 0xfff10093, api.Insn{Op: 22, Rd: 1, Rs1: 2, Imm: -1})
	mustBe(t, 0x0020b423, api.Insn{Op: 21, Rs1: 1, Rs2: 2, Imm: 8})
	mustRefuse(t, 0)
	mustRefuse(t, 0xffffffff)
	mustBe(t, 0x02009093, api.Insn{Op: 28, Rd: 1, Rs1: 1, Imm: 32})
	mustRefuse(t, 0x06009093)
	if w, e := dec.Fixed('R'); w != 0xfe00707f || e != api.OK {
		t.Errorf("Fixed of R: %08x, %d", w, e)
	}
	if w, e := dec.Fixed('N'); w != 0xffffffff || e != api.OK {
		t.Errorf("Fixed of N: %08x, %d", w, e)
	}
}
