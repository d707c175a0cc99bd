package insn_test

import (
	"math"
	"strings"
	"testing"

	"quoin/api"
	"quoin/insn"
)

// rows are the chapter's first table: names in order, and the letter that all of them have.
var rows = []struct {
	names string
	form  byte
}{
	{"lui auipc", 'U'},
	{"jal", 'J'},
	{"jalr", 'L'},
	{"beq bne blt bge bltu bgeu", 'B'},
	{"lb lh lw ld lbu lhu lwu", 'L'},
	{"sb sh sw sd", 'S'},
	{"addi slti sltiu xori ori andi", 'I'},
	{"slli srli srai", '6'},
	{"add sub sll slt sltu xor srl sra or and", 'R'},
	{"addiw", 'I'},
	{"slliw srliw sraiw", '5'},
	{"addw subw sllw srlw sraw", 'R'},
	{"mul mulh mulhsu mulhu div divu rem remu", 'R'},
	{"mulw divw divuw remw remuw", 'R'},
	{"fence", 'F'},
	{"fence.i ecall ebreak", 'N'},
	{"csrrw csrrs csrrc", 'C'},
	{"csrrwi csrrsi csrrci", 'Z'},
	{"lr.w", 'l'},
	{"sc.w amoswap.w amoadd.w amoxor.w amoand.w amoor.w amomin.w amomax.w amominu.w amomaxu.w", 'A'},
	{"lr.d", 'l'},
	{"sc.d amoswap.d amoadd.d amoxor.d amoand.d amoor.d amomin.d amomax.d amominu.d amomaxu.d", 'A'},
}

// shape is what a form has, by the chapter's second table: which registers, and the ends of Imm and its steps.
type shape struct {
	rd, rs1, rs2    bool
	low, high, step int
}

var shapes = map[byte]shape{
	'U': {true, false, false, 0, 1048575, 1},
	'J': {true, false, false, -1048576, 1048574, 2},
	'I': {true, true, false, -2048, 2047, 1},
	'L': {true, true, false, -2048, 2047, 1},
	'B': {false, true, true, -4096, 4094, 2},
	'S': {false, true, true, -2048, 2047, 1},
	'6': {true, true, false, 0, 63, 1},
	'5': {true, true, false, 0, 31, 1},
	'R': {true, true, true, 0, 0, 1},
	'F': {false, false, false, 0, 255, 1},
	'N': {false, false, false, 0, 0, 1},
	'C': {true, true, false, 0, 4095, 1},
	'Z': {true, true, false, 0, 4095, 1},
	'l': {true, true, false, 0, 3, 1},
	'A': {true, true, true, 0, 3, 1},
}

// row is an instruction of the first table.
type row struct {
	op   uint8
	name string
	form byte
}

// all are the instructions, told one by one, from 1 on.
func all() []row {
	var l []row
	for _, r := range rows {
		for _, n := range strings.Fields(r.names) {
			l = append(l, row{uint8(len(l) + 1), n, r.form})
		}
	}
	return l
}

// plain is an instruction of that kind all of whose fields may be: those that it has are far from 0, so that a wrong one shows.
func plain(r row) api.Insn {
	s := shapes[r.form]
	i := api.Insn{Op: r.op, Imm: s.high}
	if s.rd {
		i.Rd = 1
	}
	if s.rs1 {
		i.Rs1 = 2
	}
	if s.rs2 {
		i.Rs2 = 3
	}
	return i
}

// mustBe holds Check's answer against what it is to be.
func mustBe(t *testing.T, i api.Insn, want api.Errno) {
	t.Helper()
	if e := insn.Check(i); e != want {
		t.Errorf("Check(%+v) = %d, not %d", i, e, want)
	}
}

// P2.1: there are 94 of them.
func TestMany(t *testing.T) {
	if insn.Many() != 94 {
		t.Error("Many is", insn.Many())
	}
	if len(all()) != 94 {
		t.Fatal("the test's own table has", len(all()))
	}
}

// P2.1: every instruction's name and form.
func TestEveryNameAndForm(t *testing.T) {
	for _, r := range all() {
		if n, e := insn.Name(r.op); n != r.name || e != api.OK {
			t.Errorf("Name(%d) = %q, %d, not %q", r.op, n, e, r.name)
		}
		if f, e := insn.Form(r.op); f != r.form || e != api.OK {
			t.Errorf("Form(%d) = %q, %d, not %q", r.op, f, e, r.form)
		}
		if op, e := insn.Of(r.name); op != r.op || e != api.OK {
			t.Errorf("Of(%q) = %d, %d, not %d", r.name, op, e, r.op)
		}
	}
}

// P2.1: the edges that the table of numbers has, each by its number.
func TestEdgesOfTheTable(t *testing.T) {
	for op, want := range map[uint8]string{
		1: "lui", 2: "auipc", 3: "jal", 4: "jalr", 5: "beq", 10: "bgeu", 11: "lb", 17: "lwu", 18: "sb", 21: "sd",
		22: "addi", 27: "andi", 28: "slli", 30: "srai", 31: "add", 40: "and", 41: "addiw", 42: "slliw", 44: "sraiw",
		45: "addw", 49: "sraw", 50: "mul", 57: "remu", 58: "mulw", 62: "remuw", 63: "fence", 64: "fence.i", 66: "ebreak",
		67: "csrrw", 69: "csrrc", 70: "csrrwi", 72: "csrrci", 73: "lr.w", 74: "sc.w", 83: "amomaxu.w", 84: "lr.d",
		85: "sc.d", 94: "amomaxu.d",
	} {
		if n, e := insn.Name(op); n != want || e != api.OK {
			t.Errorf("Name(%d) = %q, %d, not %q", op, n, e, want)
		}
	}
}

// P2.1: numbers that are no instruction's: 0, and all from 95 to 255.
func TestNumbersOfNone(t *testing.T) {
	for op := range 256 {
		if op >= 1 && op <= 94 {
			continue
		}
		if n, e := insn.Name(uint8(op)); n != "" || e != api.ErrArg {
			t.Errorf("Name(%d) = %q, %d", op, n, e)
		}
		if f, e := insn.Form(uint8(op)); f != 0 || e != api.ErrArg {
			t.Errorf("Form(%d) = %d, %d", op, f, e)
		}
		mustBe(t, api.Insn{Op: uint8(op)}, api.ErrInsn)
		mustBe(t, api.Insn{Op: uint8(op), Rd: 1, Rs1: 2, Rs2: 3, Imm: 2}, api.ErrInsn)
	}
}

// P2.1: names that nobody has: the empty one, those that are nearly one, others' words.
func TestNamesOfNone(t *testing.T) {
	there := map[string]bool{}
	for _, r := range all() {
		there[r.name] = true
	}
	near := []string{"", " ", ".", "\x00", "c.add", "nop", "li", "mv", "ret", "fence.", "amo", "amoadd", "lr", "lr.q", "sc", "addi w", "luiauipc", "lui auipc", "b\xff", "é", strings.Repeat("a", 10000)}
	for _, r := range all() {
		for k := range r.name {
			near = append(near, r.name[:k], r.name[k+1:])
		}
		for c := range 256 {
			near = append(near, r.name+string([]byte{byte(c)}), string([]byte{byte(c)})+r.name)
		}
		near = append(near, strings.ToUpper(r.name), strings.ToUpper(r.name[:1])+r.name[1:], r.name+r.name)
	}
	for _, n := range near {
		if there[n] {
			continue
		}
		if op, e := insn.Of(n); op != 0 || e != api.ErrNone {
			t.Errorf("Of(%q) = %d, %d", n, op, e)
		}
	}
}

// P2.3: a number's name is that number's, and no two have one name.
func TestNamesAndNumbersTellOneAnother(t *testing.T) {
	seen := map[string]int{}
	for op := 1; op <= insn.Many(); op++ {
		n, e := insn.Name(uint8(op))
		if e != api.OK || n == "" {
			t.Fatalf("Name(%d) = %q, %d", op, n, e)
		}
		if other, twice := seen[n]; twice {
			t.Errorf("%d and %d are both %q", other, op, n)
		}
		seen[n] = op
		if back, e := insn.Of(n); int(back) != op || e != api.OK {
			t.Errorf("%d is %q, which is %d, %d", op, n, back, e)
		}
	}
	for _, r := range all() {
		op, _ := insn.Of(r.name)
		if back, e := insn.Name(op); back != r.name || e != api.OK {
			t.Errorf("%q is %d, which is %q, %d", r.name, op, back, e)
		}
	}
}

// P2.2: of every instruction both ends of Imm, and one beyond each; what lies between; ends of int.
func TestNumberOfEveryInstruction(t *testing.T) {
	for _, r := range all() {
		s := shapes[r.form]
		i := plain(r)
		for _, v := range []int{s.low, s.low + s.step, 0, s.high - s.step, s.high} {
			if v < s.low || v > s.high {
				continue
			}
			i.Imm = v
			mustBe(t, i, api.OK)
		}
		for _, v := range []int{s.low - 1, s.low - 2, s.high + 1, s.high + 2, 2 * s.high, 1 << 31, 1 << 32, -1 << 32, 1<<32 + s.high, math.MinInt, math.MinInt + 2, math.MaxInt, math.MaxInt - 1} {
			if v >= s.low && v <= s.high {
				continue
			}
			i.Imm = v
			mustBe(t, i, api.ErrInsn)
		}
	}
}

// P2.2: distances are even; all other numbers may be odd.
func TestOddAndEvenNumbers(t *testing.T) {
	for _, r := range all() {
		s := shapes[r.form]
		for v := -5; v <= 5; v++ {
			i := plain(r)
			i.Imm = v
			if v < s.low || v > s.high || v%s.step != 0 {
				mustBe(t, i, api.ErrInsn)
			} else {
				mustBe(t, i, api.OK)
			}
		}
	}
	for _, v := range []int{-4095, 4093, 4095} {
		mustBe(t, api.Insn{Op: 5, Imm: v}, api.ErrInsn)
	}
	for _, v := range []int{-1048575, 1048573, 1048575} {
		mustBe(t, api.Insn{Op: 3, Imm: v}, api.ErrInsn)
	}
}

// P2.2: a register is from 0 to 31; one that the form does not have is 0.
func TestRegistersOfEveryInstruction(t *testing.T) {
	for _, r := range all() {
		s := shapes[r.form]
		i := plain(r)
		fields := []struct {
			at  *int
			has bool
		}{{&i.Rd, s.rd}, {&i.Rs1, s.rs1}, {&i.Rs2, s.rs2}}
		for _, f := range fields {
			for _, v := range []int{0, 1, 15, 30, 31, 32, 33, 63, 256, 1 << 32, -1, -31, -32, math.MinInt, math.MaxInt} {
				was := *f.at
				*f.at = v
				if v == 0 || f.has && v > 0 && v <= 31 {
					mustBe(t, i, api.OK)
				} else {
					mustBe(t, i, api.ErrInsn)
				}
				*f.at = was
			}
		}
	}
}

// P2.2: all fields together: one wrong one is enough, whichever it is.
func TestFieldsTogether(t *testing.T) {
	registers := []int{-1, 0, 1, 31, 32}
	numbers := []int{-1048578, -1048577, -1048576, -4098, -4097, -4096, -2049, -2048, -1, 0, 1, 2, 3, 4, 31, 32, 63, 64, 255, 256, 2047, 2048, 4094, 4095, 4096, 1048574, 1048575, 1048576}
	fits := func(r int, has bool) bool { return r == 0 || has && r > 0 && r < 32 }
	for _, r := range all() {
		s := shapes[r.form]
		for _, rd := range registers {
			for _, rs1 := range registers {
				for _, rs2 := range registers {
					for _, v := range numbers {
						want := api.ErrInsn
						if fits(rd, s.rd) && fits(rs1, s.rs1) && fits(rs2, s.rs2) && v >= s.low && v <= s.high && v%s.step == 0 {
							want = api.OK
						}
						mustBe(t, api.Insn{Op: r.op, Rd: rd, Rs1: rs1, Rs2: rs2, Imm: v}, want)
					}
				}
			}
		}
	}
}

// Every row of the chapter's 'Examples'.
func TestExamples(t *testing.T) {
	if n, e := insn.Name(1); n != "lui" || e != api.OK {
		t.Error("Name 1:", n, e)
	}
	if n, e := insn.Name(94); n != "amomaxu.d" || e != api.OK {
		t.Error("Name 94:", n, e)
	}
	if n, e := insn.Name(95); n != "" || e != api.ErrArg {
		t.Error("Name 95:", n, e)
	}
	if op, e := insn.Of("addi"); op != 22 || e != api.OK {
		t.Error("Of addi:", op, e)
	}
	if op, e := insn.Of("c.add"); op != 0 || e != api.ErrNone {
		t.Error("Of c.add:", op, e)
	}
	mustBe(t, api.Insn{Op: 22, Rd: 1, Rs1: 2, Imm: -2048}, api.OK)
	mustBe(t, api.Insn{Op: 22, Rd: 1, Rs1: 2, Imm: 2048}, api.ErrInsn)
	mustBe(t, api.Insn{Op: 22, Rd: 1, Rs1: 2, Rs2: 1, Imm: -2048}, api.ErrInsn)
	mustBe(t, api.Insn{Op: 5, Imm: 3}, api.ErrInsn)
	mustBe(t, api.Insn{Op: 1, Imm: -1}, api.ErrInsn)
}
