package cenc_test

import (
	"slices"
	"strconv"
	"strings"
	"testing"

	"quoin/api"
	"quoin/cenc"
	"quoin/insn"
)

// table is the chapter's rows of short forms, as it has them: the row, the instruction, its bits, its form, its number, where that stands.
const table = `
1 | addi | 0000 | a | above 0, by 4 | 6 5 11 12 7 8 9 10
2 | lw | 4000 | l | from 0 on, by 4 | 6 10 11 12 5
3 | ld | 6000 | l | from 0 on, by 8 | 10 11 12 5 6
4 | sw | c000 | s | from 0 on, by 4 | 6 10 11 12 5
5 | sd | e000 | s | from 0 on, by 8 | 10 11 12 5 6
6 | addi | 0001 | n | 0 | none
7 | addi | 0001 | r | likewise, but not 0, by 1 | 2 3 4 5 6 12
8 | addiw | 2001 | r | below 0 or not, by 1 | 2 3 4 5 6 12
9 | addi | 4001 | z | below 0 or not, by 1 | 2 3 4 5 6 12
10 | addi | 6101 | p | likewise, but not 0, by 16 | 6 2 5 3 4 12
11 | lui | 6001 | u | as told below, by 1 | 2 3 4 5 6 12
12 | srli | 8001 | q | above 0, by 1 | 2 3 4 5 6 12
13 | srai | 8401 | q | above 0, by 1 | 2 3 4 5 6 12
14 | andi | 8801 | q | below 0 or not, by 1 | 2 3 4 5 6 12
15 | sub | 8c01 | m | 0 | none
16 | xor | 8c21 | m | 0 | none
17 | or | 8c41 | m | 0 | none
18 | and | 8c61 | m | 0 | none
19 | subw | 9c01 | m | 0 | none
20 | addw | 9c21 | m | 0 | none
21 | jal | a001 | j | below 0 or not, by 2 | 3 4 5 11 2 7 6 9 10 8 12
22 | beq | c001 | b | below 0 or not, by 2 | 3 4 10 11 2 5 6 12
23 | bne | e001 | b | below 0 or not, by 2 | 3 4 10 11 2 5 6 12
24 | slli | 0002 | r | above 0, by 1 | 2 3 4 5 6 12
25 | lw | 4002 | w | from 0 on, by 4 | 4 5 6 12 2 3
26 | ld | 6002 | w | from 0 on, by 8 | 5 6 12 2 3 4
27 | jalr | 8002 | J | 0 | none
28 | add | 8002 | v | 0 | none
29 | ebreak | 9002 | n | 0 | none
30 | jalr | 9002 | K | 0 | none
31 | add | 9002 | d | 0 | none
32 | sw | c002 | t | from 0 on, by 4 | 9 10 11 12 7 8
33 | sd | e002 | t | from 0 on, by 8 | 10 11 12 7 8 9
`

// row is one of the table. Numbers are those that it may have, rising, with the bits that stand for each.
type row struct {
	op      uint8
	base    uint16
	form    string
	step    int
	numbers []int
	stands  map[int]uint16
}

// opOf is the instruction of that name, by the names' order in chapter 2.
func opOf(t *testing.T, name string) uint8 {
	t.Helper()
	const names = "lui auipc jal jalr beq bne blt bge bltu bgeu lb lh lw ld lbu lhu lwu sb sh sw sd " +
		"addi slti sltiu xori ori andi slli srli srai add sub sll slt sltu xor srl sra or and " +
		"addiw slliw srliw sraiw addw subw sllw srlw sraw mul mulh mulhsu mulhu div divu rem remu " +
		"mulw divw divuw remw remuw fence fence.i ecall ebreak csrrw csrrs csrrc csrrwi csrrsi csrrci lr.w sc.w"
	k := slices.Index(strings.Fields(names), name)
	if k < 0 {
		t.Fatal("no instruction", name)
	}
	return uint8(k + 1)
}

// number is the number that is written in text.
func number(t *testing.T, text string, base int) int {
	t.Helper()
	n, err := strconv.ParseInt(text, base, 32)
	if err != nil {
		t.Fatal(err)
	}
	return int(n)
}

// all are the table's rows.
func all(t *testing.T) []row {
	t.Helper()
	var l []row
	for _, text := range strings.Split(strings.TrimSpace(table), "\n") {
		cells := strings.Split(text, " | ")
		r := row{op: opOf(t, cells[1]), base: uint16(number(t, cells[2], 16)), form: cells[3], step: 1}
		what, step, has := strings.Cut(cells[4], ", by ")
		if has {
			r.step = number(t, step, 10)
		}
		var at []int
		if cells[5] != "none" {
			for _, p := range strings.Fields(cells[5]) {
				at = append(at, number(t, p, 10))
			}
		}
		r.setNumbers(t, what, at)
		l = append(l, r)
	}
	if len(l) != 33 {
		t.Fatal("the test's own table has", len(l))
	}
	return l
}

// setNumbers fills r's numbers: all bits that there are, each with the number for which it stands, if that may be.
func (r *row) setNumbers(t *testing.T, what string, at []int) {
	t.Helper()
	many := 1 << len(at)
	r.stands = map[int]uint16{}
	for k := range many {
		v := k
		switch {
		case what == "below 0 or not" || what == "likewise, but not 0":
			if 2*k >= many {
				v = k - many
			}
		case what == "as told below":
			if 2*k >= many {
				v = 1<<20 - many + k
			}
		case what != "from 0 on" && what != "above 0" && what != "0":
			t.Fatal("the test's own table has", what)
		}
		if v == 0 && (what == "above 0" || what == "likewise, but not 0" || what == "as told below") {
			continue
		}
		var h uint16
		for b, p := range at {
			h += uint16(k>>b%2) << p
		}
		r.stands[v*r.step] = h
		r.numbers = append(r.numbers, v*r.step)
	}
	slices.Sort(r.numbers)
}

// registers are three of an instruction, and what stands for them.
type registers struct {
	rd, rs1, rs2 int
	bits         int
}

// between are the numbers from low to high.
func between(low, high int) []int {
	var l []int
	for k := low; k <= high; k++ {
		l = append(l, k)
	}
	return l
}

// registersOf are all that a form has, by the chapter's second table.
func registersOf(t *testing.T, form string) []registers {
	t.Helper()
	var l []registers
	add := func(rd, rs1, rs2, bits int) { l = append(l, registers{rd, rs1, rs2, bits}) }
	few, some, any := between(8, 15), between(1, 31), between(0, 31)
	each := func(first, second []int, do func(x, y int)) {
		for _, x := range first {
			for _, y := range second {
				do(x, y)
			}
		}
	}
	one := []int{0}
	switch form {
	case "a":
		each(few, one, func(x, _ int) { add(x, 2, 0, (x-8)*4) })
	case "l":
		each(few, few, func(x, y int) { add(x, y, 0, (x-8)*4+(y-8)*128) })
	case "s":
		each(few, few, func(x, y int) { add(0, x, y, (y-8)*4+(x-8)*128) })
	case "n":
		add(0, 0, 0, 0)
	case "r":
		each(some, one, func(x, _ int) { add(x, x, 0, x*128) })
	case "z":
		each(some, one, func(x, _ int) { add(x, 0, 0, x*128) })
	case "u":
		each(slices.Concat([]int{1}, between(3, 31)), one, func(x, _ int) { add(x, 0, 0, x*128) })
	case "p":
		add(2, 2, 0, 0)
	case "q":
		each(few, one, func(x, _ int) { add(x, x, 0, (x-8)*128) })
	case "m":
		each(few, few, func(x, y int) { add(x, x, y, (x-8)*128+(y-8)*4) })
	case "j":
		add(0, 0, 0, 0)
	case "b":
		each(few, one, func(x, _ int) { add(0, x, 0, (x-8)*128) })
	case "w":
		each(some, one, func(x, _ int) { add(x, 2, 0, x*128) })
	case "J":
		each(some, one, func(x, _ int) { add(0, x, 0, x*128) })
	case "K":
		each(some, one, func(x, _ int) { add(1, x, 0, x*128) })
	case "v":
		each(some, some, func(x, y int) { add(x, 0, y, x*128+y*4) })
	case "d":
		each(some, some, func(x, y int) { add(x, x, y, x*128+y*4) })
	case "t":
		each(any, one, func(x, _ int) { add(0, 2, x, x*4) })
	default:
		t.Fatal("the test's own table has", form)
	}
	return l
}

// shorts are the short forms of all instructions that have one, by the tables, the first row counting.
func shorts(t *testing.T) map[api.Insn]uint16 {
	t.Helper()
	m := map[api.Insn]uint16{}
	for _, r := range all(t) {
		for _, g := range registersOf(t, r.form) {
			for _, v := range r.numbers {
				i := api.Insn{Op: r.op, Rd: g.rd, Rs1: g.rs1, Rs2: g.rs2, Imm: v}
				if _, has := m[i]; !has {
					m[i] = r.base + uint16(g.bits) + r.stands[v]
				}
			}
		}
	}
	return m
}

// mustBe holds that i's short form is h, and that it is told to have one.
func mustBe(t *testing.T, i api.Insn, h uint16) {
	t.Helper()
	if got, e := cenc.Half(i); got != h || e != api.OK {
		t.Errorf("Half(%+v) = %04x, %d, not %04x", i, got, e, h)
	}
	if is, e := cenc.Short(i); !is || e != api.OK {
		t.Errorf("Short(%+v) = %t, %d, not true", i, is, e)
	}
}

// mustHaveNone holds that i has no short form, and is told to have none.
func mustHaveNone(t *testing.T, i api.Insn) {
	t.Helper()
	if h, e := cenc.Half(i); h != 0 || e != api.ErrNone {
		t.Errorf("Half(%+v) = %04x, %d, not ErrNone", i, h, e)
	}
	if is, e := cenc.Short(i); is || e != api.OK {
		t.Errorf("Short(%+v) = %t, %d, not false", i, is, e)
	}
}

// mustRefuse holds that i may not be, for both calls.
func mustRefuse(t *testing.T, i api.Insn) {
	t.Helper()
	if h, e := cenc.Half(i); h != 0 || e != api.ErrInsn {
		t.Errorf("Half(%+v) = %04x, %d, not ErrInsn", i, h, e)
	}
	if is, e := cenc.Short(i); is || e != api.ErrInsn {
		t.Errorf("Short(%+v) = %t, %d, not ErrInsn", i, is, e)
	}
}

// mustAgree holds that both calls tell of i what the tables do.
func mustAgree(t *testing.T, m map[api.Insn]uint16, i api.Insn) {
	t.Helper()
	h, has := m[i]
	switch {
	case insn.Check(i) != api.OK:
		mustRefuse(t, i)
	case has:
		mustBe(t, i, h)
	default:
		mustHaveNone(t, i)
	}
}

// P5.1: every instruction that is of a row, with all its registers and all its numbers.
func TestEveryInstructionOfARow(t *testing.T) {
	for i, h := range shorts(t) {
		mustBe(t, i, h)
	}
}

// P5.2: by the answers themselves no two have one short form, and none ends with two bits 1.
func TestUnlikeInstructionsHaveUnlikeHalves(t *testing.T) {
	whose := map[uint16]api.Insn{}
	for i := range shorts(t) {
		h, e := cenc.Half(i)
		if e != api.OK {
			t.Fatalf("Half(%+v): %d", i, e)
		}
		if other, has := whose[h]; has {
			t.Fatalf("%04x is both %+v and %+v", h, i, other)
		}
		whose[h] = i
		if h%4 == 3 {
			t.Fatalf("Half(%+v) = %04x ends with two bits 1", i, h)
		}
	}
}

// P5.1: each row's numbers at their ends, about 0, one step beyond each end, and those that go not by the row's step.
func TestEndsOfNumbers(t *testing.T) {
	m := shorts(t)
	for _, r := range all(t) {
		low, high := r.numbers[0], r.numbers[len(r.numbers)-1]
		for _, g := range registersOf(t, r.form) {
			for _, v := range []int{
				low, high, low - r.step, high + r.step, low - 1, high + 1, low + 1, high - 1, low + r.step, high - r.step,
				-r.step, 0, r.step, -1, 1, r.step / 2, -r.step / 2, 3 * r.step / 2, 31, 32, 33, -32, -33,
			} {
				mustAgree(t, m, api.Insn{Op: r.op, Rd: g.rd, Rs1: g.rs1, Rs2: g.rs2, Imm: v})
			}
		}
	}
}

// P5.1: each row's numbers with all registers that an instruction can have, those that the form does not have among them.
func TestAllRegisters(t *testing.T) {
	m := shorts(t)
	for _, r := range all(t) {
		v := r.numbers[len(r.numbers)/2]
		for rd := range 32 {
			for rs1 := range 32 {
				for _, rs2 := range []int{0, 1, 2, 7, 8, 12, 15, 16, 31} {
					mustAgree(t, m, api.Insn{Op: r.op, Rd: rd, Rs1: rs1, Rs2: rs2, Imm: v})
				}
			}
		}
		for rs1 := range 32 {
			for rs2 := range 32 {
				for _, rd := range []int{0, 1, 2, 7, 8, 12, 15, 16, 31, rs1, rs2} {
					mustAgree(t, m, api.Insn{Op: r.op, Rd: rd, Rs1: rs1, Rs2: rs2, Imm: v})
				}
			}
		}
	}
}

// P5.1: all instructions, most of which have no row, with registers at the ends of what forms have, and numbers of all rows' ends.
func TestAllInstructions(t *testing.T) {
	m := shorts(t)
	registers := []int{0, 1, 2, 3, 7, 8, 15, 16, 31}
	numbers := []int{-2050, -2048, -514, -512, -256, -130, -128, -33, -32, -31, -16, -8, -4, -2, -1, 0, 1, 2, 3, 4, 6, 8, 16, 31, 32, 48, 63, 64, 124, 128, 248, 252, 254, 256, 496, 504, 512, 1020, 1024, 2046, 2048, 1<<20 - 33, 1<<20 - 32, 1<<20 - 1, 1 << 20}
	for op := range 256 {
		for _, rd := range registers {
			for _, rs1 := range registers {
				for _, rs2 := range []int{0, rd, 8, 31} {
					for k, v := range numbers {
						// Of what has no row and no such registers a few numbers do.
						if rs2 != 0 && k%7 != 1 && v != 0 {
							continue
						}
						mustAgree(t, m, api.Insn{Op: uint8(op), Rd: rd, Rs1: rs1, Rs2: rs2, Imm: v})
					}
				}
			}
		}
	}
}

// P5.1: of instructions of two rows the first one counts: addi 2 2 with a number that goes by 16 and has room in row 7.
func TestTheFirstRowCounts(t *testing.T) {
	for _, c := range []struct {
		v int
		h uint16
	}{{16, 0x0141}, {-16, 0x1141}, {-32, 0x1101}, {31, 0x017d}, {-31, 0x1105}, {1, 0x0105}, {32, 0x6105}, {-48, 0x7179}, {48, 0x6145}, {496, 0x617d}, {-512, 0x7101}} {
		mustBe(t, api.Insn{Op: 22, Rd: 2, Rs1: 2, Imm: c.v}, c.h)
	}
	for _, v := range []int{0, 33, -33, 40, 512, -528} {
		mustHaveNone(t, api.Insn{Op: 22, Rd: 2, Rs1: 2, Imm: v})
	}
}

// P5.1: both ranges of row 11, and what is beside them.
func TestBothRangesOfLui(t *testing.T) {
	for v := range 31 {
		mustBe(t, api.Insn{Op: 1, Rd: 31, Imm: v + 1}, 0x6f81+uint16(v+1)*4)
	}
	for v := range 32 {
		mustBe(t, api.Insn{Op: 1, Rd: 31, Imm: 1<<20 - 32 + v}, 0x7f81+uint16(v)*4)
	}
	for _, v := range []int{0, 32, 33, 63, 64, 65, 1<<19 - 1, 1 << 19, 1<<20 - 64, 1<<20 - 34, 1<<20 - 33} {
		mustHaveNone(t, api.Insn{Op: 1, Rd: 31, Imm: v})
	}
	for _, v := range []int{-1, -31, -32, 1 << 20, 1<<20 + 1, 1<<20 + 31} {
		mustRefuse(t, api.Insn{Op: 1, Rd: 31, Imm: v})
	}
	for _, v := range []int{1, 31, 1<<20 - 32, 1<<20 - 1} {
		mustHaveNone(t, api.Insn{Op: 1, Imm: v})
		mustHaveNone(t, api.Insn{Op: 1, Rd: 2, Imm: v})
	}
}

// P5.1: what may not be, though some of it is like what rows have.
func TestWhatMayNotBe(t *testing.T) {
	const most = int(^uint(0) >> 1)
	for _, i := range []api.Insn{
		{},
		{Op: 95, Rd: 1, Rs1: 1, Imm: 1},
		{Op: 255},
		{Op: 22, Rd: 32, Rs1: 32, Imm: 1},
		{Op: 22, Rd: -1, Rs1: -1, Imm: 1},
		{Op: 22, Rd: 1, Rs1: 1, Rs2: 1, Imm: 1},
		{Op: 22, Rd: 2, Rs1: 2, Imm: 4096},
		{Op: 22, Rd: 1, Rs1: 1, Imm: most},
		{Op: 22, Rd: 1, Rs1: 1, Imm: -most - 1},
		{Op: 32, Rd: 8, Rs1: 8, Rs2: 9, Imm: 1},
		{Op: 3, Imm: 3},
		{Op: 3, Rs1: 1, Imm: 2},
		{Op: 5, Rs1: 8, Imm: -1},
		{Op: 5, Rd: 1, Rs1: 8, Imm: 2},
		{Op: 28, Rd: 1, Rs1: 1, Imm: 64},
		{Op: 28, Rd: 1, Rs1: 1, Imm: -1},
		{Op: 20, Rd: 1, Rs1: 2, Rs2: 1, Imm: 4},
		{Op: 66, Rd: 1},
		{Op: 66, Imm: 1},
	} {
		mustRefuse(t, i)
	}
}

// Every row of the chapter's 'Examples'.
func TestExamples(t *testing.T) {
	mustBe(t, api.Insn{Op: 22, Rd: 1, Rs1: 1, Imm: 5}, 0x0095)
	mustBe(t, api.Insn{Op: 22, Rd: 2, Rs1: 2, Imm: 16}, 0x0141)
	mustBe(t, api.Insn{Op: 22, Rd: 2, Rs1: 2, Imm: 64}, 0x6121)
	mustBe(t, api.Insn{Op: 31, Rd: 10, Rs2: 11}, 0x852e)
	mustBe(t, api.Insn{Op: 4, Rs1: 1}, 0x8082)
	mustBe(t, api.Insn{Op: 13, Rd: 8, Rs1: 9, Imm: 4}, 0x40c0)
	mustHaveNone(t, api.Insn{Op: 22, Rd: 1, Rs1: 2, Imm: 3})
	mustHaveNone(t, api.Insn{Op: 28, Rd: 8, Rs1: 8})
	mustRefuse(t, api.Insn{})
}
