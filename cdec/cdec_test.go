package cdec_test

import (
	"slices"
	"strconv"
	"strings"
	"testing"

	"quoin/api"
	"quoin/cdec"
	"quoin/cenc"
	"quoin/insn"
)

// table is chapter 5's rows of short forms, as it has them: the row, the instruction, its bits, its form, its number, where that stands.
const table = `
1 | addi | 0000 | a | above 0, by 4 | 6 5 11 12 7 8 9 10
2 | lw | 4000 | l | from 0 on, by 4 | 6 10 11 12 5
3 | ld | 6000 | l | from 0 on, by 8 | 10 11 12 5 6
4 | sw | c000 | s | from 0 on, by 4 | 6 10 11 12 5
5 | sd | e000 | s | from 0 on, by 8 | 10 11 12 5 6
6 | addi | 0001 | n | 0 | none
7 | addi | 0001 | r | likewise, but not 0, by 1 | 2 3 4 5 6 12
8 | addiw | 2001 | r | below 0 or not, by 1 | 2 3 4 5 6 12
9 | addi | 4001 | z | below 0 or not, by 1 | 2 3 4 5 6 12
10 | addi | 6101 | p | likewise, but not 0, by 16 | 6 2 5 3 4 12
11 | lui | 6001 | u | as told below, by 1 | 2 3 4 5 6 12
12 | srli | 8001 | q | above 0, by 1 | 2 3 4 5 6 12
13 | srai | 8401 | q | above 0, by 1 | 2 3 4 5 6 12
14 | andi | 8801 | q | below 0 or not, by 1 | 2 3 4 5 6 12
15 | sub | 8c01 | m | 0 | none
16 | xor | 8c21 | m | 0 | none
17 | or | 8c41 | m | 0 | none
18 | and | 8c61 | m | 0 | none
19 | subw | 9c01 | m | 0 | none
20 | addw | 9c21 | m | 0 | none
21 | jal | a001 | j | below 0 or not, by 2 | 3 4 5 11 2 7 6 9 10 8 12
22 | beq | c001 | b | below 0 or not, by 2 | 3 4 10 11 2 5 6 12
23 | bne | e001 | b | below 0 or not, by 2 | 3 4 10 11 2 5 6 12
24 | slli | 0002 | r | above 0, by 1 | 2 3 4 5 6 12
25 | lw | 4002 | w | from 0 on, by 4 | 4 5 6 12 2 3
26 | ld | 6002 | w | from 0 on, by 8 | 5 6 12 2 3 4
27 | jalr | 8002 | J | 0 | none
28 | add | 8002 | v | 0 | none
29 | ebreak | 9002 | n | 0 | none
30 | jalr | 9002 | K | 0 | none
31 | add | 9002 | d | 0 | none
32 | sw | c002 | t | from 0 on, by 4 | 9 10 11 12 7 8
33 | sd | e002 | t | from 0 on, by 8 | 10 11 12 7 8 9
`

// Chapter 2's numbers of the instructions that the tests name.
const (
	lui    = 1
	jalr   = 4
	lw     = 13
	addi   = 22
	add    = 31
	ebreak = 66
)

// row is one of the table.
type row struct {
	number int
	op     uint8
	base   int
	form   string
	what   string
	step   int
	at     []int
}

// whole is the number that is written in text.
func whole(t *testing.T, text string, base int) int {
	t.Helper()
	n, err := strconv.ParseInt(text, base, 32)
	if err != nil {
		t.Fatal(err)
	}
	return int(n)
}

// all are the table's rows.
func all(t *testing.T) []row {
	t.Helper()
	var l []row
	for _, text := range strings.Split(strings.TrimSpace(table), "\n") {
		cells := strings.Split(text, " | ")
		op, e := insn.Of(cells[1])
		if e != api.OK {
			t.Fatal("no instruction", cells[1])
		}
		r := row{number: whole(t, cells[0], 10), op: op, base: whole(t, cells[2], 16), form: cells[3], step: 1}
		what, step, has := strings.Cut(cells[4], ", by ")
		r.what = what
		if has {
			r.step = whole(t, step, 10)
		}
		if cells[5] != "none" {
			for _, p := range strings.Fields(cells[5]) {
				r.at = append(r.at, whole(t, p, 10))
			}
		}
		l = append(l, r)
	}
	if len(l) != 33 {
		t.Fatal("the test's own table has", len(l))
	}
	return l
}

// registers are an instruction's, with the bits in which a form has them, and whether the form has such ones.
type registers struct {
	rd, rs1, rs2 int
	fields       int
	right        bool
}

// The fields in which registers stand, of three bits and of five.
const (
	low3  = 7 << 2
	high3 = 7 << 7
	low5  = 31 << 2
	high5 = 31 << 7
)

// registersOf are those that stand in h, by the form and the chapter's second table.
func registersOf(t *testing.T, h int, form string) registers {
	low, high := h/4%32, h/128%32
	a, b := low%8+8, high%8+8
	switch form {
	case "a":
		return registers{a, 2, 0, low3, true}
	case "l":
		return registers{a, b, 0, low3 | high3, true}
	case "s":
		return registers{0, b, a, low3 | high3, true}
	case "n":
		return registers{0, 0, 0, 0, true}
	case "r":
		return registers{high, high, 0, high5, high != 0}
	case "z":
		return registers{high, 0, 0, high5, high != 0}
	case "u":
		return registers{high, 0, 0, high5, high != 0 && high != 2}
	case "p":
		return registers{2, 2, 0, 0, true}
	case "q":
		return registers{b, b, 0, high3, true}
	case "m":
		return registers{b, b, a, low3 | high3, true}
	case "j":
		return registers{0, 0, 0, 0, true}
	case "b":
		return registers{0, b, 0, high3, true}
	case "w":
		return registers{high, 2, 0, high5, high != 0}
	case "J":
		return registers{0, high, 0, high5, high != 0}
	case "K":
		return registers{1, high, 0, high5, high != 0}
	case "v":
		return registers{high, 0, low, low5 | high5, high != 0 && low != 0}
	case "d":
		return registers{high, high, low, low5 | high5, high != 0 && low != 0}
	case "t":
		return registers{0, 2, low, low5, true}
	}
	t.Fatal("the test's own table has", form)
	return registers{}
}

// numberOf is the number that stands in h, and whether the row may have it.
func (r row) numberOf(t *testing.T, h int) (int, bool) {
	v, many := 0, 1<<len(r.at)
	for b, p := range r.at {
		v += h >> p % 2 << b
	}
	below := 2*v >= many
	switch r.what {
	case "0", "from 0 on":
		return v * r.step, true
	case "above 0":
		return v * r.step, v != 0
	case "below 0 or not":
		if below {
			v -= many
		}
		return v * r.step, true
	case "likewise, but not 0":
		if below {
			v -= many
		}
		return v * r.step, v != 0
	case "as told below":
		if below {
			v += 1<<20 - many
		}
		return v, v != 0
	}
	t.Fatal("the test's own table has", r.what)
	return 0, false
}

// fields are the bits of h that a row leaves to fields.
func (r row) fields(t *testing.T) int {
	m := registersOf(t, 0, r.form).fields
	for _, p := range r.at {
		m |= 1 << p
	}
	return m
}

// like tells whether h is the row's bits with fields put there, whatever these hold.
func (r row) like(t *testing.T, h int) bool {
	return h&^r.fields(t) == r.base
}

// insnOf is the instruction whose half word h is by that row, if it is one.
func (r row) insnOf(t *testing.T, h int) (api.Insn, bool) {
	if !r.like(t, h) {
		return api.Insn{}, false
	}
	g := registersOf(t, h, r.form)
	v, may := r.numberOf(t, h)
	if !g.right || !may {
		return api.Insn{}, false
	}
	return api.Insn{Op: r.op, Rd: g.rd, Rs1: g.rs1, Rs2: g.rs2, Imm: v}, true
}

// halves are the instructions of all half words that are one's, and the rows by which they are, by the tables.
func halves(t *testing.T) (map[uint16]api.Insn, map[uint16]int) {
	t.Helper()
	insns, rows := map[uint16]api.Insn{}, map[uint16]int{}
	l := all(t)
	for h := range 1 << 16 {
		for _, r := range l {
			if i, is := r.insnOf(t, h); is {
				if other, has := rows[uint16(h)]; has {
					t.Fatalf("%04x is of the rows %d and %d", h, other, r.number)
				}
				insns[uint16(h)], rows[uint16(h)] = i, r.number
			}
		}
	}
	return insns, rows
}

// mustBe holds that h is i's.
func mustBe(t *testing.T, h uint16, i api.Insn) {
	t.Helper()
	if got, e := cdec.Insn(h); got != i || e != api.OK {
		t.Errorf("Insn(%04x) = %+v, %d, not %+v", h, got, e, i)
	}
}

// mustRefuse holds that h is no instruction's.
func mustRefuse(t *testing.T, h uint16) {
	t.Helper()
	if got, e := cdec.Insn(h); got != (api.Insn{}) || e != api.ErrHalf {
		t.Errorf("Insn(%04x) = %+v, %d, not ErrHalf", h, got, e)
	}
}

// P6.1: every half word is the instruction's that the tables tell, or none's.
func TestEveryHalfWord(t *testing.T) {
	insns, _ := halves(t)
	for n := range 1 << 16 {
		h := uint16(n)
		if i, is := insns[h]; is {
			mustBe(t, h, i)
		} else {
			mustRefuse(t, h)
		}
	}
}

// P6.1: of every row both ends of its registers and of its number: all bits of a field 0, and all of them 1, or but the highest one.
func TestEndsOfEveryRow(t *testing.T) {
	for _, r := range all(t) {
		found := 0
		for _, g := range ends(registersOf(t, 0, r.form).fields) {
			for _, n := range ends(r.fields(t) &^ registersOf(t, 0, r.form).fields) {
				h := uint16(r.base | g | n)
				if i, is := r.insnOf(t, int(h)); is {
					mustBe(t, h, i)
					found++
				}
			}
		}
		if found == 0 {
			t.Error("the test has no half word of row", r.number)
		}
	}
}

// ends are the bits of fields with none, each alone, all but each, and all.
func ends(fields int) []int {
	l := []int{0, fields}
	for p := range 16 {
		if fields>>p%2 == 1 {
			l = append(l, 1<<p, fields&^(1<<p))
		}
	}
	return l
}

// P6.1: half words of a row's bits whose number the row may not have: 0 in rows 1, 7, 10 to 13 and 24.
func TestNumbersThatMayNotBe(t *testing.T) {
	for _, h := range []uint16{
		0x0000, 0x0004, 0x001c, // row 1
		0x0081, 0x0101, 0x0f81, // row 7
		0x6101,                 // row 10
		0x6081, 0x6181, 0x6f81, // row 11
		0x8001, 0x8081, 0x8381, // row 12
		0x8401, 0x8481, 0x8781, // row 13
		0x0082, 0x0102, 0x0f82, // row 24
	} {
		mustRefuse(t, h)
	}
	none := 0
	for _, r := range all(t) {
		for h := range 1 << 16 {
			if _, may := r.numberOf(t, h); r.like(t, h) && registersOf(t, h, r.form).right && !may {
				mustRefuse(t, uint16(h))
				none++
			}
		}
	}
	// Rows 1, 7, 10, 11, 12, 13, 24 have so many registers each.
	if want := 8 + 31 + 1 + 30 + 8 + 8 + 31; none != want {
		t.Errorf("the test has %d, not %d", none, want)
	}
}

// P6.1: half words of a row's bits with a register that its form does not have: 0, or in row 11 2, which makes it row 10.
func TestRegistersThatMayNotBe(t *testing.T) {
	for _, h := range []uint16{
		0x0005, 0x107d, // row 7
		0x2001, 0x2005, 0x307d, // row 8
		0x4001, 0x4005, 0x507d, // row 9
		0x6001, 0x6005, 0x707d, // row 11
		0x0002, 0x0006, 0x107e, // row 24
		0x4002, 0x4006, 0x507e, // row 25
		0x6002, 0x6006, 0x707e, // row 26
		0x8002,         // row 27
		0x8006, 0x807e, // row 28
		0x9006, 0x907e, // row 31
	} {
		mustRefuse(t, h)
	}
	// Rows 30 and 27 with a register 0 are the row 29 and nothing, rows 28 and 31 without a second register rows 27 and 30.
	mustBe(t, 0x9002, api.Insn{Op: ebreak})
	mustBe(t, 0x8082, api.Insn{Op: jalr, Rs1: 1})
	mustBe(t, 0x9082, api.Insn{Op: jalr, Rd: 1, Rs1: 1})
	// Row 11 by a register 2 is row 10.
	mustBe(t, 0x6105, api.Insn{Op: addi, Rd: 2, Rs1: 2, Imm: 32})
	mustBe(t, 0x6085, api.Insn{Op: lui, Rd: 1, Imm: 1})
	mustBe(t, 0x6185, api.Insn{Op: lui, Rd: 3, Imm: 1})
}

// P6.1: half words that are like no row: two bits 1 at the end, the tops that no row has, and two numbers of rows 15 to 20.
func TestHalfWordsOfNoRow(t *testing.T) {
	for rest := range 1 << 11 {
		for _, bits := range []int{0x2000, 0x8000, 0xa000, 0x2002, 0xa002} {
			mustRefuse(t, uint16(bits|rest<<2))
		}
		for top := range 8 {
			mustRefuse(t, uint16(top<<13|rest<<2|3))
		}
	}
	for high := range 8 {
		for low := range 8 {
			mustRefuse(t, uint16(0x9c41|high<<7|low<<2))
			mustRefuse(t, uint16(0x9c61|high<<7|low<<2))
		}
	}
}

// P6.1, P6.2: addi 2 2 by -32, -16, 16 has two half words, both of which are read; its short form is row 7's.
func TestTwoHalfWordsOfOneInstruction(t *testing.T) {
	for _, c := range []struct {
		v            int
		first, other uint16
	}{{-32, 0x1101, 0x713d}, {-16, 0x1141, 0x717d}, {16, 0x0141, 0x6141}} {
		i := api.Insn{Op: addi, Rd: 2, Rs1: 2, Imm: c.v}
		mustBe(t, c.first, i)
		mustBe(t, c.other, i)
		if h, e := cenc.Half(i); h != c.first || e != api.OK {
			t.Errorf("Half(%+v) = %04x, %d, not %04x", i, h, e, c.first)
		}
	}
}

// P6.2: each half word that is an instruction's is its short form, but for the row 10 of the numbers that row 7 has, too; and it has the size 2.
func TestWhatIsReadIsWritten(t *testing.T) {
	var others []uint16
	read := 0
	for n := range 1 << 16 {
		h := uint16(n)
		i, e := cdec.Insn(h)
		if e != api.OK {
			continue
		}
		read++
		if cdec.Size(h) != 2 {
			t.Errorf("Size(%04x) = %d", h, cdec.Size(h))
		}
		if e := insn.Check(i); e != api.OK {
			t.Errorf("Insn(%04x) = %+v, which may not be", h, i)
		}
		short, e := cenc.Half(i)
		if e != api.OK {
			t.Errorf("Insn(%04x) = %+v, which has no short form: %d", h, i, e)
		}
		if short != h {
			others = append(others, h)
		}
	}
	if want := []uint16{0x6141, 0x713d, 0x717d}; !slices.Equal(others, want) {
		t.Errorf("%04x are not what is written of them; %04x are to be", others, want)
	}
	insns, _ := halves(t)
	if read != len(insns) {
		t.Errorf("%d are read, not %d", read, len(insns))
	}
}

// P6.2: the short form of each instruction that has one is read back: those of all rows, by the tables.
func TestShortFormsAreReadBack(t *testing.T) {
	insns, rows := halves(t)
	seen := map[int]bool{}
	for h, i := range insns {
		short, e := cenc.Half(i)
		if e != api.OK {
			t.Fatalf("Half(%+v): %d", i, e)
		}
		mustBe(t, short, i)
		seen[rows[h]] = true
	}
	if len(seen) != 33 {
		t.Errorf("the test has %d rows", len(seen))
	}
}

// P6.2: of all instructions, with registers at the ends of what forms have, and numbers of all rows' ends, what has a short form is read back.
func TestInstructionsAreReadBack(t *testing.T) {
	registers := []int{0, 1, 2, 3, 7, 8, 15, 16, 31}
	numbers := []int{-2048, -512, -256, -33, -32, -16, -2, -1, 0, 1, 2, 4, 8, 16, 31, 32, 63, 124, 248, 252, 254, 496, 504, 1020, 2046, 1<<20 - 32, 1<<20 - 1}
	for op := range insn.Many() {
		for _, rd := range registers {
			for _, rs1 := range registers {
				for _, rs2 := range []int{0, 8, 31} {
					for _, v := range numbers {
						i := api.Insn{Op: uint8(op + 1), Rd: rd, Rs1: rs1, Rs2: rs2, Imm: v}
						if h, e := cenc.Half(i); e == api.OK {
							mustBe(t, h, i)
						}
					}
				}
			}
		}
	}
}

// P6.1: Size hangs on the two lowest bits alone.
func TestSize(t *testing.T) {
	for n := range 1 << 16 {
		want := 2
		if n%4 == 3 {
			want = 4
		}
		if got := cdec.Size(uint16(n)); got != want {
			t.Errorf("Size(%04x) = %d, not %d", n, got, want)
		}
	}
}

// Every row of the chapter's 'Examples'.
func TestExamples(t *testing.T) {
	mustBe(t, 0x0095, api.Insn{Op: addi, Rd: 1, Rs1: 1, Imm: 5})
	mustBe(t, 0x852e, api.Insn{Op: add, Rd: 10, Rs2: 11})
	mustBe(t, 0x8082, api.Insn{Op: jalr, Rs1: 1})
	mustBe(t, 0x40c0, api.Insn{Op: lw, Rd: 8, Rs1: 9, Imm: 4})
	stack := api.Insn{Op: addi, Rd: 2, Rs1: 2, Imm: 16}
	mustBe(t, 0x6141, stack)
	if h, e := cenc.Half(stack); h != 0x0141 || e != api.OK {
		t.Errorf("Half(%+v) = %04x, %d", stack, h, e)
	}
	for _, h := range []uint16{0, 0x8002, 0x6081, 0x9c41, 0x0003} {
		mustRefuse(t, h)
	}
	if cdec.Size(0x0003) != 4 || cdec.Size(0x8082) != 2 {
		t.Error("Size:", cdec.Size(0x0003), cdec.Size(0x8082))
	}
}
