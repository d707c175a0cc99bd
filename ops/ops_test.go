package ops_test

import (
	"testing"

	"quoin/insn"
	"quoin/ops"
)

// named are the numbers by the names that chapter 2 gives them.
func named() map[string]uint8 {
	return map[string]uint8{
		"lui":       ops.Lui,
		"auipc":     ops.Auipc,
		"jal":       ops.Jal,
		"jalr":      ops.Jalr,
		"beq":       ops.Beq,
		"bne":       ops.Bne,
		"blt":       ops.Blt,
		"bge":       ops.Bge,
		"bltu":      ops.Bltu,
		"bgeu":      ops.Bgeu,
		"lb":        ops.Lb,
		"lh":        ops.Lh,
		"lw":        ops.Lw,
		"ld":        ops.Ld,
		"lbu":       ops.Lbu,
		"lhu":       ops.Lhu,
		"lwu":       ops.Lwu,
		"sb":        ops.Sb,
		"sh":        ops.Sh,
		"sw":        ops.Sw,
		"sd":        ops.Sd,
		"addi":      ops.Addi,
		"slti":      ops.Slti,
		"sltiu":     ops.Sltiu,
		"xori":      ops.Xori,
		"ori":       ops.Ori,
		"andi":      ops.Andi,
		"slli":      ops.Slli,
		"srli":      ops.Srli,
		"srai":      ops.Srai,
		"add":       ops.Add,
		"sub":       ops.Sub,
		"sll":       ops.Sll,
		"slt":       ops.Slt,
		"sltu":      ops.Sltu,
		"xor":       ops.Xor,
		"srl":       ops.Srl,
		"sra":       ops.Sra,
		"or":        ops.Or,
		"and":       ops.And,
		"addiw":     ops.Addiw,
		"slliw":     ops.Slliw,
		"srliw":     ops.Srliw,
		"sraiw":     ops.Sraiw,
		"addw":      ops.Addw,
		"subw":      ops.Subw,
		"sllw":      ops.Sllw,
		"srlw":      ops.Srlw,
		"sraw":      ops.Sraw,
		"mul":       ops.Mul,
		"mulh":      ops.Mulh,
		"mulhsu":    ops.Mulhsu,
		"mulhu":     ops.Mulhu,
		"div":       ops.Div,
		"divu":      ops.Divu,
		"rem":       ops.Rem,
		"remu":      ops.Remu,
		"mulw":      ops.Mulw,
		"divw":      ops.Divw,
		"divuw":     ops.Divuw,
		"remw":      ops.Remw,
		"remuw":     ops.Remuw,
		"fence":     ops.Fence,
		"fence.i":   ops.FenceI,
		"ecall":     ops.Ecall,
		"ebreak":    ops.Ebreak,
		"csrrw":     ops.Csrrw,
		"csrrs":     ops.Csrrs,
		"csrrc":     ops.Csrrc,
		"csrrwi":    ops.Csrrwi,
		"csrrsi":    ops.Csrrsi,
		"csrrci":    ops.Csrrci,
		"lr.w":      ops.LrW,
		"sc.w":      ops.ScW,
		"amoswap.w": ops.AmoswapW,
		"amoadd.w":  ops.AmoaddW,
		"amoxor.w":  ops.AmoxorW,
		"amoand.w":  ops.AmoandW,
		"amoor.w":   ops.AmoorW,
		"amomin.w":  ops.AmominW,
		"amomax.w":  ops.AmomaxW,
		"amominu.w": ops.AmominuW,
		"amomaxu.w": ops.AmomaxuW,
		"lr.d":      ops.LrD,
		"sc.d":      ops.ScD,
		"amoswap.d": ops.AmoswapD,
		"amoadd.d":  ops.AmoaddD,
		"amoxor.d":  ops.AmoxorD,
		"amoand.d":  ops.AmoandD,
		"amoor.d":   ops.AmoorD,
		"amomin.d":  ops.AmominD,
		"amomax.d":  ops.AmomaxD,
		"amominu.d": ops.AmominuD,
		"amomaxu.d": ops.AmomaxuD,
	}
}

// Each number is the one that insn has of that name, and none is missing.
func TestNumbersAreThoseOfNames(t *testing.T) {
	for name, op := range named() {
		if got, e := insn.Name(op); got != name {
			t.Errorf("%d is %s, %d, not %s", op, got, e, name)
		}
	}
	if len(named()) != insn.Many() {
		t.Errorf("%d are named of %d", len(named()), insn.Many())
	}
}
