// Package ops names the instructions' numbers, so that the layers that mean a certain one need not count. It stands beside the layers, and calls none.
package ops

// The numbers, in the order of chapter 2's names (shared/doc/02-insn.md): they go on from 1, since there is no instruction 0.
const (
	Lui uint8 = iota + 1
	Auipc

	Jal
	Jalr

	Beq
	Bne
	Blt
	Bge
	Bltu
	Bgeu

	Lb
	Lh
	Lw
	Ld
	Lbu
	Lhu
	Lwu

	Sb
	Sh
	Sw
	Sd

	Addi
	Slti
	Sltiu
	Xori
	Ori
	Andi

	Slli
	Srli
	Srai

	Add
	Sub
	Sll
	Slt
	Sltu
	Xor
	Srl
	Sra
	Or
	And

	Addiw
	Slliw
	Srliw
	Sraiw

	Addw
	Subw
	Sllw
	Srlw
	Sraw

	Mul
	Mulh
	Mulhsu
	Mulhu
	Div
	Divu
	Rem
	Remu

	Mulw
	Divw
	Divuw
	Remw
	Remuw

	Fence
	FenceI
	Ecall
	Ebreak

	Csrrw
	Csrrs
	Csrrc

	Csrrwi
	Csrrsi
	Csrrci

	LrW
	ScW
	AmoswapW
	AmoaddW
	AmoxorW
	AmoandW
	AmoorW
	AmominW
	AmomaxW
	AmominuW
	AmomaxuW

	LrD
	ScD
	AmoswapD
	AmoaddD
	AmoxorD
	AmoandD
	AmoorD
	AmominD
	AmomaxD
	AmominuD
	AmomaxuD
)
