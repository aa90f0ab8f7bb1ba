package text

import (
	"pendulum/api"
	"pendulum/decode"
)

// A pattern is a text in which small letters are marks: they stand for what
// hangs on the instruction.
const (
	markFirst     = 'y' // the byte of y
	markSecond    = 'z' // the byte of z
	markMemory    = 'm' // what stands at the index
	markPair      = 's' // the pair of p
	markStack     = 'k' // the pair of p of the stack
	markIndex     = 'h' // HL, or the index in its place
	markCondition = 'c' // the condition of y
	markNear      = 'j' // the condition of y - 4
	markImm       = 'n' // Imm in digits
	markWay       = 'e' // Imm with its sign
	markBit       = 'v' // y in digits
	markPlace     = 't' // 8 times y in digits
	markShift     = 'r' // the shift of y
	markOperation = 'a' // the operation of y
)

var shifts = [8]string{"RLC ", "RRC ", "RL ", "RR ", "SLA ", "SRA ", "SLL ", "SRL "}

var operations = [8]string{"ADD A,", "ADC A,", "SUB ", "SBC A,", "AND ", "XOR ", "OR ", "CP "}

// patternOf answers the pattern of an instruction whose text isn't its bytes.
func patternOf(i api.Ins) string {
	switch x, _, z, _, _ := decode.Parts(i.Op); {
	case i.Set == api.SetBits:
		return [4]string{"rz", "BIT v,z", "RES v,z", "SET v,z"}[x]
	case i.Set == api.SetBoth && z == codeMemory:
		return [4]string{"rm", "BIT v,m", "RES v,m", "SET v,m"}[x]
	case i.Set == api.SetBoth:
		return [4]string{"rm,z", "", "RES v,m,z", "SET v,m,z"}[x]
	case i.Set == api.SetMore:
		return patternOfMore(i.Op)
	default:
		return patternOfMain(i.Op)
	}
}

func patternOfMain(op int) string {
	const halt = 0x76
	switch x, _, _, _, _ := decode.Parts(op); {
	case x == 0:
		return patternOfLow(op)
	case op == halt:
		return "HALT"
	case x == 1:
		return "LD y,z"
	case x == 2:
		return "az"
	default:
		return patternOfHigh(op)
	}
}

func patternOfLow(op int) string {
	switch _, y, z, _, q := decode.Parts(op); z {
	case 0:
		return [8]string{"NOP", "EX AF,AF'", "DJNZ e", "JR e", "JR j,e", "JR j,e", "JR j,e", "JR j,e"}[y]
	case 1:
		return [2]string{"LD s,n", "ADD h,s"}[q]
	case 2:
		return [8]string{"LD (BC),A", "LD A,(BC)", "LD (DE),A", "LD A,(DE)", "LD (n),h", "LD h,(n)", "LD (n),A", "LD A,(n)"}[y]
	case 3:
		return [2]string{"INC s", "DEC s"}[q]
	case 4:
		return "INC y"
	case 5:
		return "DEC y"
	case 6:
		return "LD y,n"
	default:
		return [8]string{"RLCA", "RRCA", "RLA", "RRA", "DAA", "CPL", "SCF", "CCF"}[y]
	}
}

// patternOfHigh has none for a byte that stands ahead of others: it is no
// operation, or a lone prefix, whose text is its byte.
func patternOfHigh(op int) string {
	switch _, y, z, _, q := decode.Parts(op); z {
	case 0:
		return "RET c"
	case 1:
		return [8]string{"POP k", "RET", "POP k", "EXX", "POP k", "JP (h)", "POP k", "LD SP,h"}[y]
	case 2:
		return "JP c,n"
	case 3:
		return [8]string{"JP n", "", "OUT (n),A", "IN A,(n)", "EX (SP),h", "EX DE,HL", "DI", "EI"}[y]
	case 4:
		return "CALL c,n"
	case 5:
		return [2]string{"PUSH k", "CALL n"}[q]
	case 6:
		return "an"
	default:
		return "RST t"
	}
}

// patternOfMore has none of their own for those that do nothing, or have a twin.
func patternOfMore(op int) string {
	switch x, y, z, _, q := decode.Parts(op); {
	case x == 2:
		return patternOfBlock(op)
	case z == 0 && y == codeMemory:
		return "IN F,(C)"
	case z == 0:
		return "IN y,(C)"
	case z == 1 && y == codeMemory:
		return "OUT (C),0"
	case z == 1:
		return "OUT (C),y"
	case z == 2:
		return [2]string{"SBC h,s", "ADC h,s"}[q]
	case z == 3:
		return [2]string{"LD (n),s", "LD s,(n)"}[q]
	case z == 4:
		return "NEG"
	case z == 5:
		return [2]string{"RETN", "RETI"}[q]
	case z == 6:
		return [4]string{"IM 0", "", "IM 1", "IM 2"}[y%4]
	default:
		return [8]string{"LD I,A", "LD R,A", "LD A,I", "LD A,R", "RRD", "RLD"}[y]
	}
}

// patternOfBlock answers the pattern of one of those that move, find, take in or give out.
func patternOfBlock(op int) string {
	_, y, z, _, _ := decode.Parts(op)
	return [4][4]string{
		{"LDI", "LDD", "LDIR", "LDDR"},
		{"CPI", "CPD", "CPIR", "CPDR"},
		{"INI", "IND", "INIR", "INDR"},
		{"OUTI", "OUTD", "OTIR", "OTDR"},
	}[z%4][y%4]
}
