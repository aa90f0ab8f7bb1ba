package text_test

import (
	"strconv"
	"strings"

	"pendulum/api"
	"pendulum/decode"
)

// What the chapter says, written out operation by operation: n stands for Imm
// in digits, e for Imm with its sign, d for Disp with its sign. What isn't here
// is told by its bytes.
const plainTexts = `
00 NOP; 01 LD BC,n; 02 LD (BC),A; 03 INC BC; 04 INC B; 05 DEC B; 06 LD B,n; 07 RLCA
08 EX AF,AF'; 09 ADD HL,BC; 0a LD A,(BC); 0b DEC BC; 0c INC C; 0d DEC C; 0e LD C,n; 0f RRCA
10 DJNZ e; 11 LD DE,n; 12 LD (DE),A; 13 INC DE; 14 INC D; 15 DEC D; 16 LD D,n; 17 RLA
18 JR e; 19 ADD HL,DE; 1a LD A,(DE); 1b DEC DE; 1c INC E; 1d DEC E; 1e LD E,n; 1f RRA
20 JR NZ,e; 21 LD HL,n; 22 LD (n),HL; 23 INC HL; 24 INC H; 25 DEC H; 26 LD H,n; 27 DAA
28 JR Z,e; 29 ADD HL,HL; 2a LD HL,(n); 2b DEC HL; 2c INC L; 2d DEC L; 2e LD L,n; 2f CPL
30 JR NC,e; 31 LD SP,n; 32 LD (n),A; 33 INC SP; 34 INC (HL); 35 DEC (HL); 36 LD (HL),n; 37 SCF
38 JR C,e; 39 ADD HL,SP; 3a LD A,(n); 3b DEC SP; 3c INC A; 3d DEC A; 3e LD A,n; 3f CCF
40 LD B,B; 41 LD B,C; 42 LD B,D; 43 LD B,E; 44 LD B,H; 45 LD B,L; 46 LD B,(HL); 47 LD B,A
48 LD C,B; 49 LD C,C; 4a LD C,D; 4b LD C,E; 4c LD C,H; 4d LD C,L; 4e LD C,(HL); 4f LD C,A
50 LD D,B; 51 LD D,C; 52 LD D,D; 53 LD D,E; 54 LD D,H; 55 LD D,L; 56 LD D,(HL); 57 LD D,A
58 LD E,B; 59 LD E,C; 5a LD E,D; 5b LD E,E; 5c LD E,H; 5d LD E,L; 5e LD E,(HL); 5f LD E,A
60 LD H,B; 61 LD H,C; 62 LD H,D; 63 LD H,E; 64 LD H,H; 65 LD H,L; 66 LD H,(HL); 67 LD H,A
68 LD L,B; 69 LD L,C; 6a LD L,D; 6b LD L,E; 6c LD L,H; 6d LD L,L; 6e LD L,(HL); 6f LD L,A
70 LD (HL),B; 71 LD (HL),C; 72 LD (HL),D; 73 LD (HL),E; 74 LD (HL),H; 75 LD (HL),L; 76 HALT; 77 LD (HL),A
78 LD A,B; 79 LD A,C; 7a LD A,D; 7b LD A,E; 7c LD A,H; 7d LD A,L; 7e LD A,(HL); 7f LD A,A
80 ADD A,B; 81 ADD A,C; 82 ADD A,D; 83 ADD A,E; 84 ADD A,H; 85 ADD A,L; 86 ADD A,(HL); 87 ADD A,A
88 ADC A,B; 89 ADC A,C; 8a ADC A,D; 8b ADC A,E; 8c ADC A,H; 8d ADC A,L; 8e ADC A,(HL); 8f ADC A,A
90 SUB B; 91 SUB C; 92 SUB D; 93 SUB E; 94 SUB H; 95 SUB L; 96 SUB (HL); 97 SUB A
98 SBC A,B; 99 SBC A,C; 9a SBC A,D; 9b SBC A,E; 9c SBC A,H; 9d SBC A,L; 9e SBC A,(HL); 9f SBC A,A
a0 AND B; a1 AND C; a2 AND D; a3 AND E; a4 AND H; a5 AND L; a6 AND (HL); a7 AND A
a8 XOR B; a9 XOR C; aa XOR D; ab XOR E; ac XOR H; ad XOR L; ae XOR (HL); af XOR A
b0 OR B; b1 OR C; b2 OR D; b3 OR E; b4 OR H; b5 OR L; b6 OR (HL); b7 OR A
b8 CP B; b9 CP C; ba CP D; bb CP E; bc CP H; bd CP L; be CP (HL); bf CP A
c0 RET NZ; c1 POP BC; c2 JP NZ,n; c3 JP n; c4 CALL NZ,n; c5 PUSH BC; c6 ADD A,n; c7 RST 0
c8 RET Z; c9 RET; ca JP Z,n; cc CALL Z,n; cd CALL n; ce ADC A,n; cf RST 8
d0 RET NC; d1 POP DE; d2 JP NC,n; d3 OUT (n),A; d4 CALL NC,n; d5 PUSH DE; d6 SUB n; d7 RST 16
d8 RET C; d9 EXX; da JP C,n; db IN A,(n); dc CALL C,n; de SBC A,n; df RST 24
e0 RET PO; e1 POP HL; e2 JP PO,n; e3 EX (SP),HL; e4 CALL PO,n; e5 PUSH HL; e6 AND n; e7 RST 32
e8 RET PE; e9 JP (HL); ea JP PE,n; eb EX DE,HL; ec CALL PE,n; ee XOR n; ef RST 40
f0 RET P; f1 POP AF; f2 JP P,n; f3 DI; f4 CALL P,n; f5 PUSH AF; f6 OR n; f7 RST 48
f8 RET M; f9 LD SP,HL; fa JP M,n; fb EI; fc CALL M,n; fe CP n; ff RST 56`

// indexedTexts are those by IX; by IY they are the same with IY.
const indexedTexts = `
09 ADD IX,BC; 19 ADD IX,DE; 29 ADD IX,IX; 39 ADD IX,SP
21 LD IX,n; 22 LD (n),IX; 2a LD IX,(n); 23 INC IX; 2b DEC IX
24 INC IXH; 25 DEC IXH; 26 LD IXH,n; 2c INC IXL; 2d DEC IXL; 2e LD IXL,n
34 INC (IXd); 35 DEC (IXd); 36 LD (IXd),n
44 LD B,IXH; 45 LD B,IXL; 46 LD B,(IXd); 4c LD C,IXH; 4d LD C,IXL; 4e LD C,(IXd)
54 LD D,IXH; 55 LD D,IXL; 56 LD D,(IXd); 5c LD E,IXH; 5d LD E,IXL; 5e LD E,(IXd)
60 LD IXH,B; 61 LD IXH,C; 62 LD IXH,D; 63 LD IXH,E; 64 LD IXH,IXH; 65 LD IXH,IXL; 66 LD H,(IXd); 67 LD IXH,A
68 LD IXL,B; 69 LD IXL,C; 6a LD IXL,D; 6b LD IXL,E; 6c LD IXL,IXH; 6d LD IXL,IXL; 6e LD L,(IXd); 6f LD IXL,A
70 LD (IXd),B; 71 LD (IXd),C; 72 LD (IXd),D; 73 LD (IXd),E; 74 LD (IXd),H; 75 LD (IXd),L; 77 LD (IXd),A
7c LD A,IXH; 7d LD A,IXL; 7e LD A,(IXd)
84 ADD A,IXH; 85 ADD A,IXL; 86 ADD A,(IXd); 8c ADC A,IXH; 8d ADC A,IXL; 8e ADC A,(IXd)
94 SUB IXH; 95 SUB IXL; 96 SUB (IXd); 9c SBC A,IXH; 9d SBC A,IXL; 9e SBC A,(IXd)
a4 AND IXH; a5 AND IXL; a6 AND (IXd); ac XOR IXH; ad XOR IXL; ae XOR (IXd)
b4 OR IXH; b5 OR IXL; b6 OR (IXd); bc CP IXH; bd CP IXL; be CP (IXd)
e1 POP IX; e3 EX (SP),IX; e5 PUSH IX; e9 JP (IX); f9 LD SP,IX`

const moreTexts = `
40 IN B,(C); 41 OUT (C),B; 42 SBC HL,BC; 43 LD (n),BC; 44 NEG; 45 RETN; 46 IM 0; 47 LD I,A
48 IN C,(C); 49 OUT (C),C; 4a ADC HL,BC; 4b LD BC,(n); 4d RETI; 4f LD R,A
50 IN D,(C); 51 OUT (C),D; 52 SBC HL,DE; 53 LD (n),DE; 56 IM 1; 57 LD A,I
58 IN E,(C); 59 OUT (C),E; 5a ADC HL,DE; 5b LD DE,(n); 5e IM 2; 5f LD A,R
60 IN H,(C); 61 OUT (C),H; 62 SBC HL,HL; 67 RRD
68 IN L,(C); 69 OUT (C),L; 6a ADC HL,HL; 6f RLD
70 IN F,(C); 71 OUT (C),0; 72 SBC HL,SP; 73 LD (n),SP
78 IN A,(C); 79 OUT (C),A; 7a ADC HL,SP; 7b LD SP,(n)
a0 LDI; a1 CPI; a2 INI; a3 OUTI; a8 LDD; a9 CPD; aa IND; ab OUTD
b0 LDIR; b1 CPIR; b2 INIR; b3 OTIR; b8 LDDR; b9 CPDR; ba INDR; bb OTDR`

// texts has for each set and index the texts of the operations.
var texts = [4][3]map[int]string{
	api.SetMain: {listed(plainTexts), listed(indexedTexts), listed(strings.ReplaceAll(indexedTexts, "IX", "IY"))},
	api.SetBits: {bitTexts()},
	api.SetMore: {listed(moreTexts)},
	api.SetBoth: {nil, bothTexts("(IXd)"), bothTexts("(IYd)")},
}

func listed(list string) map[int]string {
	byOp := map[int]string{}
	for _, one := range strings.FieldsFunc(list, func(c rune) bool { return c == ';' || c == '\n' }) {
		digits, s, _ := strings.Cut(strings.TrimSpace(one), " ")
		op, err := strconv.ParseUint(digits, 16, 8)
		if err != nil || byOp[int(op)] != "" {
			panic(one)
		}
		byOp[int(op)] = s
	}
	return byOp
}

var bytesOfBits = strings.Fields("B C D E H L (HL) A")

// namesOfBits are all that is done to bytes and their bits, in the order of the operations.
func namesOfBits() []string {
	names := strings.Split("RLC RRC RL RR SLA SRA SLL SRL", " ")
	for _, what := range []string{"BIT", "RES", "SET"} {
		for bit := range 8 {
			names = append(names, what+" "+strconv.Itoa(bit)+",")
		}
	}
	for n := range 8 {
		names[n] += " "
	}
	return names
}

func bitTexts() map[int]string {
	byOp := map[int]string{}
	for n, name := range namesOfBits() {
		for z, of := range bytesOfBits {
			byOp[8*n+z] = name + of
		}
	}
	return byOp
}

func bothTexts(memory string) map[int]string {
	byOp := map[int]string{}
	for n, name := range namesOfBits() {
		for z, of := range bytesOfBits {
			switch {
			case z == 6:
				byOp[8*n+z] = name + memory
			case !strings.HasPrefix(name, "BIT"):
				byOp[8*n+z] = name + memory + "," + of
			}
		}
	}
	return byOp
}

// want is what Of should answer of one that may be.
func want(i api.Ins) string {
	s := texts[i.Set][i.Index][i.Op]
	if s == "" {
		b, _ := decode.Bytes(i)
		return digitsOf(b)
	}
	return strings.NewReplacer("n", strconv.Itoa(i.Imm), "e", signed(i.Imm), "d", signed(i.Disp)).Replace(s)
}

// withoutOperands answers one of texts with nothing in the place of operands.
func withoutOperands(s string) string {
	return strings.NewReplacer("n", "", "e", "", "d", "").Replace(s)
}

func digitsOf(b []byte) string {
	var words []string
	for _, c := range b {
		words = append(words, strconv.Itoa(int(c)))
	}
	return "DB " + strings.Join(words, ",")
}

func signed(v int) string {
	if v < 0 {
		return strconv.Itoa(v)
	}
	return "+" + strconv.Itoa(v)
}

// eachOperation goes over all operations that there are, their operands 0.
func eachOperation(yield func(i api.Ins) bool) {
	for _, ahead := range []string{"", "\xcb", "\xed", "\xdd", "\xfd", "\xdd\xcb\x00", "\xfd\xcb\x00"} {
		for op := range 256 {
			i, err := decode.Of(append([]byte(ahead), byte(op), 0, 0))
			if err != api.OK {
				panic(err)
			}
			another := i.Op != op || i.Set == api.SetMain && (len(ahead) == 0) != (i.Index == 0)
			if !another && !yield(i) {
				return
			}
		}
	}
	for _, prefix := range []int{0xdd, 0xfd} {
		if !yield(api.Ins{Op: prefix, Len: 1}) {
			return
		}
	}
}

// numbers are at the bounds of operands, and between.
var numbers = []int{-129, -128, -127, -100, -99, -10, -9, -2, -1, 0, 1, 5, 9, 10, 99, 100, 126, 127, 128, 129, 203, 221, 237,
	253, 254, 255, 256, 257, 513, 999, 1000, 4660, 9999, 10000, 0x7fff, 0x8000, 0xdded, 65534, 65535, 65536}

// eachInstruction goes over all operations, each with operands at their bounds and between.
func eachInstruction(yield func(i api.Ins) bool) {
	for i := range eachOperation {
		for _, i.Disp = range numbers {
			for _, i.Imm = range numbers {
				if decode.Check(i) == api.OK && !yield(i) {
					return
				}
			}
		}
	}
}
