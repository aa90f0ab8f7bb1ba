package step_test

import (
	"strconv"
	"strings"

	"pendulum/alu"
	"pendulum/api"
	"pendulum/decode"
	"pendulum/shift"
	"pendulum/text"
	"pendulum/wide"
)

// model does what the chapter says of an instruction by its text, word by word,
// and tells what it asked for.
type model struct {
	r     api.Regs
	asked []api.Req
	got   []byte
	own   []byte // the instruction's bytes that are left
	world func(q api.Req) byte
	ins   api.Ins
	at    uint16 // where the index and Disp tell
	imm   uint16
}

func (m *model) ask(kind int, at uint16, v byte, long int) byte {
	q := api.Req{Kind: kind, Addr: at, Value: v, T: long}
	m.asked = append(m.asked, q)
	came := m.world(q)
	m.got = append(m.got, came)
	return came
}

func (m *model) read(at uint16) byte     { return m.ask(api.ReqRead, at, 0, 3) }
func (m *model) write(at uint16, v byte) { m.ask(api.ReqWrite, at, v, 3) }
func (m *model) idle(count int)          { m.ask(api.ReqIdle, 0, 0, count) }

// next takes the instruction's next byte, by a fetch or a read.
func (m *model) next(kind, long int) byte {
	m.asked = append(m.asked, api.Req{Kind: kind, Addr: m.r.PC, T: long})
	v := m.own[0]
	m.got, m.own = append(m.got, v), m.own[1:]
	m.r.PC++
	if kind == api.ReqFetch {
		m.r.R = refreshed(m.r.R, 1)
	}
	return v
}

// modelled runs the instruction that b is.
func modelled(r api.Regs, i api.Ins, b []byte, world func(q api.Req) byte) *model {
	m := &model{r: r, own: b, world: world, ins: i}
	m.r.Late = false
	same := plainOne(i)
	name, operands := wordsOf(same)
	m.readAhead(name)
	if name != "DB" {
		m.do(name, operands)
	}
	return m
}

// plainOne answers an instruction that does the same, and has a text of its
// own, if there is one.
func plainOne(i api.Ins) api.Ins {
	same := decode.Twin(i)
	if same.Set == api.SetBoth && same.Op/64 == 1 {
		same.Op = same.Op/8*8 + 6
	}
	if s, _ := text.Of(same); same.Set == api.SetMain && same.Index != 0 && strings.HasPrefix(s, "DB ") {
		same.Index = 0
		same.Len--
	}
	return same
}

func wordsOf(i api.Ins) (name string, operands []string) {
	s, err := text.Of(i)
	if err != api.OK {
		panic(err)
	}
	name, rest, _ := strings.Cut(s, " ")
	return name, append(strings.Split(rest, ","), "", "", "")
}

// readAhead reads all bytes of the instruction, and tells what its Disp and Imm are.
func (m *model) readAhead(name string) {
	m.next(api.ReqFetch, 4)
	if m.ins.Set != api.SetMain || m.ins.Index != 0 {
		m.next(api.ReqFetch, 4)
	}
	if name == "DJNZ" {
		m.idle(1)
	}
	disp, _ := decode.Needs(m.ins.Set, m.ins.Index, m.ins.Op)
	if disp {
		m.at = uint16(int(m.word([]string{"", "IX", "IY"}[m.ins.Index])) + int(int8(m.next(api.ReqRead, 3))))
		m.r.WZ = m.at
	}
	for n := 0; len(m.own) > 0; n++ {
		m.imm += uint16(m.next(api.ReqRead, 3)) << (8 * n)
	}
	switch {
	case m.ins.Set == api.SetBoth || disp && m.ins.Op == 0x36:
		m.idle(2)
	case disp:
		m.idle(5)
	}
}

func (m *model) word(name string) uint16 {
	if p, is := pairs(&m.r)[name]; is {
		return uint16(*p[0])*256 + uint16(*p[1])
	}
	_, words, _ := registers(&m.r)
	return *words[name]
}

func (m *model) setWord(name string, v uint16) {
	if p, is := pairs(&m.r)[name]; is {
		*p[0], *p[1] = byte(v/256), byte(v%256)
		return
	}
	_, words, _ := registers(&m.r)
	*words[name] = v
}

func isWord(name string) bool {
	return strings.Contains(" AF BC DE HL IX IY SP ", " "+name+" ")
}

// place answers where an operand in brackets stands.
func (m *model) place(operand string) uint16 {
	switch inside := strings.Trim(operand, "()"); {
	case isWord(inside):
		return m.word(inside)
	case inside[0] == 'I':
		return m.at
	default:
		return m.imm
	}
}

func inMemory(operand string) bool {
	return strings.HasPrefix(operand, "(") && operand != "(C)"
}

func isNumber(operand string) bool {
	_, err := strconv.Atoi(operand)
	return err == nil
}

// half answers IXH's and its like's word, and whether it is the high byte.
func half(name string) (word string, high, is bool) {
	if len(name) != 3 || name[0] != 'I' {
		return "", false, false
	}
	return name[:2], name[2] == 'H', true
}

func (m *model) value(operand string) byte {
	if word, high, is := half(operand); is {
		if v := m.word(word); high {
			return byte(v / 256)
		} else {
			return byte(v % 256)
		}
	}
	if inMemory(operand) {
		return m.read(m.place(operand))
	}
	if isNumber(operand) {
		return byte(m.imm)
	}
	singles, _, _ := registers(&m.r)
	return *singles[operand]
}

func (m *model) set(operand string, v byte) {
	if word, high, is := half(operand); is {
		if old := m.word(word); high {
			m.setWord(word, uint16(v)*256+old%256)
		} else {
			m.setWord(word, old/256*256+uint16(v))
		}
		return
	}
	if inMemory(operand) {
		m.write(m.place(operand), v)
		return
	}
	singles, _, _ := registers(&m.r)
	*singles[operand] = v
}

func (m *model) flag(which byte) bool { return m.r.F/which%2 == 1 }

// holds answers whether a condition does; none always does.
func (m *model) holds(condition string) bool {
	switch condition {
	case "NZ":
		return !m.flag(64)
	case "Z":
		return m.flag(64)
	case "NC":
		return !m.flag(1)
	case "C":
		return m.flag(1)
	case "PO":
		return !m.flag(4)
	case "PE":
		return m.flag(4)
	case "P":
		return !m.flag(128)
	case "M":
		return m.flag(128)
	}
	return true
}

func (m *model) push(v uint16) {
	m.r.SP--
	m.write(m.r.SP, byte(v/256))
	m.r.SP--
	m.write(m.r.SP, byte(v%256))
}

func (m *model) pop() uint16 {
	low := uint16(m.read(m.r.SP))
	m.r.SP++
	high := uint16(m.read(m.r.SP))
	m.r.SP++
	return high*256 + low
}

func (m *model) do(name string, o []string) {
	switch name {
	case "LD":
		m.load(o[0], o[1])
	case "INC", "DEC":
		m.count(o[0], map[string]int{"INC": 1, "DEC": -1}[name])
	case "ADD", "ADC", "SUB", "SBC", "AND", "XOR", "OR", "CP":
		m.operate(name, o)
	case "RLC", "RRC", "RL", "RR", "SLA", "SRA", "SLL", "SRL":
		m.bits(o[0], o[1], func(v byte) byte {
			op := strings.Index("RLC RRC RL  RR  SLA SRA SLL SRL ", (name + "   ")[:4]) / 4
			v, m.r.F = shift.Shift(op, v, m.r.F)
			return v
		})
	case "RES":
		m.bits(o[1], o[2], func(v byte) byte { return v &^ (1 << (o[0][0] - '0')) })
	case "BIT", "SET":
		m.oneBit(name, int(o[0][0]-'0'), o[1], o[2])
	case "RLCA", "RRCA", "RLA", "RRA", "DAA", "CPL", "SCF", "CCF", "NEG":
		m.accumulate(name)
	case "JP", "JR", "DJNZ", "CALL", "RET", "RETN", "RETI", "RST":
		m.jump(name, o)
	case "PUSH":
		m.idle(1)
		m.push(m.word(o[0]))
	case "POP":
		m.setWord(o[0], m.pop())
	case "EX", "EXX":
		m.exchange(name, o)
	case "HALT":
		m.r.Halt = true
	case "DI", "EI":
		m.r.IFF1, m.r.IFF2, m.r.Late = name == "EI", name == "EI", name == "EI"
	case "IM":
		m.r.IM = int(o[0][0] - '0')
	case "IN", "OUT":
		m.port(name, o)
	case "RLD", "RRD":
		m.roll(name)
	case "NOP":
	default:
		m.block(name[:2], strings.Contains(name[2:], "D"), strings.HasSuffix(name, "R"))
	}
}

func (m *model) load(to, from string) {
	switch {
	case inMemory(to) && isWord(from):
		m.write(m.imm, byte(m.word(from)%256))
		m.write(m.imm+1, byte(m.word(from)/256))
		m.r.WZ = m.imm + 1
	case isWord(to) && inMemory(from):
		low := uint16(m.read(m.imm))
		m.setWord(to, uint16(m.read(m.imm+1))*256+low)
		m.r.WZ = m.imm + 1
	case isWord(to) && isWord(from):
		m.idle(2)
		m.setWord(to, m.word(from))
	case isWord(to):
		m.setWord(to, m.imm)
	case to == "I" || to == "R":
		m.idle(1)
		m.set(to, m.r.A)
	case from == "I" || from == "R":
		m.idle(1)
		m.set("A", m.value(from))
		m.r.F = alu.Own(m.r.A) + m.r.F%2
		if m.r.IFF2 {
			m.r.F += 4
		}
	default:
		m.set(to, m.value(from))
		m.afterA(to, from)
	}
}

// afterA lets WZ be what it is behind A was moved by other addresses than HL's.
func (m *model) afterA(to, from string) {
	others := func(operand string) bool {
		return inMemory(operand) && !strings.HasPrefix(operand, "(HL") && !strings.HasPrefix(operand, "(I")
	}
	switch {
	case others(to):
		m.r.WZ = uint16(m.r.A)*256 + (m.place(to)+1)%256
	case others(from):
		m.r.WZ = m.place(from) + 1
	}
}

func (m *model) count(operand string, by int) {
	if isWord(operand) {
		m.idle(2)
		m.setWord(operand, uint16(int(m.word(operand))+by))
		return
	}
	v := m.value(operand)
	if inMemory(operand) {
		m.idle(1)
	}
	if by > 0 {
		v, m.r.F = alu.Inc(v, m.r.F)
	} else {
		v, m.r.F = alu.Dec(v, m.r.F)
	}
	m.set(operand, v)
}

func (m *model) operate(name string, o []string) {
	if isWord(o[0]) {
		m.idle(7)
		do := map[string]func(a, b uint16, f byte) (uint16, byte){"ADD": wide.Add, "ADC": wide.Adc, "SBC": wide.Sbc}[name]
		m.r.WZ = m.word(o[0]) + 1
		v, f := do(m.word(o[0]), m.word(o[1]), m.r.F)
		m.setWord(o[0], v)
		m.r.F = f
		return
	}
	from := o[0]
	if o[1] != "" {
		from = o[1]
	}
	a, v, c := m.r.A, m.value(from), m.flag(1)
	switch name {
	case "ADD":
		m.r.A, m.r.F = alu.Add(a, v, false)
	case "ADC":
		m.r.A, m.r.F = alu.Add(a, v, c)
	case "SUB":
		m.r.A, m.r.F = alu.Sub(a, v, false)
	case "SBC":
		m.r.A, m.r.F = alu.Sub(a, v, c)
	case "AND":
		m.r.A, m.r.F = alu.And(a, v)
	case "XOR":
		m.r.A, m.r.F = alu.Xor(a, v)
	case "OR":
		m.r.A, m.r.F = alu.Or(a, v)
	case "CP":
		m.r.F = alu.Cp(a, v)
	}
}

// bits changes an operand, and puts it to another, too, if one is told.
func (m *model) bits(operand, too string, change func(v byte) byte) {
	v := m.value(operand)
	if inMemory(operand) {
		m.idle(1)
	}
	v = change(v)
	m.set(operand, v)
	if too != "" {
		m.set(too, v)
	}
}

func (m *model) oneBit(name string, n int, operand, too string) {
	if name == "SET" {
		m.bits(operand, too, func(v byte) byte { return v | 1<<n })
		return
	}
	v := m.value(operand)
	from := v
	if inMemory(operand) {
		m.idle(1)
		from = byte(m.r.WZ / 256)
	}
	m.r.F = shift.Bit(n, v, from, m.r.F)
}

func (m *model) accumulate(name string) {
	a, f := m.r.A, m.r.F
	switch name {
	case "RLCA":
		m.r.A, m.r.F = shift.Turn(0, a, f)
	case "RRCA":
		m.r.A, m.r.F = shift.Turn(1, a, f)
	case "RLA":
		m.r.A, m.r.F = shift.Turn(2, a, f)
	case "RRA":
		m.r.A, m.r.F = shift.Turn(3, a, f)
	case "DAA":
		m.r.A, m.r.F = shift.Daa(a, f)
	case "CPL":
		m.r.A, m.r.F = shift.Cpl(a, f)
	case "SCF":
		m.r.F = shift.Scf(a, f)
	case "CCF":
		m.r.F = shift.Ccf(a, f)
	case "NEG":
		m.r.A, m.r.F = alu.Neg(a)
	}
}

// jump does all that changes PC.
func (m *model) jump(name string, o []string) {
	is := o[1] == "" || m.holds(o[0])
	switch name {
	case "JP":
		if inMemory(o[0]) {
			m.r.PC = m.place(o[0])
			return
		}
		m.r.WZ = m.imm
		if is {
			m.r.PC = m.imm
		}
	case "JR", "DJNZ":
		if name == "DJNZ" {
			m.r.B--
			is = m.r.B != 0
		}
		if is {
			m.idle(5)
			m.r.PC += uint16(int(int8(m.imm)))
			m.r.WZ = m.r.PC
		}
	case "CALL":
		m.r.WZ = m.imm
		if is {
			m.idle(1)
			m.push(m.r.PC)
			m.r.PC = m.imm
		}
	case "RST":
		m.idle(1)
		m.push(m.r.PC)
		to, _ := strconv.Atoi(o[0])
		m.r.PC, m.r.WZ = uint16(to), uint16(to)
	default:
		if name == "RET" && o[0] != "" {
			m.idle(1)
		}
		if name != "RET" {
			m.r.IFF1 = m.r.IFF2
		}
		if m.holds(o[0]) {
			m.r.PC = m.pop()
			m.r.WZ = m.r.PC
		}
	}
}

func (m *model) exchange(name string, o []string) {
	var put []string
	switch {
	case name == "EXX":
		put = []string{"BC", "BC2", "DE", "DE2", "HL", "HL2"}
	case o[0] == "AF":
		put = []string{"AF", "AF2"}
	case o[0] == "DE":
		put = []string{"DE", "HL"}
	default:
		sp, v := m.r.SP, m.word(o[1])
		low := uint16(m.read(sp))
		m.setWord(o[1], uint16(m.read(sp+1))*256+low)
		m.idle(1)
		m.write(sp+1, byte(v/256))
		m.write(sp, byte(v%256))
		m.idle(2)
		m.r.WZ = m.word(o[1])
	}
	for ; len(put) > 0; put = put[2:] {
		one, other := m.word(put[0]), m.word(put[1])
		m.setWord(put[0], other)
		m.setWord(put[1], one)
	}
}

func (m *model) port(name string, o []string) {
	port := m.word("BC")
	a := uint16(m.r.A)
	if inMemory(o[0]) || inMemory(o[1]) {
		port = a*256 + m.imm
	}
	switch {
	case name == "IN" && o[1] == "(C)":
		v := m.ask(api.ReqIn, port, 0, 4)
		m.r.WZ = port + 1
		f := alu.Own(v) + m.r.F%2
		if alu.Parity(v) {
			f += 4
		}
		m.set(o[0], v)
		m.r.F = f
	case name == "IN":
		m.r.A = m.ask(api.ReqIn, port, 0, 4)
		m.r.WZ = port + 1
	case o[1] == "0":
		m.ask(api.ReqOut, port, 0, 4)
		m.r.WZ = port + 1
	default:
		m.ask(api.ReqOut, port, m.value(o[1]), 4)
		m.r.WZ = port + 1
		if inMemory(o[0]) {
			m.r.WZ = a*256 + (m.imm+1)%256
		}
	}
}

func (m *model) roll(name string) {
	hl := m.word("HL")
	v := m.read(hl)
	m.idle(4)
	if name == "RLD" {
		m.r.A, v, m.r.F = shift.Rld(m.r.A, v, m.r.F)
	} else {
		m.r.A, v, m.r.F = shift.Rrd(m.r.A, v, m.r.F)
	}
	m.write(hl, v)
	m.r.WZ = hl + 1
}

// block does one of those that go through memory, down or up.
func (m *model) block(what string, down, repeats bool) {
	by := 1
	if down {
		by = -1
	}
	plus := func(name string, n int) uint16 {
		v := uint16(int(m.word(name)) + n)
		m.setWord(name, v)
		return v
	}
	var over bool
	switch what {
	case "LD":
		v := m.read(m.word("HL"))
		m.write(m.word("DE"), v)
		m.idle(2)
		plus("HL", by)
		plus("DE", by)
		left := plus("BC", -1)
		m.r.F = wide.Move(m.r.A, v, left, m.r.F)
		over = left == 0
	case "CP":
		v := m.read(m.word("HL"))
		m.idle(5)
		plus("HL", by)
		plus("WZ", by)
		left := plus("BC", -1)
		m.r.F = wide.Find(m.r.A, v, left, m.r.F)
		over = left == 0 || v == m.r.A
	case "IN":
		m.idle(1)
		v := m.ask(api.ReqIn, m.word("BC"), 0, 4)
		m.r.WZ = uint16(int(m.word("BC")) + by)
		left := plus("BC", -256) / 256
		m.write(m.word("HL"), v)
		plus("HL", by)
		m.r.F = wide.Port(v, byte(left), byte(int(m.r.C)+by))
		over = left == 0
	default:
		m.idle(1)
		v := m.read(m.word("HL"))
		plus("HL", by)
		left := plus("BC", -256) / 256
		m.ask(api.ReqOut, m.word("BC"), v, 4)
		m.r.WZ = uint16(int(m.word("BC")) + by)
		m.r.F = wide.Port(v, byte(left), m.r.L)
		over = left == 0
	}
	if repeats && !over {
		m.idle(5)
		m.r.PC -= 2
		m.r.WZ = m.r.PC + 1
	}
}
