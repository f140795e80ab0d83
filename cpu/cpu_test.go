package cpu_test

import (
	"math"
	"math/big"
	"math/rand/v2"
	"slices"
	"strings"
	"testing"

	"bulkhead/api"
	"bulkhead/cpu"
	"bulkhead/isa"
)

const (
	top    = math.MaxInt64
	bottom = math.MinInt64
)

type registers = [api.Regs]int64

// read is code by its lines.
func read(t *testing.T, lines ...string) []api.Instr {
	t.Helper()
	code := make([]api.Instr, len(lines))
	for i, line := range lines {
		x, err := isa.Read(line)
		if err != api.OK {
			t.Fatalf("isa.Read(%q): %d", line, err)
		}
		code[i] = x
	}
	return code
}

// padded is code of n instructions with x at pc; the others are illegal, so that a step beside x shows.
func padded(x api.Instr, pc, n int) []api.Instr {
	code := make([]api.Instr, n)
	code[pc] = x
	return code
}

// unlike is registers of which no two have the same word, and none has 0 or 1.
func unlike() registers {
	var r registers
	for i := range r {
		r[i] = 1000 + 7*int64(i)
	}
	return r
}

// with is registers that have some words changed: the register's number, and the word, in turn.
func with(r registers, pairs ...int64) registers {
	for i := 0; i < len(pairs); i += 2 {
		r[pairs[i]] = pairs[i+1]
	}
	return r
}

// words is words at their edges, and some others.
func words() []int64 {
	list := []int64{bottom, bottom + 1, bottom + 2, -1 << 62, -1<<32 - 1, -1 << 32, -1<<32 + 1, math.MinInt32 - 1, math.MinInt32, -65, -64, -63, -7, -3}
	for x := int64(-2); x <= 5; x++ {
		list = append(list, x)
	}
	return append(list, 7, 62, 63, 64, 65, 127, 128, math.MaxInt32, 1<<31, math.MaxUint32, 1<<32, 1<<32+1, 1<<62, top-2, top-1, top, 0x0123456789abcdef, -0x0123456789abcdef)
}

// numbers is what Imm may hold, at its edges.
func numbers() []int32 {
	list := []int32{math.MinInt32, math.MinInt32 + 1, -1 << 16, -255}
	for x := int32(-4); x <= 9; x++ {
		list = append(list, x)
	}
	return append(list, 26, 27, 28, 29, 255, 1<<16, math.MaxInt32-1, math.MaxInt32)
}

// lengths is what fixed and pc may be asked with beside small lists.
func lengths() []int {
	list := []int{bottom, bottom + 1, -1 << 32, math.MinInt32}
	for x := -3; x <= 9; x++ {
		list = append(list, x)
	}
	return append(list, math.MaxInt32, 1<<32, 1<<32+1, top-1, top)
}

// wantStep asks for an effect, and that code and memory stay as they are, what lies ahead of them and in their spare room too.
func wantStep(t *testing.T, code []api.Instr, m []int64, fixed int, regs registers, pc int, want api.Effect) {
	t.Helper()
	mark := api.Instr{Op: 99, A: 98, B: 97, C: 96, Imm: 95}
	allCode := append(append([]api.Instr{mark, mark}, code...), mark, mark)
	allWords := append(append([]int64{-71, -72}, m...), -73, -74)
	keptCode, keptWords := slices.Clone(allCode), slices.Clone(allWords)
	got := cpu.Step(allCode[2:2+len(code)], allWords[2:2+len(m)], fixed, regs, pc)
	if got != want {
		t.Errorf("Step(%v, %v, %d, %v, %d) =\n%+v, want\n%+v", code, m, fixed, regs, pc, got, want)
	}
	if !slices.Equal(allCode, keptCode) || !slices.Equal(allWords, keptWords) {
		t.Errorf("Step(%v, %v, %d, %v, %d) changed the code to %v, the memory to %v", code, m, fixed, regs, pc, allCode, allWords)
	}
}

// inCode is a place brought in, in the chapter's words.
func inCode(place *big.Int, n int) int {
	if place.Sign() >= 0 && place.Cmp(big.NewInt(int64(n))) <= 0 {
		return int(place.Int64())
	}
	return n
}

// wrap is a number modulo 2^64, as a word with a sign.
func wrap(n *big.Int) int64 {
	return int64(new(big.Int).Mod(n, new(big.Int).Lsh(big.NewInt(1), 64)).Uint64())
}

// bare is a word as a number from 0 to 2^64 - 1.
func bare(w int64) *big.Int { return new(big.Int).SetUint64(uint64(w)) }

// bitwise puts two words together bit by bit.
func bitwise(b, c int64, bit func(x, y uint) bool) int64 {
	n := new(big.Int)
	for i := range 64 {
		if bit(bare(b).Bit(i), bare(c).Bit(i)) {
			n.SetBit(n, i, 1)
		}
	}
	return wrap(n)
}

func one(is bool) int64 {
	if is {
		return 1
	}
	return 0
}

// reckon is what an operation of three registers makes of b and c, by numbers that do not overflow.
func reckon(name string, b, c int64) int64 {
	x, y, n := big.NewInt(b), big.NewInt(c), new(big.Int)
	by := uint(new(big.Int).Mod(y, big.NewInt(64)).Uint64())
	switch name {
	case "add":
		return wrap(n.Add(x, y))
	case "sub":
		return wrap(n.Sub(x, y))
	case "mul":
		return wrap(n.Mul(x, y))
	case "div":
		return wrap(n.Div(x, y))
	case "mod":
		return wrap(n.Mod(x, y))
	case "and":
		return bitwise(b, c, func(x, y uint) bool { return x+y == 2 })
	case "or":
		return bitwise(b, c, func(x, y uint) bool { return x+y > 0 })
	case "xor":
		return bitwise(b, c, func(x, y uint) bool { return x != y })
	case "shl":
		return wrap(n.Lsh(x, by))
	case "shr":
		return wrap(n.Rsh(bare(b), by))
	case "sar":
		return wrap(n.Rsh(x, by))
	case "slt":
		return one(x.Cmp(y) < 0)
	case "sltu":
		return one(bare(b).Cmp(bare(c)) < 0)
	case "seq":
		return one(x.Cmp(y) == 0)
	}
	panic("no operation of three registers: " + name)
}

// expect is the effect of an instruction, read from the chapter's words a second time.
func expect(code []api.Instr, m []int64, fixed int, regs registers, pc int) api.Effect {
	e := api.Effect{Regs: regs}
	if pc < 0 || pc >= len(code) {
		e.PC, e.Fault = inCode(big.NewInt(int64(pc)), len(code)), api.FaultCode
		return e
	}
	e.PC = pc + 1
	x := code[pc]
	if !isa.Legal(x) {
		e.Fault = api.FaultIllegal
		return e
	}
	name, _ := isa.Name(x.Op)
	a, b, c, n := regs[x.A], regs[x.B], regs[x.C], big.NewInt(int64(x.Imm))
	sum := wrap(new(big.Int).Add(big.NewInt(b), n))
	there := sum >= 0 && sum < int64(len(m))
	switch name {
	case "nop":
	case "ldi":
		e.Regs[x.A] = n.Int64()
	case "ldh":
		high := new(big.Int).Lsh(n, 32)
		low := new(big.Int).Mod(bare(a), big.NewInt(1<<32))
		e.Regs[x.A] = wrap(high.Add(high, low))
	case "mov":
		e.Regs[x.A] = b
	case "ld":
		if !there {
			e.Fault = api.FaultMemory
		} else {
			e.Regs[x.A] = m[sum]
		}
	case "st":
		if !there || sum < int64(min(max(fixed, 0), len(m))) {
			e.Fault = api.FaultMemory
		} else {
			e.Store, e.Addr, e.Value = true, int(sum), a
		}
	case "addi":
		e.Regs[x.A] = sum
	case "jmp":
		e.PC = inCode(n, len(code))
	case "jz":
		if a == 0 {
			e.PC = inCode(n, len(code))
		}
	case "jnz":
		if a != 0 {
			e.PC = inCode(n, len(code))
		}
	case "jmr":
		e.PC = inCode(big.NewInt(a), len(code))
	case "call":
		e.Regs[14] = int64(pc) + 1
		e.PC = inCode(n, len(code))
	case "sys":
		if x.Imm < 1 || x.Imm > 27 {
			e.Fault = api.FaultService
		} else {
			e.Call = int(x.Imm)
		}
	default:
		if c == 0 && (name == "div" || name == "mod") {
			e.Fault = api.FaultDivide
		} else {
			e.Regs[x.A] = reckon(name, b, c)
		}
	}
	return e
}

// wantAsRead asks for the effect that the second reading tells.
func wantAsRead(t *testing.T, code []api.Instr, m []int64, fixed int, regs registers, pc int) {
	t.Helper()
	wantStep(t, code, m, fixed, regs, pc, expect(code, m, fixed, regs, pc))
}

func TestP6_1NoInstructionAtThePlace(t *testing.T) {
	regs := unlike()
	four := read(t, "nop", "nop", "nop", "nop")
	for _, c := range []struct {
		n, pc, want int
	}{
		{0, 0, 0}, {0, 1, 0}, {0, -1, 0}, {0, top, 0}, {0, bottom, 0},
		{1, 7, 1}, {1, 1, 1}, {1, 2, 1}, {1, -3, 1}, {1, -1, 1}, {1, top, 1}, {1, bottom, 1}, {1, 1 << 32, 1},
		{4, 4, 4}, {4, 5, 4}, {4, -1, 4}, {4, top, 4}, {4, bottom, 4}, {4, 1<<32 + 1, 4}, {4, -1 << 32, 4},
	} {
		wantStep(t, four[:c.n], []int64{4, 5}, 0, regs, c.pc, api.Effect{Regs: regs, PC: c.want, Fault: api.FaultCode})
	}
	if e := cpu.Step(nil, nil, 0, regs, 0); e != (api.Effect{Regs: regs, Fault: api.FaultCode}) {
		t.Errorf("Step of no code and no memory: %+v", e)
	}
	for n := range 5 {
		for _, pc := range lengths() {
			want := api.Effect{Regs: regs, PC: n, Fault: api.FaultCode}
			if pc >= 0 && pc < n {
				want = api.Effect{Regs: regs, PC: pc + 1}
			}
			wantStep(t, four[:n], nil, 0, regs, pc, want)
		}
	}
}

// illegal is instructions that are not legal: of no operation, with a register that is none, or with a field that the operation does not have.
func illegal(t *testing.T) []api.Instr {
	t.Helper()
	var list []api.Instr
	for op := range 256 {
		shape, ok := isa.Shape(byte(op))
		if !ok {
			list = append(list, api.Instr{Op: byte(op)}, api.Instr{Op: byte(op), A: 1, B: 2, C: 3, Imm: 4})
			continue
		}
		for i, letter := range "abc" {
			wrong := []byte{16, 17, 31, 32, 128, 255}
			if !strings.ContainsRune(shape, letter) {
				wrong = append(wrong, 1, 15)
			}
			for _, w := range wrong {
				x := api.Instr{Op: byte(op)}
				*[]*byte{&x.A, &x.B, &x.C}[i] = w
				list = append(list, x)
			}
		}
		if !strings.ContainsAny(shape, "np") {
			for _, imm := range []int32{1, -1, math.MaxInt32, math.MinInt32, 1 << 8, 1 << 16, 1 << 24} {
				list = append(list, api.Instr{Op: byte(op), Imm: imm})
			}
		}
	}
	return list
}

func TestP6_1Illegal(t *testing.T) {
	regs := unlike()
	for _, x := range append(illegal(t), api.Instr{Op: 7, A: 1, B: 2, C: 16}, api.Instr{Op: 1, Imm: 1}) {
		for pc := range 3 {
			code := slices.Repeat(read(t, "nop"), 3)
			code[pc] = x
			wantStep(t, code, []int64{4, 5, 6}, 0, regs, pc, api.Effect{Regs: regs, PC: pc + 1, Fault: api.FaultIllegal})
		}
	}
}

func TestP6_1Memory(t *testing.T) {
	m := []int64{40, 50, 60}
	for _, c := range []struct {
		line  string
		m     []int64
		fixed int
		r2    int64
	}{
		{"ld r1 r2 0", m, 0, 3}, {"ld r1 r2 3", m, 0, 0}, {"ld r1 r2 -1", m, 0, 0}, {"ld r1 r2 0", m, 0, -1},
		{"ld r1 r2 0", nil, 0, 0}, {"ld r1 r2 0", m[:0], 0, 0}, {"ld r1 r2 0", m[:2], 0, 2},
		{"ld r1 r2 1", m, 0, top}, {"ld r1 r2 0", m, 0, top}, {"ld r1 r2 -1", m, 0, bottom}, {"ld r1 r2 0", m, 0, bottom},
		{"ld r1 r2 2147483647", m, 0, top}, {"ld r1 r2 -2147483648", m, 0, bottom}, {"ld r1 r2 -2147483648", m, 0, 0},
		{"ld r1 r2 0", m, 0, 1 << 32}, {"ld r1 r2 0", m, 0, 1<<32 + 1},
		{"st r1 r2 0", m, 0, 3}, {"st r1 r2 3", m, 0, 0}, {"st r1 r2 -1", m, 0, 0}, {"st r1 r2 0", m, -1, -1}, {"st r1 r2 0", m, 3, 3},
		{"st r1 r2 0", nil, 0, 0}, {"st r1 r2 0", nil, -1, -1}, {"st r1 r2 0", m[:2], 0, 2},
		{"st r1 r2 1", m, 0, top}, {"st r1 r2 1", m, bottom, top}, {"st r1 r2 -1", m, bottom, bottom}, {"st r1 r2 0", m, bottom, bottom},
		{"st r1 r2 0", m, 0, 1 << 32}, {"st r1 r2 0", m, bottom, bottom + 1},
		{"st r1 r2 0", m, 1, 0}, {"st r1 r2 1", m, 2, 0}, {"st r1 r2 2", m, 3, 0}, {"st r1 r2 0", m, 3, 0},
		{"st r1 r2 2", m, 4, 0}, {"st r1 r2 2", m, 9, 0}, {"st r1 r2 2", m, top, 0}, {"st r1 r2 2", m, 1 << 32, 0},
	} {
		regs := with(unlike(), 2, c.r2)
		wantStep(t, read(t, c.line), c.m, c.fixed, regs, 0, api.Effect{Regs: regs, PC: 1, Fault: api.FaultMemory})
		wantStep(t, padded(read(t, c.line)[0], 3, 6), c.m, c.fixed, regs, 3, api.Effect{Regs: regs, PC: 4, Fault: api.FaultMemory})
	}
}

func TestP6_1DivideAndService(t *testing.T) {
	for _, line := range []string{"div r1 r2 r3", "mod r1 r2 r3", "div r3 r3 r3", "mod r3 r3 r3", "div r1 r1 r3", "mod r15 r0 r3"} {
		for _, b := range words() {
			regs := with(unlike(), 2, b, 3, 0)
			wantStep(t, read(t, line), nil, 0, regs, 0, api.Effect{Regs: regs, PC: 1, Fault: api.FaultDivide})
		}
	}
	regs := unlike()
	for _, n := range append(numbers(), 1, 100, -28, 1<<8+1, 1<<16+1) {
		want := api.Effect{Regs: regs, PC: 1, Fault: api.FaultService}
		if n >= 1 && n <= 27 {
			want = api.Effect{Regs: regs, PC: 1, Call: int(n)}
		}
		wantStep(t, []api.Instr{{Op: 27, Imm: n}}, nil, 0, regs, 0, want)
	}
}

func TestP6_1OrderOfTheFaults(t *testing.T) {
	regs := with(unlike(), 0, 0)
	m := []int64{40, 50, 60}
	for _, x := range []api.Instr{
		{Op: 5, A: 1, B: 0, C: 1, Imm: 9}, {Op: 5, A: 16, B: 0, Imm: -1}, {Op: 6, A: 1, B: 0, C: 1, Imm: 9}, {Op: 6, A: 1, B: 0, C: 1, Imm: 0}, {Op: 6, A: 16, B: 0, Imm: 0},
		{Op: 10, A: 1, B: 2, C: 0, Imm: 1}, {Op: 10, A: 16, B: 2, C: 0}, {Op: 11, A: 1, B: 2, C: 0, Imm: -1}, {Op: 11, A: 1, B: 255, C: 0},
		{Op: 27, A: 1, Imm: 0}, {Op: 27, B: 1, Imm: 28}, {Op: 27, C: 1, Imm: -1},
	} {
		wantStep(t, []api.Instr{x}, m, 2, regs, 0, api.Effect{Regs: regs, PC: 1, Fault: api.FaultIllegal})
	}
	for _, line := range []string{"ld r1 r0 9", "st r1 r0 0", "div r1 r2 r0", "mod r1 r2 r0", "sys 0", "sys 28"} {
		code := append(read(t, line), api.Instr{Op: 28})
		for _, pc := range []int{-1, 2, bottom, top} {
			wantStep(t, code, m, 2, regs, pc, api.Effect{Regs: regs, PC: 2, Fault: api.FaultCode})
		}
		wantStep(t, nil, m, 2, regs, 0, api.Effect{Regs: regs, Fault: api.FaultCode})
	}
}

func TestP6_2Examples(t *testing.T) {
	m := []int64{40, 50, 60}
	r := unlike()
	for _, c := range []struct {
		line  string
		pairs []int64
		a     int64
	}{
		{"addi r1 r2 -2", []int64{2, 5}, 3}, {"addi r1 r2 1", []int64{2, top}, bottom}, {"addi r1 r2 -1", []int64{2, bottom}, top}, {"addi r1 r1 0", []int64{1, 6}, 6},
		{"div r1 r2 r3", []int64{2, 7, 3, 2}, 3}, {"div r1 r2 r3", []int64{2, -7, 3, 2}, -4}, {"div r1 r2 r3", []int64{2, 7, 3, -2}, -3}, {"div r1 r2 r3", []int64{2, -7, 3, -2}, 4},
		{"mod r1 r2 r3", []int64{2, 7, 3, 2}, 1}, {"mod r1 r2 r3", []int64{2, -7, 3, 2}, 1}, {"mod r1 r2 r3", []int64{2, 7, 3, -2}, 1}, {"mod r1 r2 r3", []int64{2, -7, 3, -2}, 1},
		{"div r1 r2 r3", []int64{2, bottom, 3, -1}, bottom}, {"mod r1 r2 r3", []int64{2, bottom, 3, -1}, 0}, {"div r1 r2 r3", []int64{2, bottom, 3, 1}, bottom}, {"div r1 r2 r3", []int64{2, top, 3, -1}, bottom + 1},
		{"div r1 r2 r3", []int64{2, bottom, 3, bottom}, 1}, {"div r1 r2 r3", []int64{2, -1, 3, bottom}, 1}, {"mod r1 r2 r3", []int64{2, -1, 3, bottom}, top}, {"div r1 r2 r3", []int64{2, top, 3, bottom}, 0}, {"mod r1 r2 r3", []int64{2, top, 3, bottom}, top},
		{"ldi r1 -1", nil, -1}, {"ldi r1 0", nil, 0}, {"ldi r1 2147483647", nil, math.MaxInt32}, {"ldi r1 -2147483648", nil, math.MinInt32},
		{"ldh r1 0", []int64{1, -1}, 4294967295}, {"ldh r1 -1", []int64{1, 5}, -1<<32 + 5}, {"ldh r1 1", []int64{1, 0}, 1 << 32}, {"ldh r1 -2147483648", []int64{1, top}, bottom + math.MaxUint32},
		{"mov r1 r2", []int64{2, bottom}, bottom}, {"mov r1 r1", []int64{1, 8}, 8},
		{"sar r1 r2 r3", []int64{2, -8, 3, 65}, -4}, {"shr r1 r2 r3", []int64{2, -8, 3, 65}, 9223372036854775804}, {"shl r1 r2 r3", []int64{2, -8, 3, 65}, -16},
		{"sar r1 r2 r3", []int64{2, -8, 3, 0}, -8}, {"shr r1 r2 r3", []int64{2, -8, 3, 0}, -8}, {"shl r1 r2 r3", []int64{2, -8, 3, 0}, -8},
		{"sar r1 r2 r3", []int64{2, -8, 3, 63}, -1}, {"shr r1 r2 r3", []int64{2, -8, 3, 63}, 1}, {"shl r1 r2 r3", []int64{2, 1, 3, 63}, bottom},
		{"sar r1 r2 r3", []int64{2, -8, 3, 64}, -8}, {"shr r1 r2 r3", []int64{2, -8, 3, 64}, -8}, {"shl r1 r2 r3", []int64{2, -8, 3, 64}, -8},
		{"sar r1 r2 r3", []int64{2, -8, 3, -1}, -1}, {"shr r1 r2 r3", []int64{2, -8, 3, -1}, 1}, {"shl r1 r2 r3", []int64{2, 3, 3, -1}, bottom}, {"shl r1 r2 r3", []int64{2, 3, 3, -63}, 6}, {"shl r1 r2 r3", []int64{2, 3, 3, -64}, 3},
		{"slt r1 r2 r3", []int64{2, -1, 3, 1}, 1}, {"sltu r1 r2 r3", []int64{2, -1, 3, 1}, 0}, {"slt r1 r2 r3", []int64{2, 1, 3, -1}, 0}, {"sltu r1 r2 r3", []int64{2, 1, 3, -1}, 1},
		{"slt r1 r2 r3", []int64{2, 4, 3, 4}, 0}, {"sltu r1 r2 r3", []int64{2, 4, 3, 4}, 0}, {"seq r1 r2 r3", []int64{2, 4, 3, 4}, 1}, {"seq r1 r2 r3", []int64{2, 4, 3, -4}, 0},
		{"add r1 r2 r3", []int64{2, top, 3, 1}, bottom}, {"sub r1 r2 r3", []int64{2, bottom, 3, 1}, top}, {"sub r1 r2 r3", []int64{2, 3, 3, 5}, -2}, {"mul r1 r2 r3", []int64{2, 1 << 32, 3, 1 << 32}, 0}, {"mul r1 r2 r3", []int64{2, bottom, 3, -1}, bottom},
		{"and r1 r2 r3", []int64{2, 12, 3, 10}, 8}, {"or r1 r2 r3", []int64{2, 12, 3, 10}, 14}, {"xor r1 r2 r3", []int64{2, 12, 3, 10}, 6}, {"xor r1 r1 r1", nil, 0},
		{"ld r1 r2 0", []int64{2, 0}, 40}, {"ld r1 r2 2", []int64{2, 0}, 60}, {"ld r1 r2 -1", []int64{2, 2}, 50}, {"ld r1 r2 -2147483648", []int64{2, 1 << 31}, 40}, {"ld r1 r1 1", []int64{1, 1}, 60},
	} {
		in := with(r, c.pairs...)
		want := api.Effect{Regs: with(in, 1, c.a), PC: 1}
		wantStep(t, read(t, c.line), m, 0, in, 0, want)
		want.PC = 3
		wantStep(t, padded(read(t, c.line)[0], 2, 3), m, 3, in, 2, want)
	}
	wantStep(t, read(t, "nop"), m, 0, r, 0, api.Effect{Regs: r, PC: 1})
	wantStep(t, padded(read(t, "nop")[0], 1, 3), nil, 0, r, 1, api.Effect{Regs: r, PC: 2})
}

func TestP6_2Stores(t *testing.T) {
	r := with(unlike(), 0, 0)
	m := []int64{40, 50, 60}
	for _, c := range []struct {
		line  string
		fixed int
		addr  int
		value int64
	}{
		{"st r1 r0 2", 2, 2, r[1]}, {"st r1 r0 0", 0, 0, r[1]}, {"st r1 r0 0", -1, 0, r[1]}, {"st r1 r0 0", bottom, 0, r[1]}, {"st r15 r0 1", 1, 1, r[15]}, {"st r0 r0 1", 0, 1, 0}, {"st r1 r0 2", bottom, 2, r[1]},
	} {
		wantStep(t, read(t, c.line), m, c.fixed, r, 0, api.Effect{Regs: r, PC: 1, Store: true, Addr: c.addr, Value: c.value})
	}
	for n := range 5 {
		m := []int64{40, 50, 60, 70}[:n]
		for _, fixed := range lengths() {
			for _, base := range words() {
				for _, imm := range numbers() {
					regs := with(unlike(), 2, base)
					wantAsRead(t, []api.Instr{{Op: 5, A: 1, B: 2, Imm: imm}}, m, fixed, regs, 0)
					wantAsRead(t, []api.Instr{{Op: 6, A: 1, B: 2, Imm: imm}}, m, fixed, regs, 0)
				}
			}
		}
	}
}

func TestP6_2Jumps(t *testing.T) {
	r := with(unlike(), 0, 0)
	for _, c := range []struct {
		line     string
		n, pc, p int
	}{
		{"jmp 0", 4, 0, 0}, {"jmp 0", 4, 3, 0}, {"jmp 3", 4, 1, 3}, {"jmp 4", 4, 1, 4}, {"jmp 5", 4, 1, 4}, {"jmp 9", 4, 0, 4}, {"jmp -1", 4, 1, 4}, {"jmp -2147483648", 4, 1, 4}, {"jmp 2147483647", 4, 1, 4}, {"jmp 1", 4, 1, 1}, {"jmp 1", 1, 0, 1},
		{"jz r0 0", 4, 2, 0}, {"jz r0 4", 4, 2, 4}, {"jz r0 5", 4, 2, 4}, {"jz r0 -1", 4, 2, 4}, {"jz r1 0", 4, 2, 3}, {"jz r1 0", 4, 3, 4}, {"jz r1 -1", 4, 0, 1},
		{"jnz r1 0", 4, 2, 0}, {"jnz r1 4", 4, 2, 4}, {"jnz r1 5", 4, 2, 4}, {"jnz r1 -1", 4, 2, 4}, {"jnz r0 0", 4, 2, 3}, {"jnz r0 0", 4, 3, 4}, {"jnz r0 -1", 4, 0, 1},
		{"jmr r0", 4, 2, 0}, {"jmr r1", 4, 2, 4},
	} {
		wantStep(t, padded(read(t, c.line)[0], c.pc, c.n), nil, 0, r, c.pc, api.Effect{Regs: r, PC: c.p})
	}
	for _, c := range []struct {
		word int64
		p    int
	}{
		{0, 0}, {1, 1}, {3, 3}, {4, 4}, {5, 4}, {-1, 4}, {top, 4}, {bottom, 4}, {1 << 32, 4}, {1<<32 + 1, 4}, {-1 << 32, 4},
	} {
		in := with(r, 9, c.word)
		wantStep(t, padded(read(t, "jmr r9")[0], 2, 4), nil, 0, in, 2, api.Effect{Regs: in, PC: c.p})
	}
	for _, c := range []struct {
		line     string
		n, pc, p int
	}{
		{"call 0", 4, 0, 0}, {"call 0", 4, 3, 0}, {"call 3", 4, 1, 3}, {"call 4", 4, 1, 4}, {"call 5", 4, 2, 4}, {"call -1", 4, 2, 4}, {"call -2147483648", 1, 0, 1},
	} {
		wantStep(t, padded(read(t, c.line)[0], c.pc, c.n), nil, 0, r, c.pc, api.Effect{Regs: with(r, 14, int64(c.pc)+1), PC: c.p})
	}
}

func TestP6_2JumpsBesideTheChaptersWords(t *testing.T) {
	for n := 1; n <= 6; n++ {
		for pc := range n {
			for _, p := range numbers() {
				for _, w := range words() {
					regs := with(unlike(), 5, w)
					for _, x := range []api.Instr{{Op: 22, Imm: p}, {Op: 23, A: 5, Imm: p}, {Op: 24, A: 5, Imm: p}, {Op: 25, A: 5}, {Op: 26, Imm: p}} {
						wantAsRead(t, padded(x, pc, n), nil, 0, regs, pc)
					}
				}
			}
		}
	}
}

func TestP6_2ReckonsBesideBigNumbers(t *testing.T) {
	for _, name := range []string{"add", "sub", "mul", "div", "mod", "and", "or", "xor", "shl", "shr", "sar", "slt", "sltu", "seq"} {
		three, same := read(t, name+" r1 r2 r3"), read(t, name+" r4 r4 r4")
		ahead, behind := read(t, name+" r2 r2 r3"), read(t, name+" r3 r2 r3")
		for _, b := range words() {
			for _, c := range words() {
				regs := with(unlike(), 2, b, 3, c, 4, b)
				wantAsRead(t, three, nil, 0, regs, 0)
				wantAsRead(t, ahead, nil, 0, regs, 0)
				wantAsRead(t, behind, nil, 0, regs, 0)
			}
			wantAsRead(t, same, nil, 0, with(unlike(), 4, b), 0)
		}
	}
}

func TestP6_2NumbersBesideBigNumbers(t *testing.T) {
	for _, n := range numbers() {
		for _, w := range words() {
			regs := with(unlike(), 1, w, 2, w)
			for _, x := range []api.Instr{{Op: 2, A: 1, Imm: n}, {Op: 3, A: 1, Imm: n}, {Op: 18, A: 1, B: 2, Imm: n}, {Op: 18, A: 1, B: 1, Imm: n}, {Op: 18, A: 3, B: 2, Imm: n}} {
				wantAsRead(t, []api.Instr{x}, nil, 0, regs, 0)
			}
		}
	}
}

// The quotient and the rest fit each other, in the chapter's own words.
func TestP6_2QuotientAndRest(t *testing.T) {
	for _, b := range words() {
		for _, c := range words() {
			if c == 0 || b == bottom && c == -1 {
				continue
			}
			regs := with(unlike(), 2, b, 3, c)
			q := big.NewInt(cpu.Step(read(t, "div r1 r2 r3"), nil, 0, regs, 0).Regs[1])
			r := big.NewInt(cpu.Step(read(t, "mod r1 r2 r3"), nil, 0, regs, 0).Regs[1])
			sum := new(big.Int).Mul(q, big.NewInt(c))
			if sum.Add(sum, r).Cmp(big.NewInt(b)) != 0 || r.Sign() < 0 || r.CmpAbs(big.NewInt(c)) >= 0 {
				t.Errorf("%d by %d: quotient %d, rest %d", b, c, q, r)
			}
		}
	}
}

// legal is an instruction of one operation, with operands by chance, small numbers more often than others.
func legal(chance *rand.Rand, op byte) api.Instr {
	x := api.Instr{Op: op}
	shape, _ := isa.Shape(op)
	for _, letter := range shape {
		switch letter {
		case 'a':
			x.A = byte(chance.IntN(api.Regs))
		case 'b':
			x.B = byte(chance.IntN(api.Regs))
		case 'c':
			x.C = byte(chance.IntN(api.Regs))
		default:
			x.Imm = int32(chance.IntN(12) - 3)
			if chance.IntN(8) == 0 {
				x.Imm = numbers()[chance.IntN(len(numbers()))]
			}
		}
	}
	return x
}

// anyRegisters is registers by chance, small words more often than others.
func anyRegisters(chance *rand.Rand) registers {
	var r registers
	for i := range r {
		switch chance.IntN(4) {
		case 0:
			r[i] = words()[chance.IntN(len(words()))]
		case 1:
			r[i] = int64(chance.Uint64())
		default:
			r[i] = int64(chance.IntN(8) - 1)
		}
	}
	return r
}

func anyWords(chance *rand.Rand, n int) []int64 {
	m := make([]int64, n)
	for i := range m {
		m[i] = int64(chance.Uint64())
	}
	return m
}

func anyCode(chance *rand.Rand, n int) []api.Instr {
	code := make([]api.Instr, n)
	for i := range code {
		code[i] = legal(chance, byte(1+chance.IntN(27)))
		if chance.IntN(40) == 0 {
			code[i].C += 16
		}
	}
	return code
}

func TestP6_2EveryOperationBesideASecondReading(t *testing.T) {
	chance := rand.New(rand.NewPCG(6, 2))
	for op := byte(1); op <= 27; op++ {
		for range 3000 {
			n := 1 + chance.IntN(6)
			pc := chance.IntN(n)
			m := anyWords(chance, chance.IntN(6))
			wantAsRead(t, padded(legal(chance, op), pc, n), m, chance.IntN(9)-2, anyRegisters(chance), pc)
		}
	}
}

// wantRun asks what Run answers, that what is handed in stays as it is, its spare room too, and that the answer shares no memory with it.
func wantRun(t *testing.T, code []api.Instr, m []int64, fixed int, regs registers, pc, most int, want api.Effect, words []int64, done int) {
	t.Helper()
	mark := api.Instr{Op: 99, A: 98, B: 97, C: 96, Imm: 95}
	allCode := append(append([]api.Instr{mark, mark}, code...), mark, mark)
	allWords := append(append([]int64{-71, -72}, m...), -73, -74)
	keptCode, keptWords := slices.Clone(allCode), slices.Clone(allWords)
	e, own, n := cpu.Run(allCode[2:2+len(code)], allWords[2:2+len(m)], fixed, regs, pc, most)
	if e != want || !slices.Equal(own, words) || n != done {
		t.Errorf("Run(%v, %v, %d, %v, %d, %d) =\n%+v, %v, %d, want\n%+v, %v, %d", code, m, fixed, regs, pc, most, e, own, n, want, words, done)
	}
	for i := range own {
		own[i] = 77
	}
	own = append(own, 77, 77, 77)
	if !slices.Equal(allCode, keptCode) || !slices.Equal(allWords, keptWords) {
		t.Errorf("Run(%v, %v, %d, %v, %d, %d): the code became %v, the memory %v", code, m, fixed, regs, pc, most, allCode, allWords)
	}
}

func TestP6_3Run(t *testing.T) {
	r := unlike()
	zero := registers{}
	m := []int64{40, 50, 60}
	loop := read(t, "addi r1 r1 1", "jmp 0")
	count := read(t, "addi r1 r1 1", "st r1 r1 0", "jmp 0")
	later := read(t, "ldi r1 77", "st r1 r0 1", "ld r2 r0 1", "ld r3 r0 2", "sys 4", "nop")
	in := with(r, 0, 0)
	at := func(pairs ...int64) registers { return with(in, pairs...) }
	for _, c := range []struct {
		code  []api.Instr
		fixed int
		regs  registers
		pc    int
		most  int
		want  api.Effect
		words []int64
		done  int
	}{
		{loop, 0, zero, 0, 5, api.Effect{Regs: with(zero, 1, 3), PC: 1}, m, 5},
		{loop, 0, zero, 0, 0, api.Effect{}, m, 0},
		{loop, 0, zero, 0, 1, api.Effect{Regs: with(zero, 1, 1), PC: 1}, m, 1},
		{loop, 0, zero, 1, 1, api.Effect{}, m, 1},
		{loop, 0, zero, 1, 2, api.Effect{Regs: with(zero, 1, 1), PC: 1}, m, 2},
		{loop, 0, r, 77, 0, api.Effect{Regs: r, PC: 77}, m, 0},
		{loop, 0, r, -5, -1, api.Effect{Regs: r, PC: -5}, m, 0},
		{loop, 0, r, top, bottom, api.Effect{Regs: r, PC: top}, m, 0},
		{loop, 0, r, bottom, 0, api.Effect{Regs: r, PC: bottom}, m, 0},
		{nil, 0, r, 3, 0, api.Effect{Regs: r, PC: 3}, m, 0},
		{nil, 0, r, 3, 9, api.Effect{Regs: r, Fault: api.FaultCode}, m, 1},
		{loop, 0, r, 77, 9, api.Effect{Regs: r, PC: 2, Fault: api.FaultCode}, m, 1},
		{loop, 0, r, -1, top, api.Effect{Regs: r, PC: 2, Fault: api.FaultCode}, m, 1},
		{loop[:1], 0, zero, 0, 1, api.Effect{Regs: with(zero, 1, 1), PC: 1}, m, 1},
		{loop[:1], 0, zero, 0, 2, api.Effect{Regs: with(zero, 1, 1), PC: 1, Fault: api.FaultCode}, m, 2},
		{loop[:1], 0, zero, 0, 9, api.Effect{Regs: with(zero, 1, 1), PC: 1, Fault: api.FaultCode}, m, 2},
		{count, 0, zero, 0, 100, api.Effect{Regs: with(zero, 1, 3), PC: 2, Fault: api.FaultMemory}, []int64{40, 1, 2}, 8},
		{count, 0, zero, 0, top, api.Effect{Regs: with(zero, 1, 3), PC: 2, Fault: api.FaultMemory}, []int64{40, 1, 2}, 8},
		{count, 1, zero, 0, 5, api.Effect{Regs: with(zero, 1, 2), PC: 2, Store: true, Addr: 2, Value: 2}, []int64{40, 1, 2}, 5},
		{count, 1, zero, 0, 6, api.Effect{Regs: with(zero, 1, 2)}, []int64{40, 1, 2}, 6},
		{count, 2, zero, 0, 6, api.Effect{Regs: with(zero, 1, 1), PC: 2, Fault: api.FaultMemory}, m, 2},
		{later, 0, in, 0, 1, api.Effect{Regs: at(1, 77), PC: 1}, m, 1},
		{later, 0, in, 0, 2, api.Effect{Regs: at(1, 77), PC: 2, Store: true, Addr: 1, Value: 77}, []int64{40, 77, 60}, 2},
		{later, 0, in, 0, 3, api.Effect{Regs: at(1, 77, 2, 77), PC: 3}, []int64{40, 77, 60}, 3},
		{later, 0, in, 0, 4, api.Effect{Regs: at(1, 77, 2, 77, 3, 60), PC: 4}, []int64{40, 77, 60}, 4},
		{later, 0, in, 0, 5, api.Effect{Regs: at(1, 77, 2, 77, 3, 60), PC: 5, Call: 4}, []int64{40, 77, 60}, 5},
		{later, 0, in, 0, 6, api.Effect{Regs: at(1, 77, 2, 77, 3, 60), PC: 5, Call: 4}, []int64{40, 77, 60}, 5},
		{later, 0, in, 4, 9, api.Effect{Regs: in, PC: 5, Call: 4}, m, 1},
		{read(t, "nop", "sys 28", "nop"), 0, r, 0, 9, api.Effect{Regs: r, PC: 2, Fault: api.FaultService}, m, 2},
		{read(t, "nop", "nop", "div r1 r2 r0"), 0, in, 0, 3, api.Effect{Regs: in, PC: 3, Fault: api.FaultDivide}, m, 3},
		{[]api.Instr{{Op: 1}, {}, {Op: 1}}, 0, r, 0, 9, api.Effect{Regs: r, PC: 2, Fault: api.FaultIllegal}, m, 2},
	} {
		wantRun(t, c.code, m, c.fixed, c.regs, c.pc, c.most, c.want, c.words, c.done)
	}
	wantRun(t, loop, nil, 0, zero, 0, 3, api.Effect{Regs: with(zero, 1, 2), PC: 1}, nil, 3)
	if e, own, n := cpu.Run(nil, nil, 0, r, 0, 1); e != (api.Effect{Regs: r, Fault: api.FaultCode}) || len(own) != 0 || n != 1 {
		t.Errorf("Run of no code and no memory: %+v, %v, %d", e, own, n)
	}
}

// inTurn is one Step behind the other, each on a memory that is written between them.
func inTurn(code []api.Instr, m []int64, fixed int, regs registers, pc, most int) (api.Effect, []int64, int) {
	e, own := api.Effect{Regs: regs, PC: pc}, slices.Clone(m)
	for n := range most {
		e = cpu.Step(code, own, fixed, e.Regs, e.PC)
		if e.Store {
			own[e.Addr] = e.Value
		}
		if e.Fault != 0 || e.Call != 0 {
			return e, own, n + 1
		}
	}
	return e, own, max(most, 0)
}

func TestP6_3RunBesideOneStepBehindTheOther(t *testing.T) {
	chance := rand.New(rand.NewPCG(6, 3))
	for range 4000 {
		code := anyCode(chance, chance.IntN(9))
		m := anyWords(chance, chance.IntN(7))
		fixed, pc, most := chance.IntN(5)-2, chance.IntN(len(code)+2)-1, chance.IntN(60)-2
		regs := anyRegisters(chance)
		e, own, done := inTurn(code, m, fixed, regs, pc, most)
		wantRun(t, code, m, fixed, regs, pc, most, e, own, done)
	}
}

// Memory that Run has answered does not change with what is handed in or run later.
func TestP6_3RunAnswersNewMemory(t *testing.T) {
	for _, most := range []int{-1, 0, 1, 2, 9} {
		for n := range 4 {
			code := read(t, "nop", "sys 1")
			all := []int64{40, 50, 60, 70, 80}
			_, a, _ := cpu.Run(code, all[:n], 0, registers{}, 0, most)
			_, b, _ := cpu.Run(code, all[:n], 0, registers{}, 0, most)
			want := slices.Clone(all[:n])
			for i := range a {
				a[i] = 77
			}
			a = append(a, 77, 77)
			for i := range all {
				all[i] = 99
			}
			if !slices.Equal(b, want) {
				t.Errorf("most %d: the memory became %v, want %v", most, b, want)
			}
		}
	}
}

// written is the register that an operation writes; -1, if it is none.
func written(x api.Instr) int {
	name, _ := isa.Name(x.Op)
	switch name {
	case "nop", "st", "jmp", "jz", "jnz", "jmr", "sys":
		return -1
	case "call":
		return 14
	}
	return int(x.A)
}

func TestP6_4WhatFollows(t *testing.T) {
	chance := rand.New(rand.NewPCG(6, 4))
	for range 60000 {
		code := anyCode(chance, 1+chance.IntN(5))
		m := anyWords(chance, chance.IntN(6))
		fixed, pc := chance.IntN(8)-1, chance.IntN(len(code)+2)-1
		regs := anyRegisters(chance)
		e := cpu.Step(code, m, fixed, regs, pc)
		if e.PC < 0 || e.PC > len(code) {
			t.Fatalf("Step(%v, %v, %d, %v, %d): PC %d", code, m, fixed, regs, pc, e.PC)
		}
		if e.Store && (e.Addr < fixed || e.Addr < 0 || e.Addr >= len(m)) || !e.Store && (e.Addr != 0 || e.Value != 0) {
			t.Fatalf("Step(%v, %v, %d, %v, %d): %v, address %d, value %d", code, m, fixed, regs, pc, e.Store, e.Addr, e.Value)
		}
		for i := range regs {
			named := pc >= 0 && pc < len(code) && e.Fault == 0 && written(code[pc]) == i
			if !named && e.Regs[i] != regs[i] {
				t.Fatalf("Step(%v, %v, %d, %v, %d): r%d became %d", code, m, fixed, regs, pc, i, e.Regs[i])
			}
		}
	}
}

// Every operation, into every register: the others stay.
func TestP6_4OtherRegistersStay(t *testing.T) {
	m := []int64{40, 50, 60}
	for op := byte(1); op <= 27; op++ {
		shape, _ := isa.Shape(op)
		for a := range byte(api.Regs) {
			for b := range byte(api.Regs) {
				x := api.Instr{Op: op}
				if strings.Contains(shape, "a") {
					x.A = a
				}
				if strings.Contains(shape, "b") {
					x.B = b
				}
				if strings.Contains(shape, "c") {
					x.C = (a + b) % api.Regs
				}
				if strings.ContainsAny(shape, "np") {
					x.Imm = 1
				}
				in := unlike()
				if strings.Contains(shape, "bn") {
					in[b] = 1
				}
				e := cpu.Step([]api.Instr{x, x, x}, m, 0, in, 1)
				if e.Fault != 0 {
					t.Fatalf("%v: fault %d", x, e.Fault)
				}
				for i := range in {
					if i != written(x) && e.Regs[i] != in[i] {
						t.Errorf("%v: r%d became %d", x, i, e.Regs[i])
					}
				}
			}
		}
	}
}

func TestP6_4NoOtherInstructionAndNoOtherWordCounts(t *testing.T) {
	chance := rand.New(rand.NewPCG(6, 5))
	for range 30000 {
		n, pc := 1+chance.IntN(5), 0
		code := anyCode(chance, n)
		pc = chance.IntN(n)
		m := anyWords(chance, chance.IntN(6))
		regs := anyRegisters(chance)
		fixed := chance.IntN(8) - 1
		want := cpu.Step(code, m, fixed, regs, pc)

		otherCode := anyCode(chance, n)
		otherCode[pc] = code[pc]
		otherWords := anyWords(chance, len(m))
		if name, _ := isa.Name(code[pc].Op); name == "ld" && want.Fault == 0 {
			at := regs[code[pc].B] + int64(code[pc].Imm)
			otherWords[at] = m[at]
		}
		if got := cpu.Step(otherCode, otherWords, fixed, regs, pc); got != want {
			t.Fatalf("%v at %d of %d, %d words, %d fixed: %+v beside %v, %v, but %+v beside %v, %v", code[pc], pc, n, len(m), fixed, want, code, m, got, otherCode, otherWords)
		}
	}
}
