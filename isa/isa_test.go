package isa_test

import (
	"encoding/binary"
	"math"
	"strings"
	"testing"

	"bulkhead/api"
	"bulkhead/isa"
)

// chapter is the document's table, by the operations' numbers, with a line of each.
var chapter = []struct {
	op          byte
	name, shape string
	line        string
	x           api.Instr
}{
	{1, "nop", "", "nop", api.Instr{Op: 1}},
	{2, "ldi", "an", "ldi r1 5", api.Instr{Op: 2, A: 1, Imm: 5}},
	{3, "ldh", "an", "ldh r15 -1", api.Instr{Op: 3, A: 15, Imm: -1}},
	{4, "mov", "ab", "mov r0 r15", api.Instr{Op: 4, A: 0, B: 15}},
	{5, "ld", "abn", "ld r2 r3 -4", api.Instr{Op: 5, A: 2, B: 3, Imm: -4}},
	{6, "st", "abn", "st r3 r0 7", api.Instr{Op: 6, A: 3, B: 0, Imm: 7}},
	{7, "add", "abc", "add r1 r2 r3", api.Instr{Op: 7, A: 1, B: 2, C: 3}},
	{8, "sub", "abc", "sub r4 r5 r6", api.Instr{Op: 8, A: 4, B: 5, C: 6}},
	{9, "mul", "abc", "mul r7 r8 r9", api.Instr{Op: 9, A: 7, B: 8, C: 9}},
	{10, "div", "abc", "div r10 r11 r12", api.Instr{Op: 10, A: 10, B: 11, C: 12}},
	{11, "mod", "abc", "mod r13 r14 r15", api.Instr{Op: 11, A: 13, B: 14, C: 15}},
	{12, "and", "abc", "and r0 r0 r0", api.Instr{Op: 12}},
	{13, "or", "abc", "or r15 r15 r15", api.Instr{Op: 13, A: 15, B: 15, C: 15}},
	{14, "xor", "abc", "xor r3 r2 r1", api.Instr{Op: 14, A: 3, B: 2, C: 1}},
	{15, "shl", "abc", "shl r0 r1 r0", api.Instr{Op: 15, B: 1}},
	{16, "shr", "abc", "shr r0 r0 r1", api.Instr{Op: 16, C: 1}},
	{17, "sar", "abc", "sar r1 r0 r0", api.Instr{Op: 17, A: 1}},
	{18, "addi", "abn", "addi r1 r2 -2", api.Instr{Op: 18, A: 1, B: 2, Imm: -2}},
	{19, "slt", "abc", "slt r9 r10 r11", api.Instr{Op: 19, A: 9, B: 10, C: 11}},
	{20, "sltu", "abc", "sltu r11 r10 r9", api.Instr{Op: 20, A: 11, B: 10, C: 9}},
	{21, "seq", "abc", "seq r14 r0 r15", api.Instr{Op: 21, A: 14, C: 15}},
	{22, "jmp", "p", "jmp 0", api.Instr{Op: 22}},
	{23, "jz", "ap", "jz r4 9", api.Instr{Op: 23, A: 4, Imm: 9}},
	{24, "jnz", "ap", "jnz r4 -9", api.Instr{Op: 24, A: 4, Imm: -9}},
	{25, "jmr", "a", "jmr r14", api.Instr{Op: 25, A: 14}},
	{26, "call", "p", "call 1023", api.Instr{Op: 26, Imm: 1023}},
	{27, "sys", "n", "sys 27", api.Instr{Op: 27, Imm: 27}},
}

// edges are numbers of four bytes at and next to the ends, the signs and the bytes' seams.
var edges = []int32{0, 1, -1, 9, 10, -10, 127, 128, 255, 256, -256, 65535, 65536, 1<<24 - 1, 1 << 24, math.MaxInt32 - 1, math.MaxInt32, math.MinInt32 + 1, math.MinInt32}

// registers are bytes at and next to the registers' ends.
var registers = []byte{0, 1, 7, 14, 15, 16, 17, 31, 127, 128, 240, 255}

// everyInstr tells instructions, legal or not, of every operation and of numbers that are none.
func everyInstr(tell func(x api.Instr)) {
	for op := range 256 {
		for _, a := range registers {
			for _, b := range registers {
				for _, c := range registers {
					for _, imm := range []int32{0, 5, -1, math.MaxInt32, math.MinInt32} {
						tell(api.Instr{Op: byte(op), A: a, B: b, C: c, Imm: imm})
					}
				}
			}
		}
	}
}

// legal is the chapter's word, said by the shape of its table.
func legal(x api.Instr) bool {
	if x.Op < 1 || x.Op > 27 {
		return false
	}
	shape := chapter[x.Op-1].shape
	for letter, r := range map[string]byte{"a": x.A, "b": x.B, "c": x.C} {
		most := byte(0)
		if strings.Contains(shape, letter) {
			most = 15
		}
		if r > most {
			return false
		}
	}
	return x.Imm == 0 || strings.ContainsAny(shape, "np")
}

func TestP3_1Bytes(t *testing.T) {
	for _, c := range []struct {
		x api.Instr
		b [8]byte
	}{
		{api.Instr{}, [8]byte{}},
		{api.Instr{Op: 18, A: 1, B: 2, Imm: -2}, [8]byte{0x12, 1, 2, 0, 0xff, 0xff, 0xff, 0xfe}},
		{api.Instr{Op: 27, Imm: 0x01020304}, [8]byte{27, 0, 0, 0, 1, 2, 3, 4}},
		{api.Instr{Op: 255, A: 254, B: 253, C: 252, Imm: -1}, [8]byte{255, 254, 253, 252, 255, 255, 255, 255}},
		{api.Instr{Op: 28, A: 16, B: 128, C: 200, Imm: math.MinInt32}, [8]byte{28, 16, 128, 200, 0x80, 0, 0, 0}},
		{api.Instr{Imm: math.MaxInt32}, [8]byte{0, 0, 0, 0, 0x7f, 255, 255, 255}},
		{api.Instr{C: 1, Imm: 128}, [8]byte{0, 0, 0, 1, 0, 0, 0, 128}},
		{api.Instr{B: 1, Imm: 0x8000}, [8]byte{0, 0, 1, 0, 0, 0, 128, 0}},
		{api.Instr{A: 1, Imm: 0x800000}, [8]byte{0, 1, 0, 0, 0, 128, 0, 0}},
	} {
		if b := isa.Encode(c.x); b != c.b {
			t.Errorf("Encode(%+v) = % x, want % x", c.x, b, c.b)
		}
		if x := isa.Decode(c.b); x != c.x {
			t.Errorf("Decode(% x) = %+v, want %+v", c.b, x, c.x)
		}
	}
	for op := range 256 {
		for _, imm := range edges {
			x := api.Instr{Op: byte(op), A: byte(op + 1), B: byte(op * 3), C: byte(255 - op), Imm: imm}
			want := [8]byte{x.Op, x.A, x.B, x.C}
			binary.BigEndian.PutUint32(want[4:], uint32(imm))
			if b := isa.Encode(x); b != want {
				t.Errorf("Encode(%+v) = % x, want % x", x, b, want)
			}
			if got := isa.Decode(want); got != x {
				t.Errorf("Decode(% x) = %+v, want %+v", want, got, x)
			}
		}
	}
}

func TestP3_2Operations(t *testing.T) {
	for op := range 256 {
		name, shape, known := "", "", false
		if 1 <= op && op <= 27 {
			name, shape, known = chapter[op-1].name, chapter[op-1].shape, true
		}
		if got := isa.Known(byte(op)); got != known {
			t.Errorf("Known(%d) = %v", op, got)
		}
		if got, ok := isa.Name(byte(op)); got != name || ok != known {
			t.Errorf("Name(%d) = %q, %v, want %q, %v", op, got, ok, name, known)
		}
		if got, ok := isa.Shape(byte(op)); got != shape || ok != known {
			t.Errorf("Shape(%d) = %q, %v, want %q, %v", op, got, ok, shape, known)
		}
	}
}

func TestP3_2Legal(t *testing.T) {
	for _, c := range []struct {
		x    api.Instr
		want bool
	}{
		{api.Instr{}, false},
		{api.Instr{Op: 1}, true},
		{api.Instr{Op: 28}, false},
		{api.Instr{Op: 255}, false},
		{api.Instr{Op: 1, A: 1}, false},
		{api.Instr{Op: 1, B: 1}, false},
		{api.Instr{Op: 1, C: 1}, false},
		{api.Instr{Op: 1, Imm: 5}, false},
		{api.Instr{Op: 1, Imm: -1}, false},
		{api.Instr{Op: 4, A: 15, B: 15}, true},
		{api.Instr{Op: 4, A: 15, B: 16}, false},
		{api.Instr{Op: 4, A: 16, B: 15}, false},
		{api.Instr{Op: 4, A: 1, B: 2, C: 3}, false},
		{api.Instr{Op: 7, A: 1, B: 2, C: 3}, true},
		{api.Instr{Op: 7, A: 1, B: 2, C: 16}, false},
		{api.Instr{Op: 7, A: 1, B: 2, C: 255}, false},
		{api.Instr{Op: 7, A: 1, B: 2, C: 3, Imm: 1}, false},
		{api.Instr{Op: 22, Imm: math.MinInt32}, true},
		{api.Instr{Op: 22, A: 1}, false},
		{api.Instr{Op: 25, A: 15}, true},
		{api.Instr{Op: 25, A: 15, Imm: 1}, false},
		{api.Instr{Op: 27, Imm: math.MaxInt32}, true},
		{api.Instr{Op: 27, C: 1, Imm: math.MaxInt32}, false},
	} {
		if got := isa.Legal(c.x); got != c.want {
			t.Errorf("Legal(%+v) = %v", c.x, got)
		}
	}
	everyInstr(func(x api.Instr) {
		if got := isa.Legal(x); got != legal(x) {
			t.Errorf("Legal(%+v) = %v", x, got)
		}
	})
}

func TestP3_3Show(t *testing.T) {
	for _, c := range chapter {
		if line, ok := isa.Show(c.x); line != c.line || !ok {
			t.Errorf("Show(%+v) = %q, %v, want %q", c.x, line, ok, c.line)
		}
	}
	for _, c := range []struct {
		x    api.Instr
		line string
	}{
		{api.Instr{Op: 2, Imm: math.MinInt32}, "ldi r0 -2147483648"},
		{api.Instr{Op: 2, A: 9, Imm: math.MaxInt32}, "ldi r9 2147483647"},
		{api.Instr{Op: 2, A: 10, Imm: 0}, "ldi r10 0"},
		{api.Instr{Op: 5}, "ld r0 r0 0"},
		{api.Instr{Op: 24, A: 15, Imm: -1}, "jnz r15 -1"},
		{api.Instr{Op: 26, Imm: math.MinInt32}, "call -2147483648"},
	} {
		if line, ok := isa.Show(c.x); line != c.line || !ok {
			t.Errorf("Show(%+v) = %q, %v, want %q", c.x, line, ok, c.line)
		}
	}
	everyInstr(func(x api.Instr) {
		line, ok := isa.Show(x)
		if ok != legal(x) || (line == "") == ok {
			t.Errorf("Show(%+v) = %q, %v", x, line, ok)
		}
	})
}

// wantRead asks that Read answers this instruction or this error, and nothing beside an error.
func wantRead(t *testing.T, line string, want api.Instr, err api.Errno) {
	t.Helper()
	if x, got := isa.Read(line); x != want || got != err {
		t.Errorf("Read(%q) = %+v, %d, want %+v, %d", line, x, got, want, err)
	}
}

func TestP3_4Read(t *testing.T) {
	for _, c := range chapter {
		wantRead(t, c.line, c.x, api.OK)
	}
	wantRead(t, "ldi r0 -2147483648", api.Instr{Op: 2, Imm: math.MinInt32}, api.OK)
	wantRead(t, "ldi r15 2147483647", api.Instr{Op: 2, A: 15, Imm: math.MaxInt32}, api.OK)
	wantRead(t, "jz r9 -1", api.Instr{Op: 23, A: 9, Imm: -1}, api.OK)
	wantRead(t, "add r10 r9 r0", api.Instr{Op: 7, A: 10, B: 9}, api.OK)
}

func TestP3_4NoOperation(t *testing.T) {
	for _, line := range []string{
		"", " ", "  ", " nop", " add r1 r2 r3", "\tnop", "nop\n", "nop\t", "nop\x00", "nop,", "add,r1", "add\tr1 r2 r3", "add\u00a0r1 r2 r3",
		"Add r1 r2 r3", "ADD r1 r2 r3", "aDd r1 r2 r3", "NOP", "nops", "noop", "nopnop", "no", "n", "ad r1 r2 r3", "add1 r1 r2 r3", "addii r1 r2 3", "adda r1 r2 3",
		"sltuu r1 r2 r3", "sl r1 r2 r3", "l r1 r2 3", "s", "j 5", "cal 5", "calls 5", "jmpr r1", "r1", "5", "-", "an", "abc", "p", "é", "nöp", "\xff",
		"halt", "halt r1  r2 ", "ldi: r1 5", strings.Repeat("a", 1000), strings.Repeat("nop", 1000) + " r1", strings.Repeat(" ", 1000),
	} {
		wantRead(t, line, api.Instr{}, api.ErrOp)
	}
	for _, c := range chapter {
		for _, name := range []string{strings.ToUpper(c.name), c.name + "q", "q" + c.name, c.name + c.name, " " + c.name, c.name + "\t"} {
			wantRead(t, name+c.line[len(c.name):], api.Instr{}, api.ErrOp)
		}
	}
}

func TestP3_4NoOperand(t *testing.T) {
	for _, line := range []string{
		"nop ", "nop  ", "nop r1", "nop 0", "nop nop", "nop \n",
		"add", "add ", "add r1", "add r1 ", "add r1 r2", "add r1 r2 ", "add r1 r2 r3 ", "add r1 r2 r3 r4", "add r1 r2 r3 0", "add r1 r2 r3  ",
		"add  r1 r2 r3", "add r1  r2 r3", "add r1 r2  r3", "mov r1  r2", "add r1\tr2 r3", "add r1,r2,r3", "add r1, r2, r3",
		"add r1 r2 r16", "add r16 r2 r3", "add r1 r16 r3", "add r1 r2 r17", "add r1 r2 r255", "add r256 r0 r0", "add r1 r2 r257", "add r65536 r0 r0", "add r4294967296 r0 r0", "add r18446744073709551616 r0 r0",
		"add r01 r2 r3", "add r00 r2 r3", "add r1 r2 r015", "add r+1 r2 r3", "add r-1 r2 r3", "add r-0 r2 r3", "add r r2 r3", "add 1 r2 r3", "add R1 r2 r3", "add rr1 r2 r3", "add r1r r2 r3", "add a b c", "add r1 r2 3", "add r0x1 r2 r3", "add r1_0 r2 r3", "add r１ r2 r3",
		"ldi r1", "ldi r1 ", "ldi r1 +5", "ldi r1 +0", "ldi r1 -0", "ldi r1 00", "ldi r1 05", "ldi r1 -05", "ldi r1 -00", "ldi r1 --5", "ldi r1 -", "ldi r1 +", "ldi r1 - 5",
		"ldi r1 2147483648", "ldi r1 -2147483649", "ldi r1 4294967295", "ldi r1 4294967296", "ldi r1 4294967301", "ldi r1 9223372036854775807", "ldi r1 9223372036854775808", "ldi r1 18446744073709551616", "ldi r1 -9223372036854775809", "ldi r1 " + strings.Repeat("9", 1000), "ldi r1 " + strings.Repeat("0", 1000), "ldi r1 " + strings.Repeat("0", 1000) + "5",
		"ldi r1 5.0", "ldi r1 5e0", "ldi r1 0x5", "ldi r1 0b1", "ldi r1 0o5", "ldi r1 1_000", "ldi r1 5\n", "ldi r1 5 ", "ldi r1 5 6", "ldi r1 five", "ldi r1 r5", "ldi r1 ５", "ldi 5 r1", "ldi 5", "ldi r1\n5",
		"jmp", "jmp ", "jmp r1", "jmp 1\n", "jmp 1 2", "jmp  1", "jmp +1", "jz 5 r1", "jz r1", "jz 5", "jmr", "jmr 5", "jmr r1 5", "jmr r16", "call label", "sys", "sys r1", "sys 1 ",
		"add" + strings.Repeat(" ", 1000), "add" + strings.Repeat(" r1", 1000),
	} {
		wantRead(t, line, api.Instr{}, api.ErrOperand)
	}
	for _, c := range chapter {
		wantRead(t, c.line+" ", api.Instr{}, api.ErrOperand)
		wantRead(t, c.line+" r0", api.Instr{}, api.ErrOperand)
		wantRead(t, c.line+" 0", api.Instr{}, api.ErrOperand)
		if c.shape == "" {
			continue
		}
		wantRead(t, c.name, api.Instr{}, api.ErrOperand)
		wantRead(t, c.name+" ", api.Instr{}, api.ErrOperand)
		wantRead(t, c.line[:strings.LastIndex(c.line, " ")], api.Instr{}, api.ErrOperand)
		wantRead(t, strings.Replace(c.line, " ", "  ", 1), api.Instr{}, api.ErrOperand)
	}
}

func TestP3_5Jumps(t *testing.T) {
	for _, c := range []struct {
		x    api.Instr
		at   int
		goes bool
	}{
		{api.Instr{Op: 22, Imm: 0}, 0, true},
		{api.Instr{Op: 22, Imm: math.MaxInt32}, math.MaxInt32, true},
		{api.Instr{Op: 23, A: 4, Imm: 9}, 9, true},
		{api.Instr{Op: 24, A: 15, Imm: -1}, -1, true},
		{api.Instr{Op: 26, Imm: math.MinInt32}, math.MinInt32, true},
		{api.Instr{Op: 25, A: 4}, -1, true},
		{api.Instr{Op: 25}, -1, true},
		{api.Instr{Op: 7, A: 1, B: 2, C: 3}, 0, false},
		{api.Instr{Op: 2, A: 1, Imm: 7}, 0, false},
		{api.Instr{Op: 27, Imm: 7}, 0, false},
		{api.Instr{Op: 1}, 0, false},
		{api.Instr{Op: 22, A: 1, Imm: 7}, 0, false},
		{api.Instr{Op: 22, C: 1, Imm: 7}, 0, false},
		{api.Instr{Op: 23, A: 16, Imm: 7}, 0, false},
		{api.Instr{Op: 24, B: 1, Imm: 7}, 0, false},
		{api.Instr{Op: 25, A: 16}, 0, false},
		{api.Instr{Op: 25, A: 1, Imm: 1}, 0, false},
		{api.Instr{Op: 26, A: 1, Imm: 7}, 0, false},
		{api.Instr{Op: 0, Imm: 7}, 0, false},
		{api.Instr{Op: 28, Imm: 7}, 0, false},
	} {
		if at, goes := isa.Jumps(c.x); at != c.at || goes != c.goes {
			t.Errorf("Jumps(%+v) = %d, %v, want %d, %v", c.x, at, goes, c.at, c.goes)
		}
	}
	everyInstr(func(x api.Instr) {
		at, goes := 0, false
		switch {
		case !legal(x):
		case x.Op == 22, x.Op == 23, x.Op == 24, x.Op == 26:
			at, goes = int(x.Imm), true
		case x.Op == 25:
			at, goes = -1, true
		}
		if gotAt, gotGoes := isa.Jumps(x); gotAt != at || gotGoes != goes {
			t.Errorf("Jumps(%+v) = %d, %v, want %d, %v", x, gotAt, gotGoes, at, goes)
		}
	})
}

func TestP3_6BytesComeBack(t *testing.T) {
	everyInstr(func(x api.Instr) {
		if got := isa.Decode(isa.Encode(x)); got != x {
			t.Errorf("%+v comes back as %+v", x, got)
		}
	})
	for i := range 8 {
		for v := range 256 {
			b := [8]byte{1, 2, 3, 4, 5, 6, 7, 8}
			b[i] = byte(v)
			if got := isa.Encode(isa.Decode(b)); got != b {
				t.Errorf("% x comes back as % x", b, got)
			}
		}
	}
}

func TestP3_6Names(t *testing.T) {
	seen := map[string]int{}
	for op := 1; op <= 27; op++ {
		name, _ := isa.Name(byte(op))
		if other, twice := seen[name]; twice {
			t.Errorf("operations %d and %d are both named %q", other, op, name)
		}
		seen[name] = op
		if name == "" || strings.Trim(name, "abcdefghijklmnopqrstuvwxyz") != "" {
			t.Errorf("operation %d has the name %q", op, name)
		}
	}
}

func TestP3_6LinesComeBack(t *testing.T) {
	back := func(x api.Instr) {
		line, ok := isa.Show(x)
		if !ok {
			return
		}
		if got, err := isa.Read(line); got != x || err != api.OK {
			t.Errorf("%+v is told as %q, which is read as %+v, %d", x, line, got, err)
		}
	}
	everyInstr(back)
	for _, c := range chapter {
		for _, imm := range edges {
			x := c.x
			x.Imm = imm
			back(x)
		}
	}
}

func TestP3_6WhatIsReadIsTold(t *testing.T) {
	taken := 0
	told := func(line string) {
		x, err := isa.Read(line)
		switch err {
		case api.OK:
			taken++
			if again, ok := isa.Show(x); again != line || !ok {
				t.Errorf("%q is read as %+v, which is told as %q, %v", line, x, again, ok)
			}
		case api.ErrOp, api.ErrOperand:
			if x != (api.Instr{}) {
				t.Errorf("Read(%q) = %+v, %d", line, x, err)
			}
		default:
			t.Errorf("Read(%q) = %+v, %d", line, x, err)
		}
	}
	letters := " rabdlnopstuxR0123456789-+_.,:\t\n\x00\xff"
	for _, c := range chapter {
		for i := 0; i <= len(c.line); i++ {
			told(c.line[:i])
			told(c.line[i:])
			for _, l := range []byte(letters) {
				told(c.line[:i] + string([]byte{l}) + c.line[i:])
				if i < len(c.line) {
					told(c.line[:i] + string([]byte{l}) + c.line[i+1:])
				}
			}
			if i < len(c.line) {
				told(c.line[:i] + c.line[i+1:])
			}
		}
	}
	if taken < 500 {
		t.Errorf("only %d of the spoiled lines are lines again", taken)
	}
}
