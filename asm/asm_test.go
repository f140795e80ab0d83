package asm_test

import (
	"bytes"
	"fmt"
	"math"
	"math/rand/v2"
	"regexp"
	"slices"
	"sort"
	"strings"
	"testing"

	"bulkhead/api"
	"bulkhead/asm"
	"bulkhead/isa"
)

// place is a label with its place.
type place struct {
	name string
	at   int
}

// labels is what Labels answers, told as one list.
func labels(t *testing.T, source string) ([]place, api.Errno, int) {
	t.Helper()
	names, places, err, line := asm.Labels([]byte(source))
	if len(names) != len(places) {
		t.Fatalf("Labels(%.60q) = %q, %d: unlike lengths", source, names, places)
	}
	var list []place
	for i := range names {
		list = append(list, place{names[i], places[i]})
	}
	return list, err, line
}

// wantCode asks that a source is taken, with this code and these labels.
func wantCode(t *testing.T, source string, code []api.Instr, list ...place) {
	t.Helper()
	got, err, line := asm.Assemble([]byte(source))
	if !slices.Equal(got, code) || err != api.OK || line != 0 {
		t.Errorf("Assemble(%.60q) = %+v, %d, %d, want %+v", source, got, err, line, code)
	}
	for i, x := range got {
		if !isa.Legal(x) {
			t.Errorf("Assemble(%.60q): instruction %d is %+v, which is not legal", source, i, x)
		}
	}
	gotList, err, line := labels(t, source)
	if !slices.Equal(gotList, list) || err != api.OK || line != 0 {
		t.Errorf("Labels(%.60q) = %v, %d, %d, want %v", source, gotList, err, line, list)
	}
}

// wantFault asks that a source is refused by both calls, with this error and line and nothing beside them.
func wantFault(t *testing.T, source string, want api.Errno, at int) {
	t.Helper()
	code, err, line := asm.Assemble([]byte(source))
	if len(code) != 0 || err != want || line != at {
		t.Errorf("Assemble(%.60q) = %v, %d, %d, want %d, %d", source, code, err, line, want, at)
	}
	list, err, line := labels(t, source)
	if len(list) != 0 || err != want || line != at {
		t.Errorf("Labels(%.60q) = %v, %d, %d, want %d, %d", source, list, err, line, want, at)
	}
}

var (
	nop  = api.Instr{Op: 1}
	jmp0 = api.Instr{Op: 22}
)

// nops are that many instructions, and a source of them.
func nops(n int) ([]api.Instr, string) {
	return slices.Repeat([]api.Instr{nop}, n), strings.Repeat("nop\n", n)
}

func TestP4_1WhatIsHandedInStays(t *testing.T) {
	for _, source := range []string{"", "a: jmp a", "jmp b\nb:", "nop x", "a:\na:", "jmp x", "; only a remark", strings.Repeat("z", api.MaxSource+1)} {
		room := []byte(source + "a: nop ; behind")
		before := bytes.Clone(room)
		asm.Assemble(room[:len(source)])
		asm.Labels(room[:len(source)])
		if !bytes.Equal(room, before) {
			t.Errorf("%.60q has become %.60q", before, room)
		}
		code, err, line := asm.Assemble(room[:len(source)])
		alone, errAlone, lineAlone := asm.Assemble([]byte(source))
		if !slices.Equal(code, alone) || err != errAlone || line != lineAlone {
			t.Errorf("what lies behind %.60q counts: %v, %d, %d beside %v, %d, %d", source, code, err, line, alone, errAlone, lineAlone)
		}
	}
	room := []api.Instr{{Op: 22, Imm: 2}, {Op: 26, Imm: 0}, {Op: 22, Imm: 1}, {Op: 0, A: 9}}
	before := slices.Clone(room)
	for n := range len(room) + 1 {
		asm.Targets(room[:n])
		asm.Disassemble(room[:n])
		if !slices.Equal(room, before) {
			t.Errorf("%v has become %v", before, room)
		}
	}
}

func TestP4_1AnswersAreNewMemory(t *testing.T) {
	source := []byte("first: jmp last\nlast: jz r1 first")
	code, _, _ := asm.Assemble(source)
	names, places, _, _ := asm.Labels(source)
	targets := asm.Targets(code)
	for i := range source {
		source[i] = '#'
	}
	if !slices.Equal(names, []string{"first", "last"}) || !slices.Equal(places, []int{0, 1}) {
		t.Errorf("the labels change with the source: %q, %d", names, places)
	}
	clear(code[:cap(code)])
	if !slices.Equal(targets, []int{0, 1}) {
		t.Errorf("the targets change with the code: %d", targets)
	}
	source = []byte("first: jmp last\nlast: jz r1 first")
	clear(places[:cap(places)])
	clear(targets[:cap(targets)])
	wantCode(t, string(source), []api.Instr{{Op: 22, Imm: 1}, {Op: 23, A: 1}}, place{"first", 0}, place{"last", 1})
	again := asm.Targets([]api.Instr{{Op: 22, Imm: 1}, {Op: 23, A: 1}})
	if !slices.Equal(again, []int{0, 1}) {
		t.Errorf("Targets changes with an older answer: %d", again)
	}
}

func TestP4_1EveryCallEnds(t *testing.T) {
	asm.Assemble(nil)
	asm.Labels(nil)
	asm.Targets(nil)
	asm.Disassemble(nil)
	for b := range 256 {
		for _, form := range []string{"%s", "%s:", "%s: nop", "nop %s", "jmp %s", "ldi r%s 1", "a%s:", "add r1 r2 %s", "a: jmp a%s", "%s%s", "\n%s\n"} {
			source := strings.ReplaceAll(form, "%s", string([]byte{byte(b)}))
			compare(t, source)
		}
	}
	for op := range 256 {
		for _, imm := range []int32{0, 1, -1, math.MaxInt32, math.MinInt32} {
			code := []api.Instr{{Op: byte(op), A: 255, B: 255, C: 255, Imm: imm}, {Op: byte(op), Imm: imm}}
			asm.Targets(code)
			asm.Disassemble(code)
		}
	}
	for _, piece := range []string{"\n", " ", ";", ":", "a", "a:", "a ", "jmp a ", "nop\n", "r", "-", "9", "\xff", "é", "\x00", "a:\n"} {
		source := strings.Repeat(piece, api.MaxSource/len(piece))
		asm.Assemble([]byte(source))
		asm.Labels([]byte(source))
		source += strings.Repeat(piece, 2)
		wantFault(t, source, api.ErrLong, 0)
	}
}

func TestP4_2NoInstructions(t *testing.T) {
	for _, source := range []string{"", "\n", "\n\n\n", " ", "   \n ", ";", ";;", "\n ; a remark\n", "; nop", " ;nop\n;jmp x\n ; a: b: c:", "; \xff\x00 é\t\r"} {
		wantCode(t, source, nil)
	}
}

func TestP4_2Operations(t *testing.T) {
	var all string
	var code []api.Instr
	for op := byte(1); op <= 27; op++ {
		x := api.Instr{Op: op}
		shape, _ := isa.Shape(op)
		for i, letter := range shape {
			switch letter {
			case 'a':
				x.A = 15
			case 'b':
				x.B = 9
			case 'c':
				x.C = 10
			default:
				x.Imm = int32(-7 - i)
			}
		}
		line, ok := isa.Show(x)
		if !ok {
			t.Fatalf("no line of %+v", x)
		}
		wantCode(t, line, []api.Instr{x})
		wantCode(t, "  "+strings.ReplaceAll(line, " ", "   ")+"  ;"+line, []api.Instr{x})
		wantCode(t, "x:   "+line, []api.Instr{x}, place{"x", 0})
		all += line + "\n"
		code = append(code, x)
	}
	wantCode(t, all, code)
}

func TestP4_2Code(t *testing.T) {
	for _, c := range []struct {
		source string
		code   []api.Instr
		list   []place
	}{
		{"loop: addi r1 r1 -1 ; down\n jnz r1 loop\n sys 4", []api.Instr{{Op: 18, A: 1, B: 1, Imm: -1}, {Op: 24, A: 1}, {Op: 27, Imm: 4}}, []place{{"loop", 0}}},
		{"jmp end\nnop\nend:", []api.Instr{{Op: 22, Imm: 2}, nop}, []place{{"end", 2}}},
		{"jmp r1\nr1: jz r1 r1", []api.Instr{{Op: 22, Imm: 1}, {Op: 23, A: 1, Imm: 1}}, []place{{"r1", 1}}},
		{"nop:\n nop\njmp: jmp nop\ncall jmp", []api.Instr{nop, jmp0, {Op: 26, Imm: 1}}, []place{{"nop", 0}, {"jmp", 1}}},
		{"jmp -5\njmp 0\njmp 2147483647\ncall -2147483648", []api.Instr{{Op: 22, Imm: -5}, jmp0, {Op: 22, Imm: math.MaxInt32}, {Op: 26, Imm: math.MinInt32}}, nil},
		{"ldi r1 2147483647\nldi r2 -2147483648\nldi r3 -1\nldi r4 0", []api.Instr{{Op: 2, A: 1, Imm: math.MaxInt32}, {Op: 2, A: 2, Imm: math.MinInt32}, {Op: 2, A: 3, Imm: -1}, {Op: 2, A: 4}}, nil},
		{"add r0 r15 r9\nadd r10 r1 r14", []api.Instr{{Op: 7, B: 15, C: 9}, {Op: 7, A: 10, B: 1, C: 14}}, nil},
		{"jz r0 x\njnz r15 y\nx:\ny: nop", []api.Instr{{Op: 23, Imm: 2}, {Op: 24, A: 15, Imm: 2}, nop}, []place{{"x", 2}, {"y", 2}}},
		{"a: jmp a;b: nop", []api.Instr{jmp0}, []place{{"a", 0}}},
		{"a:;nop\njmp a;", []api.Instr{jmp0}, []place{{"a", 0}}},
		{"jmp a; b\na:", []api.Instr{{Op: 22, Imm: 1}}, []place{{"a", 1}}},
	} {
		wantCode(t, c.source, c.code, c.list...)
	}
}

func TestP4_2Names(t *testing.T) {
	for _, name := range []string{"a", "z", "m", "a0", "z9", "a_", "z_9", "a__", "l0", "r0", "r15", "r16", "nop", "abcdefghijklmnop", "a_0_1_2_3_4_5_6_", "zzzzzzzzzzzzzzzz", "z999999999999999"} {
		wantCode(t, "nop\n"+name+": jmp "+name, []api.Instr{nop, {Op: 22, Imm: 1}}, place{name, 1})
	}
	for _, name := range []string{"", ":", "a:", "A", "aB", "Z", "0", "9a", "_", "_a", "a-b", "-1", "5", "a.b", "a@", "a[", "a`", "`a", "{a", "a{", "a/", "a^", "abcdefghijklmnopq", "abcdefghijklmnopqrstuvwxyz", "a\t", "\ta", "a\r", "a\x00", "é", "aé", "ä", "a\xff", "\xff", "a\xc3", "a１", "ａ", strings.Repeat("a", 1000)} {
		wantFault(t, name+":", api.ErrLabel, 1)
		wantFault(t, name+": nop", api.ErrLabel, 1)
		wantFault(t, "\n  "+name+":  ; remark", api.ErrLabel, 2)
		if name != "" && name != "-1" && name != "0" && name != "5" {
			wantFault(t, "jmp "+name, api.ErrOperand, 1)
		}
	}
	for b := range 256 {
		letter := string([]byte{byte(b)})
		if letter == " " || letter == "\n" || letter == ";" {
			continue
		}
		begins := strings.Contains("abcdefghijklmnopqrstuvwxyz", letter)
		if begins {
			wantCode(t, letter+"x:", nil, place{letter + "x", 0})
		} else {
			wantFault(t, letter+"x:", api.ErrLabel, 1)
		}
		if begins || strings.Contains("0123456789_", letter) {
			wantCode(t, "x"+letter+"y:", nil, place{"x" + letter + "y", 0})
		} else {
			wantFault(t, "x"+letter+"y:", api.ErrLabel, 1)
		}
	}
}

func TestP4_2NoLabel(t *testing.T) {
	wantFault(t, "a: nop\na: nop", api.ErrLabel, 2)
	wantFault(t, "a:\na:", api.ErrLabel, 2)
	wantFault(t, "a:\nnop\n\n;\n a: ; again", api.ErrLabel, 5)
	wantFault(t, "a:\nb:\nc:\nb:\nc:\na:", api.ErrLabel, 4)
	wantFault(t, "jmp a\na:\na:", api.ErrLabel, 3)
	wantFault(t, ":", api.ErrLabel, 1)
	wantFault(t, ": nop", api.ErrLabel, 1)
	wantFault(t, "::", api.ErrLabel, 1)
	wantFault(t, "a:: nop", api.ErrLabel, 1)
	wantFault(t, "A: nop", api.ErrLabel, 1)
	wantFault(t, "a:b: nop", api.ErrLabel, 1)
	// Of one line the label's fault comes ahead of the others.
	wantFault(t, "A: halt", api.ErrLabel, 1)
	wantFault(t, "A: add r1", api.ErrLabel, 1)
	wantFault(t, "a:\na: halt", api.ErrLabel, 2)
	wantFault(t, "a:\na: ldi r1 x", api.ErrLabel, 2)
	_, full := nops(api.MaxCode)
	wantFault(t, full+"A: nop", api.ErrLabel, api.MaxCode+1)
	wantFault(t, "a: "+full+"a: nop", api.ErrLabel, api.MaxCode+1)
}

func TestP4_2NoOperation(t *testing.T) {
	for _, source := range []string{"Nop", "NOP", "nops", "no", "halt", "5", "r1", "x", "nop\t", "\tnop", "nop\r", "nop,", "x : nop", "x:nop", "a: b: nop", "a: b:", "a: :", "a: nop:", "halt r1 r2", "add,r1 r2 r3", "é", "\xff", "-", "_", "a: add:", "sltux r1 r2 r3"} {
		wantFault(t, source, api.ErrOp, 1)
		wantFault(t, "\nq: nop\n"+source, api.ErrOp, 3)
		wantFault(t, source+"\nA:\nadd\n", api.ErrOp, 1)
	}
	wantFault(t, "a:\nb: c: nop", api.ErrOp, 2)
	// Ahead of operands, which an operation that is none has not, and of the code's bound.
	wantFault(t, "halt r16 007 X", api.ErrOp, 1)
	_, full := nops(api.MaxCode)
	wantFault(t, full+"halt", api.ErrOp, api.MaxCode+1)
}

func TestP4_2NoOperand(t *testing.T) {
	for _, source := range []string{
		"nop 1", "nop r1", "nop nop", "nop x", "nop x:", "nop :", "nop a: b",
		"add", "add r1", "add r1 r2", "add r1 r2 r3 r4", "add r1 r2 r3 x", "add r1 r2 r3 0", "mul",
		"add r1 r2 r16", "add r16 r1 r2", "add r1 r16 r2", "add r1 r2 r01", "add r1 r2 r-1", "add r1 r2 r", "add r1 r2 R3", "add r1 r2 3", "add r1 r2 x", "add a b c", "add r1, r2, r3", "add r1 r2 r3:", "add r1\tr2 r3", "add r1: r2 r3",
		"ldi r1", "ldi r1 x", "ldi r1 r2", "ldi r1 007", "ldi r1 -0", "ldi r1 +5", "ldi r1 00", "ldi r1 2147483648", "ldi r1 -2147483649", "ldi r1 9223372036854775808", "ldi r1 4294967296", "ldi r1 0x5", "ldi r1 5:", "ldi x 5", "ldi 5 5", "ldi r1 5 5", "ldi r1 -", "ldi r1 1e3", "ldi r1 1_0",
		"jmp", "jmp -0", "jmp +1", "jmp 00", "jmp X", "jmp 9a", "jmp _a", "jmp a:", "jmp a-b", "jmp 2147483648", "jmp -2147483649", "jmp a b", "jmp 1 2", "jmp a 2", "jmp 1 a", "jmp abcdefghijklmnopq", "jmp é",
		"jz", "jz r1", "jz a", "jz a r1", "jz 5", "jz r16 a", "jz a a", "jz r1 a b", "jz r1 2 3", "jnz r1 X", "jnz r1 r1 r1", "jmr", "jmr a", "jmr 5", "jmr r16", "jmr r1 a", "call", "call a b", "call A", "sys", "sys a", "sys r1", "sys 1 2", "st r1 r2 a", "ld r1 r2 r3", "addi r1 r2 x", "mov r1 a",
	} {
		wantFault(t, source, api.ErrOperand, 1)
		wantFault(t, "a: "+source, api.ErrOperand, 1)
		wantFault(t, "a:\n\n"+strings.ReplaceAll(source, " ", "  ")+"   ; remark\nhalt", api.ErrOperand, 3)
		wantFault(t, source+"\na:\nx:\nb:", api.ErrOperand, 1)
	}
	_, full := nops(api.MaxCode)
	wantFault(t, full+"mul", api.ErrOperand, api.MaxCode+1)
}

func TestP4_2TooLong(t *testing.T) {
	all, full := nops(api.MaxCode)
	wantCode(t, full, all)
	wantCode(t, strings.TrimSuffix(full, "\n"), all)
	wantCode(t, full+"end: ; nop", all, place{"end", api.MaxCode})
	wantCode(t, full+"\n\n;\nend:\nlast:\n", all, place{"end", api.MaxCode}, place{"last", api.MaxCode})
	wantCode(t, full[4:]+"jmp end\nend:", append(all[1:len(all):len(all)], api.Instr{Op: 22, Imm: api.MaxCode}), place{"end", api.MaxCode})
	wantFault(t, full+"nop", api.ErrLong, api.MaxCode+1)
	wantFault(t, full+"\n\nx: jmp x\nnop", api.ErrLong, api.MaxCode+3)
	wantFault(t, full+"jmp nowhere", api.ErrLong, api.MaxCode+1)
	wantFault(t, "jmp nowhere\n"+full, api.ErrLong, api.MaxCode+1)
	wantFault(t, full+"nop\nhalt\nA:", api.ErrLong, api.MaxCode+1)
	wantFault(t, full+"end:\nhalt", api.ErrOp, api.MaxCode+2)

	for _, rest := range []string{" ", ";", "\n"} {
		source := "nop;" + strings.Repeat(rest, api.MaxSource-4)
		wantCode(t, source, all[:1])
		wantFault(t, source+rest, api.ErrLong, 0)
	}
	// The source's bound comes ahead of every line's fault.
	wantFault(t, "halt\n"+strings.Repeat("A:\n", api.MaxSource), api.ErrLong, 0)
	wantFault(t, full+"nop\n"+strings.Repeat(" ", api.MaxSource), api.ErrLong, 0)
	deep := strings.Repeat("\n", api.MaxSource-4)
	wantFault(t, deep+"halt", api.ErrOp, api.MaxSource-3)
	wantCode(t, deep+"nop", all[:1])
}

func TestP4_2NameThatIsNoLabel(t *testing.T) {
	wantFault(t, "jmp nowhere", api.ErrLabel, 1)
	wantFault(t, "nop\njmp a\njmp b\nb:", api.ErrLabel, 2)
	wantFault(t, "b:\n\njmp b\njz r1 a ; here\ncall c", api.ErrLabel, 4)
	wantFault(t, "jnz r1 r1", api.ErrLabel, 1)
	wantFault(t, "nop: jmp jmp", api.ErrLabel, 1)
	wantFault(t, "ab: call a", api.ErrLabel, 1)
	wantFault(t, "a: call ab", api.ErrLabel, 1)
	wantFault(t, "; a:\njmp a", api.ErrLabel, 2)
	// Every other fault comes first, in whatever line it stands.
	wantFault(t, "jmp nowhere\nmul", api.ErrOperand, 2)
	wantFault(t, "jmp nowhere\nhalt", api.ErrOp, 2)
	wantFault(t, "jmp nowhere\n\n\nA:", api.ErrLabel, 4)
	wantFault(t, "jmp nowhere\na:\nnop\na:", api.ErrLabel, 4)
	wantFault(t, "jmp x\njmp y y", api.ErrOperand, 2)
}

func TestP4_3Labels(t *testing.T) {
	wantCode(t, "b:\na:\nc: call a\nz_9: add r15 r0 r10", []api.Instr{{Op: 26}, {Op: 7, A: 15, C: 10}}, place{"a", 0}, place{"b", 0}, place{"c", 0}, place{"z_9", 1})
	wantCode(t, "z: nop\ny: nop\nx: nop\nw:", []api.Instr{nop, nop, nop}, place{"z", 0}, place{"y", 1}, place{"x", 2}, place{"w", 3})
	wantCode(t, "b:\na_:\na0:\naa:\na:\nab:\na9:", nil,
		place{"a", 0}, place{"a0", 0}, place{"a9", 0}, place{"a_", 0}, place{"aa", 0}, place{"ab", 0}, place{"b", 0})
	wantCode(t, "l10:\nl9:\nl1:\nnop\nk:", []api.Instr{nop}, place{"l1", 0}, place{"l10", 0}, place{"l9", 0}, place{"k", 1})
	wantCode(t, "nop\n\n ; x\nlast: ; at the end", []api.Instr{nop}, place{"last", 1})

	var source strings.Builder
	var want []place
	var code []api.Instr
	for i := range 900 {
		for j := range 3 {
			name := fmt.Sprintf("q%d_%d", (i*7919)%1000, (j*2+i)%3)
			fmt.Fprintf(&source, "%s:\n", name)
			want = append(want, place{name, i})
		}
		source.WriteString("nop\n")
		code = append(code, nop)
	}
	sort.Slice(want, func(i, j int) bool {
		if want[i].at != want[j].at {
			return want[i].at < want[j].at
		}
		return want[i].name < want[j].name
	})
	for range 3 {
		wantCode(t, source.String(), code, want...)
	}
}

func TestP4_4Targets(t *testing.T) {
	for _, c := range []struct {
		code []api.Instr
		want []int
	}{
		{nil, nil},
		{[]api.Instr{}, nil},
		{[]api.Instr{nop, nop}, nil},
		{[]api.Instr{{Op: 22, Imm: 0}}, []int{0}},
		{[]api.Instr{{Op: 22, Imm: 1}}, []int{1}},
		{[]api.Instr{{Op: 22, Imm: 2}}, nil},
		{[]api.Instr{{Op: 22, Imm: -1}}, nil},
		{[]api.Instr{{Op: 23, A: 3}, {Op: 22, Imm: -5}}, []int{0}},
		{[]api.Instr{{Op: 22, Imm: 3}, {Op: 23, A: 1, Imm: 2}, {Op: 24, A: 15, Imm: 3}, {Op: 26, Imm: 0}, {Op: 22, Imm: 5}, {Op: 22, Imm: 6}}, []int{0, 2, 3, 5, 6}},
		{[]api.Instr{{Op: 22, Imm: 5}, {Op: 22, Imm: 4}, {Op: 22, Imm: 3}, {Op: 22, Imm: 4}, {Op: 22, Imm: 5}}, []int{3, 4, 5}},
		{[]api.Instr{{Op: 25, A: 1}, {Op: 25}}, nil},
		{[]api.Instr{{Op: 2, A: 1, Imm: 1}, {Op: 27, Imm: 1}, {Op: 18, Imm: 2}, {Op: 5, Imm: 0}}, nil},
		{[]api.Instr{{Op: 22, A: 1}, {Op: 22, B: 1}, {Op: 22, C: 1}, {Op: 23, A: 16}, {Op: 24, B: 2}, {Op: 26, A: 1}, {Op: 0}, {Op: 28}, {Op: 255, Imm: 3}}, nil},
		{[]api.Instr{{Op: 22, A: 1}, {Op: 22, Imm: 1}}, []int{1}},
		{[]api.Instr{{Op: 22, Imm: math.MaxInt32}, {Op: 26, Imm: math.MinInt32}, {Op: 26, Imm: 3}}, []int{3}},
	} {
		if got := asm.Targets(c.code); !slices.Equal(got, c.want) {
			t.Errorf("Targets(%+v) = %d, want %d", c.code, got, c.want)
		}
	}
	long := make([]api.Instr, 3*api.MaxCode)
	var want []int
	for i := range long {
		long[i] = api.Instr{Op: 22, Imm: int32(len(long) - i/2*2)}
		if i%2 == 0 {
			want = append(want, i+2)
		}
	}
	if got := asm.Targets(long); !slices.Equal(got, want) {
		t.Errorf("Targets of %d jumps = %d, want %d", len(long), got, want)
	}
}

func TestP4_5Disassemble(t *testing.T) {
	for _, c := range []struct {
		code []api.Instr
		want string
	}{
		{nil, ""},
		{[]api.Instr{nop}, "nop\n"},
		{[]api.Instr{{Op: 22, Imm: 2}, nop}, "jmp l2\nnop\nl2:\n"},
		{[]api.Instr{{Op: 23, A: 3}, {Op: 22, Imm: -5}}, "l0: jz r3 l0\njmp -5\n"},
		{[]api.Instr{{Op: 22, Imm: 1}}, "jmp l1\nl1:\n"},
		{[]api.Instr{{Op: 22, Imm: 2}}, "jmp 2\n"},
		{[]api.Instr{{Op: 22, Imm: -1}}, "jmp -1\n"},
		{[]api.Instr{{Op: 26, Imm: math.MaxInt32}, {Op: 26, Imm: math.MinInt32}}, "call 2147483647\ncall -2147483648\n"},
		{[]api.Instr{{Op: 22, Imm: 2}, {Op: 25, A: 9}, {Op: 26, Imm: 4}, {Op: 24, A: 1, Imm: 2}}, "jmp l2\njmr r9\nl2: call l4\njnz r1 l2\nl4:\n"},
		{[]api.Instr{{Op: 2, A: 7, Imm: 1}, {Op: 22, Imm: 1}, {Op: 27, Imm: 1}, {Op: 18, A: 1, B: 2, Imm: 1}}, "ldi r7 1\nl1: jmp l1\nsys 1\naddi r1 r2 1\n"},
		{[]api.Instr{{Op: 7, A: 1, B: 2, C: 3}, {Op: 23, A: 15, Imm: 0}}, "l0: add r1 r2 r3\njz r15 l0\n"},
		{[]api.Instr{{Op: 5, A: 1, B: 2, Imm: -3}, {Op: 2, Imm: 2}, {Op: 24, Imm: 3}}, "ld r1 r2 -3\nldi r0 2\njnz r0 l3\nl3:\n"},
	} {
		if got, err := asm.Disassemble(c.code); got != c.want || err != api.OK {
			t.Errorf("Disassemble(%+v) = %q, %d, want %q", c.code, got, err, c.want)
		}
	}
	far := slices.Repeat([]api.Instr{nop}, api.MaxCode)
	far[0] = api.Instr{Op: 22, Imm: api.MaxCode}
	far[1] = api.Instr{Op: 26, Imm: 1000}
	want := "jmp l1024\ncall l1000\n" + strings.Repeat("nop\n", 998) + "l1000: nop\n" + strings.Repeat("nop\n", 23) + "l1024:\n"
	if got, err := asm.Disassemble(far); got != want || err != api.OK {
		t.Errorf("Disassemble of %d instructions = %q, %d", len(far), got, err)
	}
}

func TestP4_5Refusals(t *testing.T) {
	refuse := func(code []api.Instr, want api.Errno) {
		t.Helper()
		if got, err := asm.Disassemble(code); got != "" || err != want {
			t.Errorf("Disassemble of %d instructions = %q, %d, want %d", len(code), got, err, want)
		}
	}
	all, _ := nops(api.MaxCode + 1)
	refuse(all, api.ErrLong)
	refuse(make([]api.Instr, api.MaxCode+1), api.ErrLong)
	refuse(append(slices.Clone(all), api.Instr{Op: 99}), api.ErrLong)
	for _, x := range []api.Instr{{}, {Op: 28}, {Op: 255}, {Op: 1, A: 1}, {Op: 1, Imm: 5}, {Op: 4, A: 15, B: 16}, {Op: 7, A: 1, B: 2, C: 16}, {Op: 7, Imm: 1}, {Op: 22, A: 1}, {Op: 22, C: 1, Imm: 1}, {Op: 23, A: 16}, {Op: 25, Imm: -1}, {Op: 27, B: 1}} {
		refuse([]api.Instr{x}, api.ErrOp)
		refuse([]api.Instr{x, nop, jmp0}, api.ErrOp)
		refuse([]api.Instr{nop, jmp0, x}, api.ErrOp)
		refuse(append(slices.Clone(all[:api.MaxCode-1]), x), api.ErrOp)
	}
}

// anyCode is legal code of n instructions, whose places lie around the code and its ends.
func anyCode(chance *rand.Rand, n int) []api.Instr {
	code := make([]api.Instr, n)
	for i := range code {
		x := api.Instr{Op: byte(1 + chance.IntN(27))}
		if chance.IntN(3) == 0 {
			x.Op = []byte{22, 23, 24, 26}[chance.IntN(4)]
		}
		shape, _ := isa.Shape(x.Op)
		for _, letter := range shape {
			switch letter {
			case 'a':
				x.A = byte(chance.IntN(16))
			case 'b':
				x.B = byte(chance.IntN(16))
			case 'c':
				x.C = byte(chance.IntN(16))
			case 'n':
				x.Imm = int32(chance.Uint32())
			case 'p':
				x.Imm = int32(chance.IntN(n+5) - 2)
			}
		}
		code[i] = x
	}
	return code
}

func TestP4_6CodeComesBack(t *testing.T) {
	chance := rand.New(rand.NewPCG(4, 6))
	sizes := []int{0, 1, 2, 3, 5, 10, 11, 100, 101, 1000, api.MaxCode - 1, api.MaxCode}
	for range 300 {
		sizes = append(sizes, chance.IntN(40))
	}
	for _, n := range sizes {
		code := anyCode(chance, n)
		text, err := asm.Disassemble(code)
		if err != api.OK {
			t.Fatalf("Disassemble(%+v) = %d", code, err)
		}
		var want []place
		for _, at := range asm.Targets(code) {
			want = append(want, place{fmt.Sprintf("l%d", at), at})
		}
		// Labels of unlike places stand by their places, so l10 comes behind l9.
		wantCode(t, text, code, want...)
	}
	all := slices.Repeat([]api.Instr{{Op: 24, A: 15, Imm: 0}}, api.MaxCode)
	for i := range all {
		all[i].Imm = int32(i + 1)
	}
	text, err := asm.Disassemble(all)
	if got, _, _ := asm.Assemble([]byte(text)); err != api.OK || !slices.Equal(got, all) {
		t.Errorf("code of jumps alone comes back as %v of %q", got, text)
	}
}

func TestP4_6OnlyTheWordsCount(t *testing.T) {
	plain := "start:\nldi r1 5\nloop: addi r1 r1 -1\njz r1 done\njmp loop\ndone:\ncall start\njmp 0\nend:"
	code, err, _ := asm.Assemble([]byte(plain))
	if err != api.OK || len(code) != 6 {
		t.Fatalf("Assemble(%q) = %v, %d", plain, code, err)
	}
	list, _, _ := labels(t, plain)
	for _, c := range []struct{ old, new string }{
		{" ", "  "}, {" ", strings.Repeat(" ", 99)},
		{"\n", " \n"}, {"\n", "\n "}, {"\n", "   \n   "},
		{"\n", ";\n"}, {"\n", " ; jmp x : y:\n"}, {"\n", ";;;\n"},
		{"\n", "\n\n"}, {"\n", "\n;\n"}, {"\n", "\n  ; A: halt\n"},
		{":", ": "}, {":\n", ":;\n"}, {": ", ":\n"}, {": ", ":\n\n ; remark\n"},
	} {
		source := strings.ReplaceAll(plain, c.old, c.new)
		wantCode(t, source, code, list...)
		wantCode(t, "\n \n;\n"+source+"\n\n ;", code, list...)
	}
	for _, c := range [][]string{{"start", "a"}, {"loop", "start_0123456789"}, {"done", "r1"}, {"end", "jmp"}} {
		renamed := regexp.MustCompile(`\b`+c[0]+`\b`).ReplaceAllString(plain, c[1])
		got, err, line := asm.Assemble([]byte(renamed))
		if !slices.Equal(got, code) || err != api.OK || line != 0 {
			t.Errorf("Assemble(%q) = %v, %d, %d, want %v", renamed, got, err, line, code)
		}
	}
}

var (
	labelWord  = regexp.MustCompile(`^[a-z][a-z0-9_]{0,15}:$`)
	nameWord   = regexp.MustCompile(`^[a-z][a-z0-9_]{0,15}$`)
	regWord    = regexp.MustCompile(`^r([0-9]|1[0-5])$`)
	numberWord = regexp.MustCompile(`^(0|-?[1-9][0-9]{0,9})$`)
	remark     = regexp.MustCompile(`(?s);.*`)
	notBlank   = regexp.MustCompile(`[^ ]+`)
)

// operandFits tells, by the chapter's words alone, whether an operand may stand for a letter of a shape.
func operandFits(letter rune, word string) bool {
	number := func() bool {
		var n int64
		if numberWord.MatchString(word) {
			fmt.Sscan(word, &n)
			return math.MinInt32 <= n && n <= math.MaxInt32
		}
		return false
	}
	switch letter {
	case 'n':
		return number()
	case 'p':
		return number() || nameWord.MatchString(word)
	}
	return regWord.MatchString(word)
}

// lineFault is the first fault of a line's words, behind these labels and that many instructions.
func lineFault(words []string, labels map[string]int, ahead int) api.Errno {
	if len(words) > 0 && strings.HasSuffix(words[0], ":") {
		if _, twice := labels[words[0]]; twice || !labelWord.MatchString(words[0]) {
			return api.ErrLabel
		}
		words = words[1:]
	}
	if len(words) == 0 {
		return api.OK
	}
	for op := byte(1); op <= 27; op++ {
		if name, _ := isa.Name(op); name != words[0] {
			continue
		}
		shape, _ := isa.Shape(op)
		if len(words)-1 != len(shape) {
			return api.ErrOperand
		}
		for i, letter := range shape {
			if !operandFits(letter, words[i+1]) {
				return api.ErrOperand
			}
		}
		if ahead >= api.MaxCode {
			return api.ErrLong
		}
		return api.OK
	}
	return api.ErrOp
}

// fault tells by the chapter's words which fault decides, how many instructions and which labels there are.
func fault(source string) (err api.Errno, line, count int, found map[string]int) {
	if len(source) > api.MaxSource {
		return api.ErrLong, 0, 0, nil
	}
	found = map[string]int{}
	lines := strings.Split(source, "\n")
	names := make([]string, len(lines))
	for i, text := range lines {
		words := notBlank.FindAllString(remark.ReplaceAllString(text, ""), -1)
		if err := lineFault(words, found, count); err != api.OK {
			return err, i + 1, 0, nil
		}
		if len(words) > 0 && strings.HasSuffix(words[0], ":") {
			found[words[0]] = count
			words = words[1:]
		}
		if len(words) > 0 {
			count++
			if slices.Contains([]string{"jmp", "jz", "jnz", "call"}, words[0]) && nameWord.MatchString(words[len(words)-1]) {
				names[i] = words[len(words)-1]
			}
		}
	}
	for i, name := range names {
		if _, ok := found[name+":"]; name != "" && !ok {
			return api.ErrLabel, i + 1, 0, nil
		}
	}
	return api.OK, 0, count, found
}

// compare asks that a source is taken or refused as the chapter's words say.
func compare(t *testing.T, source string) api.Errno {
	t.Helper()
	want, at, count, found := fault(source)
	code, err, line := asm.Assemble([]byte(source))
	list, errList, lineList := labels(t, source)
	if err != want || line != at || len(code) != count || errList != want || lineList != at || len(list) != len(found) {
		t.Errorf("Assemble(%.90q) = %v, %d, %d; Labels = %v, %d, %d; want %d instructions, labels %v, %d, %d", source, code, err, line, list, errList, lineList, count, found, want, at)
	}
	for _, l := range list {
		if at, ok := found[l.name+":"]; !ok || at != l.at {
			t.Errorf("Labels(%.90q) = %v, want %v", source, list, found)
		}
	}
	for _, x := range code {
		if !isa.Legal(x) {
			t.Errorf("Assemble(%.90q): %+v is not legal", source, x)
		}
	}
	return want
}

func TestP4_2BesideTheChaptersWords(t *testing.T) {
	chance := rand.New(rand.NewPCG(4, 2))
	firsts := []string{"", "", "", "a: ", "b:", "c:  ", " a:", "A: ", ": ", "a:: ", "x:", "a :"}
	ops := []string{"", "nop", "nop", "jmp a", "jmp b", "jz r1 c", "call 5", "ldi r1 -3", "add r1 r2 r15", "mul", "jmp", "halt", "ldi r1 007", "jmp 1 2", "add r1 r2 r16", "sys 2147483648", "jmp nowhere", "jnz r0 a:", "nop\t", "mov  r1   r2", "jmp -0", "jmr a"}
	lasts := []string{"", "", " ", ";", " ; a: nop", ";;", " x", ":"}
	seen := map[api.Errno]int{}
	for range 40000 {
		var lines []string
		for range 1 + chance.IntN(4) {
			// The well-made ones stand first in each list, so that some sources have no fault.
			pick := func(list []string, good int) string {
				if chance.IntN(4) > 0 {
					return list[chance.IntN(good)]
				}
				return list[chance.IntN(len(list))]
			}
			lines = append(lines, pick(firsts, 7)+" "[:chance.IntN(2)]+pick(ops, 9)+pick(lasts, 6))
		}
		seen[compare(t, strings.Join(lines, "\n"))]++
	}
	for _, err := range []api.Errno{api.OK, api.ErrLabel, api.ErrOp, api.ErrOperand} {
		if seen[err] < 1000 {
			t.Errorf("only %d of the sources answer %d", seen[err], err)
		}
	}
}

func TestP4_2OneLetterSpoiled(t *testing.T) {
	plain := "go: ldi r1 10 ; ten\n addi r1 r1 -1\n jnz r1 go\n call end\nend:"
	letters := " \n;:ar1Z0-+_\t\x00\xff,"
	for i := 0; i <= len(plain); i++ {
		compare(t, plain[:i])
		compare(t, plain[i:])
		for _, l := range []byte(letters) {
			compare(t, plain[:i]+string([]byte{l})+plain[i:])
			if i < len(plain) {
				compare(t, plain[:i]+string([]byte{l})+plain[i+1:])
			}
		}
		if i < len(plain) {
			compare(t, plain[:i]+plain[i+1:])
		}
	}
}
