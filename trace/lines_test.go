package trace_test

import (
	"fmt"
	"math"
	"math/rand/v2"
	"strings"
	"testing"

	"bulkhead/api"
	"bulkhead/trace"
)

// oneToSixteen are the words of the longest message, as its line has them.
const oneToSixteen = "1 2 3 4 5 6 7 8 9 10 11 12 13 14 15 16"

// linesByHand are lines with their events.
func linesByHand() map[string]api.Event {
	return map[string]api.Event{
		"17 2 call 3 16 0":             {Tick: 17, Part: 2, Kind: api.EventCall, Proc: 3, A: 16},
		"0 1 out 0 4 0 5 -7":           {Part: 1, Kind: api.EventOut, A: 4, Data: []int64{5, -7}},
		"0 1 log 1 -1 0":               {Part: 1, Kind: api.EventLog, Proc: 1, A: -1},
		"9 10 fault 16 3 1023":         {Tick: 9, Part: 10, Kind: api.EventFault, Proc: 16, A: 3, B: 1023},
		"10 9 miss 10 100 -100":        {Tick: 10, Part: 9, Kind: api.EventMiss, Proc: 10, A: 100, B: -100},
		"1 32 overrun 2 1 0 0":         {Tick: 1, Part: 32, Kind: api.EventOverrun, Proc: 2, A: 1, Data: []int64{0}},
		"2 3 restart 0 0 0 0 0":        {Tick: 2, Part: 3, Kind: api.EventRestart, Data: []int64{0, 0}},
		"2 3 idle 0 0 0":               {Tick: 2, Part: 3, Kind: api.EventIdle},
		"2 3 wake 0 0 0":               {Tick: 2, Part: 3, Kind: api.EventWake},
		"2 3 arrive 0 64 0":            {Tick: 2, Part: 3, Kind: api.EventArrive, A: 64},
		"2 3 lost 0 64 0":              {Tick: 2, Part: 3, Kind: api.EventLost, A: 64},
		"1099511627775 3 start 16 0 0": {Tick: api.MaxTick - 1, Part: 3, Kind: api.EventStart, Proc: api.MaxProcs},
		"5 1 log 0 -9223372036854775808 9223372036854775807 9223372036854775807 -9223372036854775808": {
			Tick: 5, Part: 1, Kind: api.EventLog, A: math.MinInt64, B: math.MaxInt64, Data: []int64{math.MaxInt64, math.MinInt64}},
		"0 1 out 0 1 0 " + oneToSixteen: {Part: 1, Kind: api.EventOut, A: 1, Data: words(16)},
	}
}

// readsTo wants a line to be read as this event.
func readsTo(t *testing.T, line string, want api.Event) {
	t.Helper()
	if e, err := trace.Read(line); !sameEvent(e, want) || err != api.OK {
		t.Errorf("P23.5: %q: %v, %d, want %v", line, e, err, want)
	}
}

// isNone wants a line not to be read.
func isNone(t *testing.T, line string, want api.Errno) {
	t.Helper()
	if e, err := trace.Read(line); !sameEvent(e, api.Event{}) || err != want {
		t.Errorf("P23.5: %q: %v, %d, want %d", line[:min(len(line), 600)], e, err, want)
	}
	reads(t, line)
}

func TestP23_4_ShowAndP23_5_ReadByHand(t *testing.T) {
	for line, e := range linesByHand() {
		if got, ok := trace.Show(e); got != line || !ok {
			t.Errorf("P23.4: %v: %q, %v, want %q", e, got, ok, line)
		}
		readsTo(t, line, e)
	}
}

func TestP23_4_DoesNotGo(t *testing.T) {
	for what, e := range map[string]api.Event{
		"zero":              {},
		"tick -1":           at(-1, 1),
		"tick MaxTick":      at(api.MaxTick, 1),
		"the least tick":    at(math.MinInt, 1),
		"the greatest tick": at(math.MaxInt, 1),
		"part 0":            at(1, 0),
		"part -1":           at(1, -1),
		"part 33":           at(1, api.MaxParts+1),
		"the greatest part": at(1, math.MaxInt),
		"kind 0":            {Part: 1, Kind: 0},
		"kind -1":           {Part: 1, Kind: -1},
		"kind 13":           {Part: 1, Kind: 13},
		"the least kind":    {Part: 1, Kind: math.MinInt},
		"the greatest kind": {Part: 1, Kind: math.MaxInt},
		"proc -1":           {Part: 1, Kind: 1, Proc: -1},
		"proc 17":           {Part: 1, Kind: 1, Proc: api.MaxProcs + 1},
		"the greatest proc": {Part: 1, Kind: 1, Proc: math.MaxInt},
		"17 words":          at(1, 1, words(17)...),
		"very many words":   at(1, 1, words(1<<20)...),
	} {
		if line, ok := trace.Show(e); line != "" || ok {
			t.Errorf("P23.4: %s: %q, %v", what, line, ok)
		}
	}
}

// Each field about its edges, with each other.
func TestP23_4_Edges(t *testing.T) {
	events, going := edgeEvents()
	told := 0
	for _, e := range events {
		shows(t, e)
		if line, ok := trace.Show(e); ok {
			told++
			readsTo(t, line, e)
		}
	}
	if told != going {
		t.Errorf("%d go, want %d", told, going)
	}
	r := rand.New(rand.NewPCG(23, 3))
	for range 20000 {
		shows(t, anyEvent(r))
	}
}

// badNumbers are words that are no number's form, whatever field they stand in.
var badNumbers = []string{
	"", "-", "+", "--1", "-+1", "+-1", "+1", "+0", "-0", "00", "01", "-01", "007", "-00", "1-", "1-1", "0x1", "0b1", "0o7", "1e3", "1.0", "1.", ".1", "1_000", "1,000", "a", "1a", "a1", "1:", "1/", ":", "/", "inf", "nan", "nil",
	"9223372036854775808", "-9223372036854775809", "9223372036854775817", "18446744073709551616", "18446744073709551617", "-18446744073709551615", "10000000000000000000", "92233720368547758070", "99999999999999999999", "100000000000000000000000000000000000001",
	"\u0661", "\uff11", "\u22121", "1\u0661", "1\u00a0", "\xff", "1\xff", "1\x00", "\x00", "1\t", "\t1", "1\n", "\n1", "1\r", "1\v", "1\f", "1#", "'1'", "\"1\"",
}

// badNames are words that are no kind's name.
var badNames = []string{
	"", "Call", "CALL", "calL", "cal", "c", "calls", "call ", " call", "ca ll", "call\x00", "Out", "oUt", "ou", "outs", "lo", "logs", "Log", "star", "started", "Start", "restar", "estart", "arriv", "arrived", "over", "overrun_", "mis", "misses", "idl", "wak", "los", "faul", "faults",
	"1", "0", "12", "13", "-1", "none", "sleep", "message", "EventCall", "\u0441all", "call\u0301", "ca\u200bll", "\xff", "c\xffll", "call\n", "call\t", "callog", "call-log", "call,log",
}

// with is a line whose field at a place is this.
func with(line string, place int, field string) string {
	fields := strings.Split(line, " ")
	fields[place] = field
	return strings.Join(fields, " ")
}

func TestP23_5_BadFields(t *testing.T) {
	for line := range linesByHand() {
		for place := range strings.Split(line, " ") {
			if place == 2 {
				for _, name := range badNames {
					isNone(t, with(line, place, name), api.ErrForm)
				}
				continue
			}
			for _, number := range badNumbers {
				isNone(t, with(line, place, number), api.ErrForm)
			}
			for _, name := range kindNames {
				isNone(t, with(line, place, name), api.ErrForm)
			}
		}
		for place, list := range map[int][]string{
			0: {"-1", "1099511627776", "-1099511627775", "9223372036854775807", "-9223372036854775808"},
			1: {"0", "-1", "33", "256", "257", "4294967297", "9223372036854775807"},
			3: {"-1", "17", "256", "4294967296", "-9223372036854775808"},
		} {
			for _, number := range list {
				isNone(t, with(line, place, number), api.ErrForm)
			}
		}
	}
}

// Every name in the place of every other.
func TestP23_5_Names(t *testing.T) {
	for kind, name := range kindNames[1:] {
		readsTo(t, "1 2 "+name+" 3 4 5", api.Event{Tick: 1, Part: 2, Kind: kind + 1, Proc: 3, A: 4, B: 5})
		for length := range name {
			isNone(t, "1 2 "+name[:length]+" 3 4 5", api.ErrForm)
			isNone(t, "1 2 "+name[:length]+strings.ToUpper(name[length:length+1])+name[length+1:]+" 3 4 5", api.ErrForm)
			// The end of restart is a name too.
			reads(t, "1 2 "+name[length:]+" 3 4 5")
		}
		for _, other := range kindNames[1:] {
			isNone(t, "1 2 "+name+other+" 3 4 5", api.ErrForm)
			isNone(t, "1 2 "+name+" "+other+" 3 4 5", api.ErrForm)
		}
	}
}

func TestP23_5_Blanks(t *testing.T) {
	for line := range linesByHand() {
		fields := strings.Split(line, " ")
		for _, sign := range []string{" ", "  ", "\t", "\n", "\r", "\r\n", "\v", "\f", "\x00", "\u00a0", "\u2003", "\ufeff", "#", ","} {
			isNone(t, sign+line, api.ErrForm)
			isNone(t, line+sign, api.ErrForm)
			isNone(t, sign+line+sign, api.ErrForm)
			for place := 1; place < len(fields); place++ {
				ahead, behind := strings.Join(fields[:place], " "), strings.Join(fields[place:], " ")
				if sign != " " {
					isNone(t, ahead+sign+behind, api.ErrForm)
				}
				isNone(t, ahead+sign+" "+behind, api.ErrForm)
				isNone(t, ahead+" "+sign+behind, api.ErrForm)
			}
		}
		isNone(t, strings.ReplaceAll(line, " ", "  "), api.ErrForm)
		isNone(t, strings.ReplaceAll(line, " ", ""), api.ErrForm)
		isNone(t, line+"\n"+line, api.ErrForm)
	}
	for n := range 30 {
		isNone(t, strings.Repeat(" ", n), api.ErrForm)
	}
}

// Fewer fields than six, in any way; up to sixteen words, and no more.
func TestP23_5_NumbersOfFields(t *testing.T) {
	for line := range linesByHand() {
		fields := strings.Split(line, " ")
		for n := range 6 {
			isNone(t, strings.Join(fields[:n], " "), api.ErrForm)
			isNone(t, strings.Join(fields[:n], " ")+" ", api.ErrForm)
		}
		for place := range 6 {
			reads(t, strings.Join(append(append([]string(nil), fields[:place]...), fields[place+1:]...), " "))
		}
		for length := range line {
			reads(t, line[:length])
		}
	}
	for n := range 240 {
		line := "1 2 out 3 4 5" + strings.Repeat(" 7", n)
		if n <= 16 {
			data := make([]int64, n)
			for i := range data {
				data[i] = 7
			}
			readsTo(t, line, api.Event{Tick: 1, Part: 2, Kind: api.EventOut, Proc: 3, A: 4, B: 5, Data: data})
			continue
		}
		isNone(t, line, api.ErrForm)
	}
}

func TestP23_5_Lengths(t *testing.T) {
	isNone(t, "", api.ErrForm)
	for _, sign := range []string{"1", " ", "0", "a", "-", "\x00", "\xff", "\n"} {
		for _, n := range []int{1, 2, 511, 512} {
			isNone(t, strings.Repeat(sign, n), api.ErrForm)
		}
		for _, n := range []int{513, 514, 1024, 1 << 22} {
			isNone(t, strings.Repeat(sign, n), api.ErrLong)
		}
	}
	// It is the bytes that are counted.
	isNone(t, strings.Repeat("\u00e9", 256), api.ErrForm)
	isNone(t, strings.Repeat("\u00e9", 256)+"1", api.ErrLong)
	// A good line is too long with what stands behind it.
	line := "17 2 call 3 16 0"
	isNone(t, line+strings.Repeat(" ", 512-len(line)), api.ErrForm)
	isNone(t, line+strings.Repeat(" ", 513-len(line)), api.ErrLong)
	isNone(t, "1 2 out 3 4 5"+strings.Repeat(" 7", 250), api.ErrLong)
	// The longest line of all.
	longest := api.Event{Tick: lastTick, Part: 32, Kind: api.EventOverrun, Proc: 16, A: math.MinInt64, B: math.MinInt64}
	for range 16 {
		longest.Data = append(longest.Data, math.MinInt64)
	}
	told, ok := trace.Show(longest)
	if len(told) != 405 || !ok {
		t.Errorf("P23.4: %d bytes, %v", len(told), ok)
	}
	readsTo(t, told, longest)
}

// Numbers about the edges of each field, and of what an int64 holds.
func TestP23_5_NumbersAboutEdges(t *testing.T) {
	var list []string
	for _, centre := range []string{"0", "10", "16", "32", "64", "100", "255", "256", "65536", "4294967296", "1099511627775", "2199023255552", "9223372036854775807", "18446744073709551616", "99999999999999999999"} {
		list = append(list, about(centre)...)
		list = append(list, about("-"+centre)...)
	}
	for _, number := range list {
		for place := range 8 {
			if place != 2 {
				reads(t, with("1 2 out 3 4 5 6 7", place, number))
			}
		}
	}
	r := rand.New(rand.NewPCG(23, 4))
	for range 20000 {
		var digits strings.Builder
		if r.IntN(3) == 0 {
			digits.WriteString("-")
		}
		for range pick(r, 1, 2, 3, 13, 18, 19, 19, 20, 30) {
			digits.WriteString(pick(r, "0", "9", "8", "7", fmt.Sprint(r.IntN(10))))
		}
		reads(t, "1 1 log 1 "+digits.String()+" 0")
		reads(t, digits.String()+" 1 log 1 0 0")
		reads(t, "1 1 out 1 0 0 "+digits.String())
	}
}

// changed is a line of which a byte is another, missing, or there twice.
func changed(r *rand.Rand, line string) string {
	place := r.IntN(len(line))
	sign := string([]byte{pick(r, ' ', '0', '1', '9', '-', '+', '\t', '\n', 'e', 'o', byte(r.IntN(256)))})
	return pick(r, line[:place]+sign+line[place+1:], line[:place]+sign+line[place:], line[:place]+line[place+1:], line[:place]+line[place:place+1]+line[place:])
}

// Any line: those of events, changed a little; words that may stand in one; bytes.
func TestP23_5_WhateverLine(t *testing.T) {
	r := rand.New(rand.NewPCG(23, 5))
	read := 0
	for range 30000 {
		line, _ := lineOf(goingEvent(r))
		for range r.IntN(3) {
			line = changed(r, line+" ")
			line = strings.TrimSuffix(line, " ")
		}
		reads(t, line)
		e, err := trace.Read(line)
		if err != api.OK {
			continue
		}
		read++
		if again, ok := trace.Show(e); again != line || !ok {
			t.Fatalf("P23.9: %q is told again as %q, %v", line, again, ok)
		}
	}
	if read < 10000 || read > 25000 {
		t.Errorf("%d of 30000 were read", read)
	}
	for range 30000 {
		var fields []string
		for range pick(r, 6, 6, 6, 7, r.IntN(25)) {
			fields = append(fields, pick(r, "0", "1", "16", "-1", pick(r, badNumbers...), pick(r, kindNames...)))
		}
		if len(fields) > 2 {
			fields[2] = pick(r, "call", "out", fields[2])
		}
		reads(t, strings.Join(fields, " "))
		text := make([]byte, r.IntN(40))
		for i := range text {
			text[i] = pick(r, ' ', ' ', '0', '1', '-', 'o', 'u', 't', byte(r.IntN(256)))
		}
		reads(t, string(text))
	}
}
