package script_test

import (
	"fmt"
	"math"
	"math/rand/v2"
	"strings"
	"testing"

	"bulkhead/api"
	"bulkhead/script"
)

// oneToSixteen are the words of the longest message, as its line has them.
const oneToSixteen = "1 2 3 4 5 6 7 8 9 10 11 12 13 14 15 16"

// linesByHand are lines with their inputs.
func linesByHand() map[string]api.Input {
	return map[string]api.Input{
		"7 message 2 5 -1":                          message(7, 2, 5, -1),
		"0 wake 3":                                  wake(0, 3),
		"0 wake 1":                                  wake(0, 1),
		"1099511627775 wake 32":                     wake(api.MaxTick-1, api.MaxParts),
		"1099511627775 message 64 0":                message(api.MaxTick-1, api.MaxChannels, 0),
		"10 message 1 0 0":                          message(10, 1, 0, 0),
		"1 message 33 -9223372036854775808":         message(1, 33, math.MinInt64),
		"1 message 10 9223372036854775807 -1 1 -10": message(1, 10, math.MaxInt64, -1, 1, -10),
		"1 message 1 -9223372036854775807":          message(1, 1, math.MinInt64+1),
		"1 message 1 9223372036854775799":           message(1, 1, 9223372036854775799),
		"0 message 1 " + oneToSixteen:               message(0, 1, words(16)...),
	}
}

// readsTo wants a text to be read as these inputs.
func readsTo(t *testing.T, text string, want ...api.Input) {
	t.Helper()
	if list, err, number := script.Read([]byte(text)); !same(list, want) || err != api.OK || number != 0 {
		t.Errorf("P21.4: %q: %s, %d, %d, want %s", text[:min(len(text), 300)], few(list), err, number, few(want))
	}
}

// stopsAt wants a text to be refused at this line.
func stopsAt(t *testing.T, text string, want api.Errno, line int) {
	t.Helper()
	if list, err, number := script.Read([]byte(text)); len(list) != 0 || err != want || number != line {
		t.Errorf("P21.4: %q: %s, %d, %d, want %d, %d", text[:min(len(text), 300)], few(list), err, number, want, line)
	}
}

func TestP21_3_ShowAndP21_4_ReadByHand(t *testing.T) {
	for line, x := range linesByHand() {
		if got, ok := script.Show(x); got != line || !ok {
			t.Errorf("P21.3: %v: %q, %v, want %q", x, got, ok, line)
		}
		readsTo(t, line, x)
		readsTo(t, line+"\n", x)
	}
}

func TestP21_3_NotLined(t *testing.T) {
	withData := wake(1, 1)
	withData.Data = []int64{1}
	for what, x := range map[string]api.Input{
		"zero":                      {},
		"tick -1":                   wake(-1, 1),
		"tick MaxTick":              wake(api.MaxTick, 1),
		"the least tick":            message(math.MinInt, 1, 1),
		"the greatest tick":         message(math.MaxInt, 1, 1),
		"tick -1, a message":        message(-1, 1, 1),
		"tick MaxTick, a message":   message(api.MaxTick, 1, 1),
		"wake 0":                    wake(1, 0),
		"wake -1":                   wake(1, -1),
		"wake MaxParts + 1":         wake(1, api.MaxParts+1),
		"wake MaxChannels":          wake(1, api.MaxChannels),
		"message 0":                 message(1, 0, 1),
		"message -1":                message(1, -1, 1),
		"message MaxChannels + 1":   message(1, api.MaxChannels+1, 1),
		"the least target":          message(1, math.MinInt, 1),
		"the greatest target":       wake(1, math.MaxInt),
		"no words":                  message(1, 1),
		"MaxSize + 1 words":         message(1, 1, words(17)...),
		"very many words":           message(1, 1, words(1<<20)...),
		"a wake with a word":        withData,
		"a wake with MaxSize words": {Tick: 1, Kind: api.InputWake, Target: 1, Data: words(16)},
		"kind 0":                    {Tick: 1, Kind: 0, Target: 1},
		"kind 0 with a word":        {Tick: 1, Kind: 0, Target: 1, Data: words(1)},
		"kind 3":                    {Tick: 1, Kind: 3, Target: 1},
		"kind 3 with a word":        {Tick: 1, Kind: 3, Target: 1, Data: words(1)},
		"kind -1":                   {Tick: 1, Kind: -1, Target: 1},
		"the least kind":            {Tick: 1, Kind: math.MinInt, Target: 1},
		"the greatest kind":         {Tick: 1, Kind: math.MaxInt, Target: 1},
	} {
		if line, ok := script.Show(x); line != "" || ok {
			t.Errorf("P21.3: %s: %q, %v", what, line, ok)
		}
	}
}

// Each tick, kind, target and number of words about the edges, with each other.
func TestP21_3_Edges(t *testing.T) {
	lined := 0
	for _, tick := range []int{math.MinInt, -1, 0, 1, 9, 10, lastTick - 1, lastTick, lastTick + 1, math.MaxInt} {
		for kind := -1; kind <= 4; kind++ {
			for _, target := range []int{math.MinInt, -1, 0, 1, 2, 31, 32, 33, 63, 64, 65, math.MaxInt} {
				for many := range 20 {
					x := api.Input{Tick: tick, Kind: kind, Target: target, Data: words(many)}
					shows(t, x)
					line, ok := script.Show(x)
					if ok {
						lined++
						readsTo(t, line, x)
					}
				}
			}
		}
	}
	// Six ticks; messages on 7 channels with 16 numbers of words, wakes of 4 partitions.
	if want := 6 * (7*16 + 4); lined != want {
		t.Errorf("%d are lined, want %d", lined, want)
	}
	r := rand.New(rand.NewPCG(21, 4))
	for range 20000 {
		shows(t, anyInput(r))
	}
}

// badLines are lines that are no input's.
func badLines() []string {
	list := []string{
		// Numbers in another form.
		"07 wake 3", "00 wake 3", "7 wake 03", "7 wake 00", "7 message 01 5", "7 message 1 05", "7 message 1 00", "7 message 1 -05", "7 message 1 5 00",
		"+7 wake 3", "7 wake +3", "7 message 1 +5", "7 message 1 +0", "7 message +1 5",
		"-0 wake 3", "7 wake -0", "7 message 1 -0", "7 message 1 -00", "7 message 1 --5", "7 message 1 -", "7 message 1 5-", "7 message 1 1-5", "7 message 1 - 5", "- wake 3", "7 wake -",
		"7 message 1 0x5", "7 message 1 1e3", "7 message 1 1.0", "7 message 1 1_000", "7 message 1 1,5", "7 message 1 a", "7 message 1 0b1", "7 message 1 5:", "7 message 1 5/", "7 message 1 :", "7 message 1 /",
		// Blanks.
		" ", "  ", " 7 wake 3", "  7 wake 3", "7 wake 3 ", "7 wake 3  ", "7  wake 3", "7 wake  3", "7 message  1 5", "7 message 1  5", "7 message 1 5  6", "7 message 1 5 ", "7 message 1 ", "7 wake ", "7 ", "7  3",
		"7\twake 3", "7 wake\t3", "7 wake 3\t", "\t7 wake 3", "7 wake 3\r", "\r", "\t", "7 wake 3\v", "7 wake 3\x00", "\x00", "7 message 1 5\r", "7\u00a0wake 3", "7 wake 3\f",
		// Words.
		"7 sleep 3", "7 Wake 3", "7 WAKE 3", "7 wak 3", "7 wakes 3", "7 awake 3", "7 messag 3 1", "7 messages 3 1", "7 Message 3 1", "wake", "message", "wake 7 3", "7 3 wake", "wake 3", "message 1 5", "7 2 3", "7 1 3 5", "7 wake message 3", "7 message wake 5", "7 message 1 wake", "7 wake wake", "x", "7", "-", "7 wake", "7 message", "7wake 3", "7 wake3", "7 wake 3#", "7 wake 3 # why", " # why", " #", "7 # wake 3",
		// A missing or a further number.
		"7 message 1", "7 message 64", "7 wake 3 1", "7 wake 3 0", "7 wake 3 3 3", "0 message 1 " + oneToSixteen + " 17", "0 message 1 " + oneToSixteen + " 17 18", "0 message 1 " + oneToSixteen + " x", "0 wake 1 " + oneToSixteen,
		// Numbers beyond their ends.
		"-1 wake 1", "-1 message 1 5", "1099511627776 wake 1", "1099511627776 message 1 5", "1099511627777 wake 1", "9223372036854775807 wake 1", "9223372036854775808 wake 1", "-9223372036854775808 wake 1", "18446744073709551616 wake 1", "18446744073709551623 wake 3",
		"7 wake 0", "7 wake -1", "7 wake 33", "7 wake 64", "7 wake 9223372036854775807", "7 wake 9223372036854775808", "7 wake 18446744073709551617", "7 wake 4294967297",
		"7 message 0 5", "7 message -1 5", "7 message 65 5", "7 message 18446744073709551617 5", "7 message 4294967297 5",
		"7 message 1 9223372036854775808", "7 message 1 9223372036854775809", "7 message 1 9223372036854775810", "7 message 1 -9223372036854775809", "7 message 1 -9223372036854775810", "7 message 1 92233720368547758070", "7 message 1 -92233720368547758080", "7 message 1 18446744073709551615", "7 message 1 18446744073709551616", "7 message 1 18446744073709551617", "7 message 1 -18446744073709551617", "7 message 1 99999999999999999999", "7 message 1 " + strings.Repeat("9", 400), "7 message 1 1" + strings.Repeat("0", 64), "7 message 1 5 9223372036854775808 6",
		// Signs that are no bytes of ASCII, digits and blanks of other scripts among them; bytes that are no UTF-8.
		"0 wake \u0661", "\u0660 wake 1", "0 wake \uff11", "0 message 1 \u2212" + "5", "0 message 1 \u0665", "0 message 1 5\u0660", "0 wake 1\u00b2", "0 w\u00e4ke 1", "0 w\u0430ke 1", "\ufeff0 wake 1", "0 wake 1\u2028", "0 wake 1\u0085", "0 wake \U0001d7cf",
		"\xff", "0 wake \xff", "0 wake 1\xff", "\xff0 wake 1", "0 wake 1\xc3", "0 wake \xb1", "0 message 1 \xe2\x88", "0 message 1 5\x80", "0 w\xe4ke 1", "0 wake\xa01", "0 message 1 \xf0\x9d\x9f", "0 wake \xb11", "0 message 1 1\xb05", "0 message 1 \xed\xa0\x80",
		// The replacement sign itself.
		"0 wake \ufffd", "0 wake 1\ufffd",
	}
	return list
}

func TestP21_4_BadLines(t *testing.T) {
	for _, line := range badLines() {
		stopsAt(t, line, api.ErrForm, 1)
		stopsAt(t, line+"\n", api.ErrForm, 1)
		stopsAt(t, line+"\n0 wake 1", api.ErrForm, 1)
		stopsAt(t, "0 wake 1\n"+line, api.ErrForm, 2)
		stopsAt(t, "# why\n\n5 message 3 1 2 3\n"+line+"\n0 wake 1\nx", api.ErrForm, 4)
		// Behind a # it is passed over.
		readsTo(t, "#"+line+"\n0 wake 1", wake(0, 1))
		reads(t, line)
	}
}

// Each byte at each place of a line, in it and instead of what is there.
func TestP21_4_EachByteAtEachPlace(t *testing.T) {
	for _, line := range []string{"10 message 20 30 -4", "100 wake 20", "0 wake 1", "0 message 1 0"} {
		for place := 0; place <= len(line); place++ {
			for b := range 256 {
				sign := string([]byte{byte(b)})
				reads(t, line[:place]+sign+line[place:])
				if place < len(line) {
					reads(t, line[:place]+sign+line[place+1:])
				}
			}
			if place < len(line) {
				reads(t, line[:place]+line[place+1:])
			}
			reads(t, line[:place])
			reads(t, line[place:])
		}
	}
}

// Numbers about the ends of what each field takes.
func TestP21_4_Numbers(t *testing.T) {
	var numbers []string
	for _, centre := range []string{"0", "32", "64", "1099511627775", "9223372036854775807", "-9223372036854775808", "18446744073709551616", "92233720368547758070", "9999999999999999999", "-9999999999999999999"} {
		numbers = append(numbers, about(centre)...)
	}
	for _, n := range numbers {
		reads(t, n+" wake 1")
		reads(t, n+" message 1 1")
		reads(t, "1 wake "+n)
		reads(t, "1 message "+n+" 1")
		reads(t, "1 message 1 "+n)
		reads(t, "1 message 1 7 "+n+" -7")
		reads(t, "1 message 1 0"+n)
	}
	r := rand.New(rand.NewPCG(21, 5))
	for range 20000 {
		var digits strings.Builder
		if r.IntN(3) == 0 {
			digits.WriteString("-")
		}
		for range pick(r, 1, 2, 3, 13, 18, 19, 19, 20, 30) {
			digits.WriteString(pick(r, "0", "9", "8", "7", fmt.Sprint(r.IntN(10))))
		}
		reads(t, "1 message 1 "+digits.String())
		reads(t, digits.String()+" wake 1")
	}
}

// Lines that are passed over say nothing, wherever they are.
func TestP21_4_PassedOver(t *testing.T) {
	for _, text := range []string{"", "#", "\n", "\n\n\n", "#\n", "\n#", "##", "# 0 wake 1", "#0 wake 1\n#\n", "#\r", "#\xff", "#\u0661", "#\x00\n\n"} {
		readsTo(t, text)
	}
	x, y := message(7, 2, 5, -1), wake(0, 3)
	first, second := "7 message 2 5 -1", "0 wake 3"
	readsTo(t, "# two inputs\n"+first+"\n\n"+second+"\n", x, y)
	for _, ahead := range []string{"", "\n", "\n\n", "#\n", "# a\n\n# b\n", "#0 wake 1\n"} {
		for _, between := range []string{"\n", "\n\n", "\n#\n", "\n\n\n\n", "\n# a\n\n# b\n"} {
			for _, behind := range []string{"", "\n", "\n\n", "\n#", "\n#\n", "\n\n# a\n\n"} {
				readsTo(t, ahead+first+between+second+behind, x, y)
				readsTo(t, ahead+second+between+second+between+first+behind, y, y, x)
				// A bad line at the end: those that are passed over are counted too.
				lines := strings.Count(ahead+between+behind, "\n") + 1
				if strings.HasSuffix(behind, "\n") {
					stopsAt(t, ahead+first+between+second+behind+"7 sleep 3", api.ErrForm, lines)
					stopsAt(t, ahead+first+between+second+behind+" \n"+second, api.ErrForm, lines)
				}
				stopsAt(t, ahead+"x"+between+"y"+behind, api.ErrForm, strings.Count(ahead, "\n")+1)
				stopsAt(t, ahead+first+between+" #"+behind, api.ErrForm, strings.Count(ahead+between, "\n")+1)
			}
		}
	}
}

// Ticks that fall are read.
func TestP21_4_TicksThatFall(t *testing.T) {
	readsTo(t, "9 wake 1\n8 wake 2\n8 wake 2\n0 message 1 1", wake(9, 1), wake(8, 2), wake(8, 2), message(0, 1, 1))
}

func TestP21_4_MostInputs(t *testing.T) {
	r := rand.New(rand.NewPCG(21, 6))
	var full []api.Input
	var text strings.Builder
	for range api.MaxInputs {
		x := linedInput(r)
		line, _ := lineOf(x)
		full = append(full, x)
		text.WriteString(line + "\n")
	}
	all := text.String()
	for _, behind := range []string{"", "\n", "#", "# no more\n\n", "\n\n#0 wake 1"} {
		readsTo(t, all+behind, full...)
	}
	readsTo(t, "# all\n\n"+all, full...)
	for _, line := range []string{"0 wake 1", "5 message 1 1", "x", " ", " #", "07 wake 1", "\xff"} {
		stopsAt(t, all+line, api.ErrLong, api.MaxInputs+1)
	}
	stopsAt(t, all+"0 wake 1\nx\n", api.ErrLong, api.MaxInputs+1)
	stopsAt(t, all+"\n# one more\n0 wake 1\n", api.ErrLong, api.MaxInputs+3)
	stopsAt(t, all+all, api.ErrLong, api.MaxInputs+1)
	// Lines that are passed over take no input's place.
	stopsAt(t, strings.Repeat("#\n\n", api.MaxInputs)+all+"#\nx", api.ErrLong, 3*api.MaxInputs+2)
	// One less, and a bad line in its place; a bad line ahead of them all.
	cut := strings.LastIndex(strings.TrimSuffix(all, "\n"), "\n") + 1
	readsTo(t, all[:cut], full[:api.MaxInputs-1]...)
	stopsAt(t, all[:cut]+"x\n0 wake 1", api.ErrForm, api.MaxInputs)
	stopsAt(t, "x\n"+all+all, api.ErrForm, 1)
}

// Texts that are long in one way or another end soon all the same.
func TestP21_4_LongTexts(t *testing.T) {
	readsTo(t, strings.Repeat("\n", 1<<22))
	readsTo(t, "#"+strings.Repeat(" 0 wake 1", 1<<20))
	for _, line := range []string{
		strings.Repeat(" ", 1<<22), strings.Repeat("1 ", 1<<21), "0 message 1" + strings.Repeat(" 1", 1<<21), "0 wake 1" + strings.Repeat(" 1", 1<<21),
		strings.Repeat("9", 1<<22) + " wake 1", "0 message 1 " + strings.Repeat("9", 1<<22), "0 message 1 -" + strings.Repeat("0", 1<<22), "0 " + strings.Repeat("wake", 1<<20) + " 1",
	} {
		stopsAt(t, line, api.ErrForm, 1)
		stopsAt(t, "\n0 wake 1\n"+line+"\n0 wake 1\n", api.ErrForm, 3)
	}
}

// Any text: lines of inputs, some of them changed a little, and others between them.
func TestP21_4_WhateverText(t *testing.T) {
	r := rand.New(rand.NewPCG(21, 7))
	read := 0
	for range 20000 {
		var lines []string
		for range r.IntN(6) {
			line, _ := lineOf(linedInput(r))
			lines = append(lines, pick(r, line, line, line, line, "", "# "+line, changed(r, line)))
		}
		text := strings.Join(lines, "\n") + pick(r, "", "\n", "\n\n")
		reads(t, text)
		if _, err, _ := script.Read([]byte(text)); err == api.OK {
			read++
		}
	}
	if read < 8000 || read > 18000 {
		t.Errorf("%d of 20000 were read", read)
	}
	for range 20000 {
		text := make([]byte, r.IntN(40))
		for i := range text {
			text[i] = pick(r, ' ', ' ', '\n', '0', '1', '-', '#', 'w', byte(r.IntN(256)))
		}
		reads(t, string(text))
	}
}

// changed is a line of which a byte is another, missing, or there twice.
func changed(r *rand.Rand, line string) string {
	place := r.IntN(len(line))
	sign := string([]byte{pick(r, ' ', '0', '1', '9', '-', '+', '#', '\n', '\r', 'e', byte(r.IntN(256)))})
	return pick(r, line[:place]+sign+line[place+1:], line[:place]+sign+line[place:], line[:place]+line[place+1:], line[:place]+line[place:place+1]+line[place:])
}
