package flow_test

import (
	"fmt"
	"slices"
	"testing"

	"bulkhead/api"
	"bulkhead/flow"
)

func wake(tick, part int) api.Input {
	return api.Input{Tick: tick, Kind: api.InputWake, Target: part}
}

func message(tick, channel int, data ...int64) api.Input {
	return api.Input{Tick: tick, Kind: api.InputMessage, Target: channel, Data: data}
}

// script is a list of inputs.
func script(inputs ...api.Input) []api.Input { return inputs }

// likely wants AlikeInputs' answers for the partitions from 1 on, both ways round; the letters are y and n.
func likely(t *testing.T, what string, x api.Image, a, b []api.Input, want string) {
	t.Helper()
	for i, letter := range want {
		is := letter == 'y'
		if got, err := flow.AlikeInputs(x, a, b, i+1); got != is || err != api.OK {
			t.Errorf("P24.5: %s: AlikeInputs(%d) = %v, %d, want %v", what, i+1, got, err, is)
		}
		if got, err := flow.AlikeInputs(x, b, a, i+1); got != is || err != api.OK {
			t.Errorf("P24.5: %s: turned round, AlikeInputs(%d) = %v, %d, want %v", what, i+1, got, err, is)
		}
	}
	likensInputs(t, what, x, a, b)
}

func TestP24_5_Examples(t *testing.T) {
	x := chapter()
	likely(t, "a message on 3", x, nil, script(message(0, 3, 1)), "ynn")
	likely(t, "a waking of 3", x, script(wake(0, 3)), nil, "yyn")
}

func TestP24_5_NoPartition(t *testing.T) {
	x := chapter()
	for _, part := range []int{bottom, -1, 0, 4, 5, 1<<32 + 1, top} {
		for _, b := range [][]api.Input{nil, script(wake(1, 1))} {
			if is, err := flow.AlikeInputs(x, nil, b, part); is || err != api.ErrPart {
				t.Errorf("AlikeInputs(%d) = %v, %d", part, is, err)
			}
		}
	}
	if is, err := flow.AlikeInputs(api.Image{}, nil, nil, 1); is || err != api.ErrPart {
		t.Errorf("AlikeInputs = %v, %d", is, err)
	}
}

// crossing is an image of five partitions: 1 to 2 to 3, 4 to 3; 5 alone. Its channels 4 to 8 come from outside, to 1; to 4 and 5; to nobody; to ports that are not there; to 2, twice. Channel 9 comes from a port of no partition, and goes to 5.
func crossing() api.Image {
	return image(5, ports(1, 2, 3, 4, 5, 0, 6, -1), road(1, 2), road(2, 3), road(4, 3),
		road(0, 1), road(0, 4, 5), road(0), road(0, 6, 7, 8, 9, 0, -1), road(0, 2, 2), road(6, 5))
}

// Whom one input reaches is seen from what it is to add it.
func TestP24_5_WhomAnInputReaches(t *testing.T) {
	x := crossing()
	looks(t, "crossing", x, "=dr..", ".=d..", "..=..", "..d=.", "....=")
	for _, c := range []struct {
		in   api.Input
		want string
	}{
		{wake(7, 1), "nnnyy"},
		{wake(7, 2), "ynnyy"},
		{wake(7, 3), "yynyy"},
		{wake(7, 4), "yynny"},
		{wake(7, 5), "yyyyn"},
		{wake(7, 0), "yyyyy"},
		{wake(7, -1), "yyyyy"},
		{wake(7, 6), "yyyyy"},
		{wake(7, 1<<32+1), "yyyyy"},
		{wake(7, top), "yyyyy"},
		{wake(7, bottom), "yyyyy"},
		{message(7, 4, 1), "nnnyy"},
		{message(7, 5, 1), "yynnn"},
		{message(7, 6, 1), "yyyyy"},
		{message(7, 7, 1), "yyyyy"},
		{message(7, 8, 1), "ynnyy"},
		// A message on a channel that comes from a partition reaches whom the channel goes to.
		{message(7, 1, 1), "ynnyy"},
		{message(7, 2, 1), "yynyy"},
		{message(7, 3, 1), "yynyy"},
		{message(7, 9, 1), "yyyyn"},
		{message(7, 0, 1), "yyyyy"},
		{message(7, -1, 1), "yyyyy"},
		{message(7, 10, 1), "yyyyy"},
		{message(7, 1<<32+4, 1), "yyyyy"},
		{message(7, top, 1), "yyyyy"},
		{message(7, bottom, 1), "yyyyy"},
		{message(7, 4), "nnnyy"},
		{message(-7, 4, 1, 2, 3), "nnnyy"},
		{api.Input{Kind: api.InputWake, Target: 1, Data: []int64{1}}, "nnnyy"},
		{api.Input{Kind: 0, Target: 1}, "yyyyy"},
		{api.Input{Kind: 3, Target: 1}, "yyyyy"},
		{api.Input{Kind: -1, Target: 4}, "yyyyy"},
		{api.Input{Kind: 1<<32 + 1, Target: 4}, "yyyyy"},
		{api.Input{Kind: top, Target: 4}, "yyyyy"},
		{api.Input{Kind: bottom, Target: 4}, "yyyyy"},
	} {
		what := fmt.Sprintf("%+v", c.in)
		likely(t, what, x, nil, script(c.in), c.want)
		// Among others that are the same, wherever it stands.
		rest := script(wake(1, 1), wake(2, 3), message(3, 5, 9), wake(4, 5), message(5, 6))
		for i := range len(rest) + 1 {
			likely(t, fmt.Sprintf("%s at %d", what, i), x, rest, slices.Insert(slices.Clone(rest), i, c.in), c.want)
		}
	}
}

// Two lists that differ in one input: in its tick, its kind, its target and its words; in their order; in how many there are.
func TestP24_5_OneThingAtATime(t *testing.T) {
	x := crossing()
	base := script(wake(0, 1), message(1, 4, 5, 6), message(1, 5, 7), wake(2, 5), message(3, 8, 8, 9))
	for _, c := range []struct {
		what string
		turn func(list []api.Input) []api.Input
		want string
	}{
		{"nothing", func(l []api.Input) []api.Input { return l }, "yyyyy"},
		{"a tick of 1's", func(l []api.Input) []api.Input { l[0].Tick++; return l }, "nnnyy"},
		{"a tick far off", func(l []api.Input) []api.Input { l[0].Tick += 1 << 32; return l }, "nnnyy"},
		{"a tick of a message", func(l []api.Input) []api.Input { l[1].Tick--; return l }, "nnnyy"},
		{"a tick of 4's and 5's", func(l []api.Input) []api.Input { l[2].Tick++; return l }, "yynnn"},
		{"a tick of 5's", func(l []api.Input) []api.Input { l[3].Tick++; return l }, "yyyyn"},
		{"a word", func(l []api.Input) []api.Input { l[1].Data[1]++; return l }, "nnnyy"},
		{"a word's upper half", func(l []api.Input) []api.Input { l[1].Data[0] += 1 << 32; return l }, "nnnyy"},
		{"a word more", func(l []api.Input) []api.Input { l[1].Data = append(l[1].Data, 0); return l }, "nnnyy"},
		{"a word less", func(l []api.Input) []api.Input { l[4].Data = l[4].Data[:1]; return l }, "ynnyy"},
		{"no words", func(l []api.Input) []api.Input { l[4].Data = nil; return l }, "ynnyy"},
		{"words turned round", func(l []api.Input) []api.Input { l[4].Data = []int64{9, 8}; return l }, "ynnyy"},
		{"a word of a waking", func(l []api.Input) []api.Input { l[3].Data = []int64{0}; return l }, "yyyyn"},
		{"a waking's target", func(l []api.Input) []api.Input { l[0].Target = 5; return l }, "nnnyn"},
		{"a waking's target, a source too", func(l []api.Input) []api.Input { l[0].Target = 2; return l }, "nnnyy"},
		{"a waking of nobody", func(l []api.Input) []api.Input { l[0].Target = 6; return l }, "nnnyy"},
		{"a message's channel, to the same source", func(l []api.Input) []api.Input { l[4].Target = 1; return l }, "ynnyy"},
		{"a message's channel, to nobody", func(l []api.Input) []api.Input { l[2].Target = 6; return l }, "yynnn"},
		{"a kind", func(l []api.Input) []api.Input { l[0].Kind = api.InputMessage; return l }, "nnnyy"},
		{"a kind that is none", func(l []api.Input) []api.Input { l[3].Kind = 3; return l }, "yyyyn"},
		{"one left out", func(l []api.Input) []api.Input { return slices.Delete(l, 2, 3) }, "yynnn"},
		{"one twice", func(l []api.Input) []api.Input { return slices.Insert(l, 3, l[3]) }, "yyyyn"},
		{"all left out", func(l []api.Input) []api.Input { return nil }, "nnnnn"},
		{"two of one partition turned round", func(l []api.Input) []api.Input { l[0], l[1] = l[1], l[0]; return l }, "nnnyy"},
		{"two of unlike ones turned round", func(l []api.Input) []api.Input { l[1], l[2] = l[2], l[1]; return l }, "yynyy"},
		{"two that meet in 5", func(l []api.Input) []api.Input { l[2], l[3] = l[3], l[2]; return l }, "yyyyn"},
		{"two that meet nowhere", func(l []api.Input) []api.Input { l[3], l[4] = l[4], l[3]; return l }, "yyyyy"},
		{"others among them", func(l []api.Input) []api.Input {
			return slices.Insert(l, 2, message(9, 6, 1), wake(0, 0), message(0, 77), api.Input{Kind: 9, Target: 1})
		}, "yyyyy"},
	} {
		likely(t, c.what, x, base, c.turn(copyOf(base)), c.want)
	}
}

// nil and empty lists and words are the same.
func TestP24_5_NilAndEmpty(t *testing.T) {
	x := crossing()
	likely(t, "lists", x, nil, []api.Input{}, "yyyyy")
	a, b := script(message(1, 4), message(2, 5), wake(3, 5)), script(message(1, 4), message(2, 5), wake(3, 5))
	for i := range b {
		b[i].Data = make([]int64, 0, 2)
	}
	likely(t, "words", x, a, b, "yyyyy")
}

// As many inputs as a script may have, and more, on channels with long To's, are looked at soon.
func TestP24_5_Many(t *testing.T) {
	x := crossing()
	long := make([]int, 1<<17)
	for i := range long {
		long[i] = 9 + i%3
	}
	long[len(long)-1] = 5
	x.Channels = append(x.Channels, road(0, long...))
	var a, b []api.Input
	for i := range 2*api.MaxInputs + 1 {
		a = append(a, message(i, 10, int64(i)))
		b = append(b, message(i, 10, int64(i)), message(i, 4, 1))
	}
	likesMany := func(b []api.Input, want string) {
		t.Helper()
		for i, letter := range want {
			if got, err := flow.AlikeInputs(x, a, b, i+1); got != (letter == 'y') || err != api.OK {
				t.Errorf("AlikeInputs(%d) = %v, %d", i+1, got, err)
			}
		}
	}
	likesMany(b, "nnnyy")
	b[len(b)-2].Data[0]++
	likesMany(b, "nnnyn")
}
