package script_test

import (
	"bytes"
	"cmp"
	"math/rand/v2"
	"slices"
	"strings"
	"testing"

	"bulkhead/api"
	"bulkhead/script"
)

// What follows (P21.7) is held with the program's calls alone, over many scripts and texts.

// thereAndBack holds that inputs whose bytes are told are read again, and are told again so.
func thereAndBack(t *testing.T, inputs []api.Input) {
	t.Helper()
	b, err := script.Encode(inputs)
	if err != api.OK {
		t.Fatalf("%s: %d", few(inputs), err)
	}
	list, err := script.Decode(b)
	if !same(list, inputs) || err != api.OK {
		t.Fatalf("%s are read again as %s, %d", few(inputs), few(list), err)
	}
	if again, err := script.Encode(list); !bytes.Equal(again, b) || err != api.OK {
		t.Fatalf("%s are told again as other bytes, %d", few(inputs), err)
	}
}

func TestP21_7_BytesThereAndBack(t *testing.T) {
	for _, list := range sorts() {
		thereAndBack(t, list)
	}
	thereAndBack(t, make([]api.Input, api.MaxInputs))
	thereAndBack(t, ofBytes(1, 524284))
	r := rand.New(rand.NewPCG(21, 9))
	told := map[string][]api.Input{}
	for range 5000 {
		list := listOf(r, 5, anyInput)
		thereAndBack(t, list)
		// Unlike lists have unlike bytes.
		b, _ := script.Encode(list)
		if before, ok := told[string(b)]; ok && !same(before, list) {
			t.Fatalf("%v and %v are told alike", before, list)
		}
		told[string(b)] = list
	}
}

// textOf is the text of lined inputs' lines; false, if one is not lined.
func textOf(inputs []api.Input) (string, bool) {
	var lines []string
	for _, x := range inputs {
		line, ok := script.Show(x)
		if !ok {
			return "", false
		}
		lines = append(lines, line)
	}
	return strings.Join(lines, "\n"), true
}

// A text of the lines that Show tells is read as their inputs.
func TestP21_7_LinesThereAndBack(t *testing.T) {
	r := rand.New(rand.NewPCG(21, 10))
	lined := 0
	for range 5000 {
		list := listOf(r, 8, linedInput)
		if r.IntN(10) == 0 {
			list = listOf(r, 2, anyInput)
		}
		text, ok := textOf(list)
		if !ok {
			continue
		}
		lined++
		for _, end := range []string{"", "\n"} {
			if got, err, number := script.Read([]byte(text + end)); !same(got, list) || err != api.OK || number != 0 {
				t.Fatalf("%q: %v, %d, %d, want %v", text+end, got, err, number, list)
			}
		}
	}
	if lined < 4000 {
		t.Errorf("%d lists have lines", lined)
	}
}

// What is read and told line by line is the text without what was passed over.
func TestP21_7_TextsThereAndBack(t *testing.T) {
	r := rand.New(rand.NewPCG(21, 11))
	read := 0
	for range 10000 {
		var all, kept []string
		for range r.IntN(9) {
			switch r.IntN(5) {
			case 0:
				all = append(all, "")
			case 1:
				all = append(all, pick(r, "#", "# why", "#0 wake 1", "##", "#\r", "# \xff"))
			default:
				line, _ := script.Show(linedInput(r))
				if r.IntN(20) == 0 {
					line = strings.ReplaceAll(changed(r, line), "\n", "?")
				}
				all, kept = append(all, line), append(kept, line)
			}
		}
		list, err, _ := script.Read([]byte(strings.Join(all, "\n")))
		if err != api.OK {
			continue
		}
		// A change may have made a line empty, or laid a # at its beginning.
		kept = slices.DeleteFunc(kept, func(line string) bool { return line == "" || line[0] == '#' })
		read++
		if text, ok := textOf(list); text != strings.Join(kept, "\n") || !ok {
			t.Fatalf("%q is told again as %q, want %q", all, text, kept)
		}
	}
	if read < 7000 {
		t.Errorf("%d texts were read", read)
	}
}

func byTick(x, y api.Input) int { return cmp.Compare(x.Tick, y.Tick) }

// apart are inputs of ticks that do not fall, each with a number of its own by which it is known.
func apart(r *rand.Rand, own int64) []api.Input {
	list := risen(r, 20, linedInput)
	for i := range list {
		list[i].Data = append([]int64{own, int64(i)}, list[i].Data...)
	}
	return list
}

// Of scripts whose ticks do not fall Merge tells one whose ticks do not fall, which holds just the inputs of both, each script's in their order, among equals the first script's ahead.
func TestP21_7_Merged(t *testing.T) {
	r := rand.New(rand.NewPCG(21, 12))
	for range 3000 {
		a, b := apart(r, 1), apart(r, 2)
		list := script.Merge(a, b)
		if !slices.IsSortedFunc(list, byTick) {
			t.Fatalf("%v and %v: the ticks fall: %v", a, b, list)
		}
		for own, want := range map[int64][]api.Input{1: a, 2: b} {
			part := slices.DeleteFunc(slices.Clone(list), func(x api.Input) bool { return x.Data[0] != own })
			if !same(part, want) {
				t.Fatalf("%v and %v: of script %d there are %v", a, b, own, part)
			}
		}
		want := slices.Concat(a, b)
		slices.SortStableFunc(want, byTick)
		if !same(list, want) {
			t.Fatalf("%v and %v: %v, want %v", a, b, list, want)
		}
		// Merged, they may be merged again, in whatever brackets.
		c := apart(r, 3)
		if x, y := script.Merge(list, c), script.Merge(a, script.Merge(b, c)); !same(x, y) {
			t.Fatalf("%v and %v are unlike", x, y)
		}
	}
}

// The cuts of [0, t) and [t, MaxTick), merged, are the script.
func TestP21_7_CutsMerged(t *testing.T) {
	r := rand.New(rand.NewPCG(21, 13))
	for range 1000 {
		list := apart(r, 1)
		for _, at := range append([]int{0, 1, 2, 3, 10, r.IntN(50), lastTick - 1, lastTick, api.MaxTick, -1, api.MaxTick + 1}, ticksOf(list)...) {
			ahead, behind := script.Cut(list, 0, at), script.Cut(list, at, api.MaxTick)
			if len(ahead)+len(behind) != len(list) {
				t.Fatalf("%v, cut at %d: %v and %v", list, at, ahead, behind)
			}
			if got := script.Merge(ahead, behind); !same(got, list) {
				t.Fatalf("%v, cut at %d: %v", list, at, got)
			}
			if got := script.Merge(behind, ahead); !same(got, list) {
				t.Fatalf("%v, cut at %d, the other way round: %v", list, at, got)
			}
		}
	}
}

func ticksOf(list []api.Input) []int {
	var ticks []int
	for _, x := range list {
		ticks = append(ticks, x.Tick)
	}
	return ticks
}
