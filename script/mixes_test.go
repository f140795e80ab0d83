package script_test

import (
	"math"
	"math/rand/v2"
	"slices"
	"testing"

	"bulkhead/api"
	"bulkhead/script"
)

// mergesTo wants two lists to be merged so.
func mergesTo(t *testing.T, a, b []api.Input, want ...api.Input) {
	t.Helper()
	if list := script.Merge(a, b); !same(list, want) {
		t.Errorf("P21.5: %v and %v: %v, want %v", a, b, list, want)
	}
}

// cutsTo wants a list to be cut so.
func cutsTo(t *testing.T, inputs []api.Input, from, below int, want ...api.Input) {
	t.Helper()
	if list := script.Cut(inputs, from, below); !same(list, want) {
		t.Errorf("P21.6: %v from %d below %d: %v, want %v", inputs, from, below, list, want)
	}
}

func TestP21_5_MergeByHand(t *testing.T) {
	a1, b5, c1, d3 := wake(1, 1), message(5, 2, 7, -7), message(1, 3, 1), wake(3, 4)
	x, y := []api.Input{a1, b5}, []api.Input{c1, d3}
	mergesTo(t, x, y, a1, c1, d3, b5)
	mergesTo(t, y, x, c1, a1, d3, b5)
	// One list empty, both empty.
	mergesTo(t, x, nil, a1, b5)
	mergesTo(t, nil, x, a1, b5)
	mergesTo(t, x, []api.Input{}, a1, b5)
	mergesTo(t, []api.Input{}, x, a1, b5)
	mergesTo(t, nil, nil)
	mergesTo(t, []api.Input{}, []api.Input{})
	// A list with itself.
	mergesTo(t, x, x, a1, a1, b5, b5)
	// Equal ticks only: all of the first, then all of the second.
	mergesTo(t, []api.Input{wake(4, 1), wake(4, 2)}, []api.Input{wake(4, 3), wake(4, 4)}, wake(4, 1), wake(4, 2), wake(4, 3), wake(4, 4))
	// One wholly ahead of the other.
	mergesTo(t, []api.Input{wake(1, 1), wake(2, 2)}, []api.Input{wake(3, 3), wake(4, 4)}, wake(1, 1), wake(2, 2), wake(3, 3), wake(4, 4))
	mergesTo(t, []api.Input{wake(3, 3), wake(4, 4)}, []api.Input{wake(1, 1), wake(2, 2)}, wake(1, 1), wake(2, 2), wake(3, 3), wake(4, 4))
	// One tick apart, at the ends of what an int holds.
	mergesTo(t, []api.Input{wake(math.MaxInt, 1)}, []api.Input{wake(math.MinInt, 2)}, wake(math.MinInt, 2), wake(math.MaxInt, 1))
	mergesTo(t, []api.Input{wake(math.MinInt, 1)}, []api.Input{wake(math.MaxInt, 2)}, wake(math.MinInt, 1), wake(math.MaxInt, 2))
	mergesTo(t, []api.Input{wake(6, 1)}, []api.Input{wake(5, 2)}, wake(5, 2), wake(6, 1))
}

// Ticks that fall: what stands behind a late input waits for it.
func TestP21_5_TicksThatFall(t *testing.T) {
	mergesTo(t, []api.Input{wake(9, 1), wake(1, 2)}, []api.Input{wake(5, 3), wake(2, 4)}, wake(5, 3), wake(2, 4), wake(9, 1), wake(1, 2))
	mergesTo(t, []api.Input{wake(5, 3), wake(2, 4)}, []api.Input{wake(9, 1), wake(1, 2)}, wake(5, 3), wake(2, 4), wake(9, 1), wake(1, 2))
	mergesTo(t, []api.Input{wake(5, 1), wake(1, 2), wake(5, 3)}, []api.Input{wake(4, 4), wake(6, 5), wake(0, 6)}, wake(4, 4), wake(5, 1), wake(1, 2), wake(5, 3), wake(6, 5), wake(0, 6))
}

// Inputs that may not be are merged and cut like others; more than MaxInputs too.
func TestP21_5_AndP21_6_AnyInputs(t *testing.T) {
	r := rand.New(rand.NewPCG(21, 8))
	for range 3000 {
		a, b := listOf(r, 8, anyInput), listOf(r, 8, anyInput)
		for i := range a {
			a[i].Tick = pick(r, a[i].Tick, r.IntN(6)-2)
		}
		for i := range b {
			b[i].Tick = pick(r, b[i].Tick, r.IntN(6)-2)
		}
		merges(t, a, b)
		from, below := pick(r, r.IntN(8)-3, int(anyWord(r))), pick(r, r.IntN(8)-3, int(anyWord(r)))
		cuts(t, a, from, below)
		cuts(t, b, below, from)
	}
	many := make([]api.Input, api.MaxInputs)
	if list := script.Merge(many, many); len(list) != 2*api.MaxInputs {
		t.Errorf("P21.5: %d inputs", len(list))
	}
	more := make([]api.Input, api.MaxInputs+1)
	if list := script.Cut(more, 0, 1); len(list) != len(more) {
		t.Errorf("P21.6: %d inputs", len(list))
	}
}

func TestP21_6_CutByHand(t *testing.T) {
	a1, d3, e3, b5 := wake(1, 1), message(3, 4, 9, -9), wake(3, 2), message(5, 2, 1)
	list := []api.Input{a1, d3, e3, b5}
	cutsTo(t, []api.Input{a1, d3, b5}, 3, 5, d3)
	// Both ends on ticks, between them, and beyond all of them.
	cutsTo(t, list, 3, 5, d3, e3)
	cutsTo(t, list, 3, 6, d3, e3, b5)
	cutsTo(t, list, 2, 4, d3, e3)
	cutsTo(t, list, 1, 3, a1)
	cutsTo(t, list, 1, 4, a1, d3, e3)
	cutsTo(t, list, 2, 3)
	cutsTo(t, list, 4, 5)
	cutsTo(t, list, 4, 6, b5)
	cutsTo(t, list, 5, 6, b5)
	cutsTo(t, list, 6, 100)
	cutsTo(t, list, 0, 1)
	cutsTo(t, list, 0, api.MaxTick, list...)
	cutsTo(t, list, math.MinInt, math.MaxInt, list...)
	// Ends that are the same, or turned round.
	for _, tick := range []int{math.MinInt, -1, 0, 1, 2, 3, 4, 5, 6, math.MaxInt} {
		cutsTo(t, list, tick, tick)
	}
	cutsTo(t, list, 5, 3)
	cutsTo(t, list, 6, 1)
	cutsTo(t, list, 4, 3)
	cutsTo(t, list, math.MaxInt, math.MinInt)
	// Nothing to cut.
	cutsTo(t, nil, 0, api.MaxTick)
	cutsTo(t, []api.Input{}, 0, api.MaxTick)
	// Ticks that fall, and those at the ends of an int: below is never within.
	cutsTo(t, []api.Input{b5, a1, d3, a1}, 1, 4, a1, d3, a1)
	ends := []api.Input{wake(math.MaxInt, 1), wake(math.MinInt, 2), wake(-1, 3), wake(0, 4)}
	cutsTo(t, ends, math.MinInt, math.MaxInt, ends[1:]...)
	cutsTo(t, ends, math.MinInt, 0, ends[1], ends[2])
	cutsTo(t, ends, -1, 1, ends[2], ends[3])
	cutsTo(t, ends, math.MaxInt, math.MaxInt)
	cutsTo(t, ends, 1, math.MaxInt)
	// All cuts of all small ends.
	for from := -1; from < 8; from++ {
		for below := -1; below < 8; below++ {
			cuts(t, list, from, below)
			cuts(t, slices.Concat(list, list), from, below)
		}
	}
}
