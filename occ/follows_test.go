package occ_test

import (
	"math/rand/v2"
	"slices"
	"testing"

	"bulkhead/api"
	"bulkhead/check"
	"bulkhead/occ"
)

// at, rests and supply are the calls' answers where there is one.
func at(t *testing.T, list []api.Server, tick int) int {
	t.Helper()
	got, err := occ.At(list, tick)
	if err != api.OK {
		t.Fatalf("%v: At(%d): %d", list, tick, err)
	}
	return got
}

func rests(t *testing.T, list []api.Server, tick int) []int {
	t.Helper()
	got, err := occ.Rests(list, tick)
	if err != api.OK {
		t.Fatalf("%v: Rests(%d): %d", list, tick, err)
	}
	return got
}

func supply(t *testing.T, list []api.Server, part, from, below int) int {
	t.Helper()
	got, err := occ.Supply(list, part, from, below)
	if err != api.OK {
		t.Fatalf("%v: Supply(%d, %d, %d): %d", list, part, from, below, err)
	}
	return got
}

func hyperOf(list []api.Server) int {
	hyper, _ := check.Hyper(list)
	return hyper
}

func TestP11_7_ItComesAgain(t *testing.T) {
	forAll(t, 100, func(t *testing.T, what string, list []api.Server) {
		h := hyperOf(list)
		for place := range h {
			want := at(t, list, h+place)
			for _, turns := range []int{1, 2, 3, 1 << 19, (end-1)/h - 2} {
				if got := at(t, list, h+place+turns*h); got != want {
					t.Fatalf("%s %v: At(%d) = %d, %d turns later %d", what, list, h+place, want, turns, got)
				}
			}
		}
	})
}

func TestP11_7_NotFromTheGreatestOffsetOn(t *testing.T) {
	list := chapter()
	if at(t, list, 8) != 0 || at(t, list, 18) != 2 || at(t, list, 28) != 2 {
		t.Errorf("At of 8, 18 and 28: %d, %d, %d", at(t, list, 8), at(t, list, 18), at(t, list, 28))
	}
}

func TestP11_7_RestsComeAgainLater(t *testing.T) {
	list := late()
	for tick, want := range map[int][]int{7: {4, 4}, 14: {7, 4}, 21: {7, 4}, 7 * 1000: {7, 4}, 8: {7, 3}, 15: {7, 3}} {
		if got := rests(t, list, tick); !slices.Equal(got, want) {
			t.Errorf("Rests(%d) = %v, want %v", tick, got, want)
		}
	}
}

func TestP11_7_WorkIsNeverLeftLying(t *testing.T) {
	forAll(t, 40, func(t *testing.T, what string, list []api.Server) {
		h := hyperOf(list)
		for place := range 3 * h {
			for _, tick := range []int{place, end - 1 - place} {
				part, left := at(t, list, tick), rests(t, list, tick)
				for i, rest := range left {
					if rest > 0 && (part == 0 || list[i].Priority > list[part-1].Priority) {
						t.Fatalf("%s %v: At(%d) = %d, the rests are %v", what, list, tick, part, left)
					}
				}
				if part > 0 && left[part-1] == 0 {
					t.Fatalf("%s %v: At(%d) = %d, without a rest", what, list, tick, part)
				}
			}
		}
	})
}

func TestP11_7_NoMoreThanTheBudget(t *testing.T) {
	forAll(t, 60, func(t *testing.T, what string, list []api.Server) {
		for i, s := range list {
			greatest := true
			for _, other := range list {
				greatest = greatest && other.Priority <= s.Priority
			}
			last := (end-s.Offset)/s.Period - 1
			for _, number := range []int{0, 1, 2, 5, 1 << 15, last - 1, last} {
				from := s.Offset + number*s.Period
				got := supply(t, list, i+1, from, from+s.Period)
				if got > s.Budget || greatest && got != s.Budget {
					t.Fatalf("%s %v: partition %d has %d ticks from %d on", what, list, i+1, got, from)
				}
			}
			if got := supply(t, list, i+1, 0, s.Offset); got != 0 {
				t.Fatalf("%s %v: partition %d has %d ticks ahead of its first release", what, list, i+1, got)
			}
		}
	})
}

// changedBelow are servers of which those below a partition are others, fewer or more.
func changedBelow(r *rand.Rand, list []api.Server, part int) []api.Server {
	var out []api.Server
	for i, s := range list {
		switch {
		case i < part-1 && s.Priority < list[part-1].Priority: // the partition keeps its number
			out = append(out, server(s.Period, 1+r.IntN(s.Period), r.IntN(s.Period), s.Priority))
		case s.Priority < list[part-1].Priority && r.IntN(2) == 0:
			out = append(out, server(1, 1, 0, s.Priority))
		case s.Priority >= list[part-1].Priority:
			out = append(out, s)
		}
	}
	return out
}

func TestP11_7_OnlyThoseAboveCount(t *testing.T) {
	r := rand.New(rand.NewPCG(3, 9))
	forAll(t, 60, func(t *testing.T, what string, list []api.Server) {
		h := hyperOf(list)
		for part := 1; part <= len(list); part++ {
			// Those above behind the partition may move up: their own numbers are not looked at.
			other := changedBelow(r, list, part)
			if slices.Index(other, list[part-1]) != part-1 {
				t.Fatalf("%s: the partition has lost its number", what)
			}
			for place := range min(2*h, 40) {
				for _, tick := range []int{place, h + place, end - 1 - place} {
					a, b := at(t, list, tick) == part, at(t, other, tick) == part
					if a != b || rests(t, list, tick)[part-1] != rests(t, other, tick)[part-1] {
						t.Fatalf("%s %v, %v: partition %d at %d: %v, %v", what, list, other, part, tick, a, b)
					}
				}
			}
			if a, b := supply(t, list, part, 1, end-1), supply(t, other, part, 1, end-1); a != b {
				t.Fatalf("%s %v, %v: partition %d has %d and %d ticks", what, list, other, part, a, b)
			}
		}
	})
}

func TestP11_7_SuppliesAddUp(t *testing.T) {
	forAll(t, 60, func(t *testing.T, what string, list []api.Server) {
		h := hyperOf(list)
		for _, from := range []int{0, 1, h - 1, h, 2*h + 1, 9*h - 1, end - 5*h} {
			for _, below := range []int{from, from + 1, from + h, from + 2*h + 1, from + 5*h} {
				runs, err := occ.Runs(list, from, below)
				if err != api.OK {
					t.Fatalf("%s: Runs(%d, %d): %d", what, from, below, err)
				}
				perPart := make([]int, len(list)+1)
				for _, s := range runs {
					perPart[s.Part] += s.Length
				}
				sum := perPart[0]
				for part := 1; part <= len(list); part++ {
					ticks := supply(t, list, part, from, below)
					if ticks != perPart[part] {
						t.Fatalf("%s %v: Supply(%d, %d, %d) = %d, in the runs %d", what, list, part, from, below, ticks, perPart[part])
					}
					sum += ticks
				}
				if sum != below-from {
					t.Fatalf("%s %v: %d of %d ticks", what, list, sum, below-from)
				}
			}
		}
	})
}

func TestP11_7_SuppliesOfAllTicksAddUp(t *testing.T) {
	// Both leave nobody a tick but those ahead of the first release.
	for _, list := range [][]api.Server{
		{server(6, 6, 5, 1), server(4, 1, 3, 2), server(3, 2, 2, 9)},
		{server(1, 1, 0, 1), server(32767, 40, 6, 2)},
	} {
		least, sum := end, 0
		for i, s := range list {
			least = min(least, s.Offset)
			sum += supply(t, list, i+1, 0, end)
		}
		if sum != end-least {
			t.Errorf("%v: %d ticks of %d", list, sum, end-least)
		}
	}
}

func TestP11_7_RunsAreJoinedToAt(t *testing.T) {
	forAll(t, 60, func(t *testing.T, what string, list []api.Server) {
		h := hyperOf(list)
		for _, from := range []int{0, h - 1, 2*h - 1, 1 << 38, end - 4*h} {
			runs, err := occ.Runs(list, from, from+4*h)
			if err != api.OK {
				t.Fatalf("%s: Runs(%d, %d): %d", what, from, from+4*h, err)
			}
			tick := from
			for _, s := range runs {
				for range s.Length {
					if got := at(t, list, tick); got != s.Part {
						t.Fatalf("%s %v: At(%d) = %d, in the runs %d", what, list, tick, got, s.Part)
					}
					tick++
				}
			}
			if tick != from+4*h {
				t.Fatalf("%s %v: the runs from %d end at %d", what, list, from, tick)
			}
		}
	})
}

// As many servers and releases as there may be, held against the second reading.
func TestAsMuchAsThereMayBe(t *testing.T) {
	var list []api.Server
	for i := range api.MaxParts {
		list = append(list, server(1024, 1+i*3%64, i*331%1024, (i*11+5)%32))
	}
	short := []api.Server{server(32767, 9, 32766, 3), server(1, 1, 0, 1)}
	long := []api.Server{server(1<<20, 1<<19, 1<<20-1, 3), server(1<<18, 1<<17, 77, 1), server(1<<16, 99, 1<<16-1, 4)}
	for _, list := range [][]api.Server{list, short, long} {
		m := read(t, list)
		h := m.hyper
		for _, tick := range []int{0, 1, h / 2, h - 1, h, 2*h - 1, 2 * h, 3*h - 1, end - h, end - 2, end - 1} {
			if got := at(t, list, tick); got != m.at(tick) {
				t.Errorf("H %d: At(%d) = %d, want %d", h, tick, got, m.at(tick))
			}
			if got := rests(t, list, tick); !slices.Equal(got, m.rests[m.place(tick)]) {
				t.Errorf("H %d: Rests(%d) = %v, want %v", h, tick, got, m.rests[m.place(tick)])
			}
			for _, part := range []int{1, len(list)} {
				if got, err := occ.NextOf(list, part, tick); got != m.next(part, tick) || err != api.OK {
					t.Errorf("H %d: NextOf(%d, %d) = %d, %d, want %d", h, part, tick, got, err, m.next(part, tick))
				}
			}
		}
		for _, span := range [][2]int{{0, 2 * h}, {1, 3*h - 1}, {h - 1, h + 1}, {end - h, end}} {
			want := m.runs(span[0], span[1])
			if got, err := occ.Runs(list, span[0], span[1]); len(want) <= api.MaxRuns && (!slices.Equal(got, want) || err != api.OK) {
				t.Errorf("H %d: Runs(%v): %d slots, %d, want %d", h, span, len(got), err, len(want))
			}
			for part := 1; part <= len(list); part++ {
				if got := supply(t, list, part, span[0], span[1]); got != m.supply(part, span[0], span[1]) {
					t.Errorf("H %d: Supply(%d, %v) = %d", h, part, span, got)
				}
			}
		}
	}
}

// askAll asks every call, also with what may not be.
func askAll(list []api.Server) {
	for _, tick := range []int{-1, 0, 9, 10, 25, end - 1, end} {
		occ.At(list, tick)
		occ.Rests(list, tick)
		occ.Runs(list, tick, tick+60)
		occ.Runs(list, tick, end)
		for part := range len(list) + 2 {
			occ.Supply(list, part, tick, tick+60)
			occ.NextOf(list, part, tick)
		}
	}
}

func TestRulesServersAreLeftAsTheyAre(t *testing.T) {
	for what, list := range families() {
		room := append(slices.Clone(list), server(3, 2, 1, 77), server(-1, top, bottom, 5))
		before := slices.Clone(room)
		askAll(room[:len(list)])
		if !slices.Equal(room, before) {
			t.Errorf("%s: changed to %v", what, room)
		}
	}
	wrong := []api.Server{server(3, 2, 1, 77), server(0, 0, 0, 0), server(1<<20, 1, 0, 77)}
	before := slices.Clone(wrong)
	askAll(wrong)
	askAll(wrong[:1])
	if !slices.Equal(wrong, before) {
		t.Errorf("changed to %v", wrong)
	}
}

func TestRulesAnswersAreNewMemory(t *testing.T) {
	list := chapter()
	first, _ := occ.Runs(list, 0, 20)
	left, _ := occ.Rests(list, 10)
	keptRuns, keptRests := slices.Clone(first), slices.Clone(left)
	again, _ := occ.Runs(list, 0, 20)
	leftAgain, _ := occ.Rests(list, 10)
	clear(again[:cap(again)])
	clear(leftAgain[:cap(leftAgain)])
	askAll(list)
	list[0] = server(1, 1, 0, 0)
	if !slices.Equal(first, keptRuns) || !slices.Equal(left, keptRests) {
		t.Errorf("changed to %v, %v", first, left)
	}
	third, _ := occ.Runs(chapter(), 0, 20)
	leftThird, _ := occ.Rests(chapter(), 10)
	if !slices.Equal(third, keptRuns) || !slices.Equal(leftThird, keptRests) {
		t.Errorf("asked again: %v, %v", third, leftThird)
	}
}

func TestRulesNoListIsAnEmptyOne(t *testing.T) {
	for _, list := range [][]api.Server{nil, {}, chapter()[:0]} {
		for _, tick := range []int{0, 1, 2, 3, end - 1} {
			if at(t, list, tick) != 0 || len(rests(t, list, tick)) != 0 {
				t.Errorf("at %d: %d, %v", tick, at(t, list, tick), rests(t, list, tick))
			}
			if runs, err := occ.Runs(list, tick, end); !slices.Equal(runs, slots(0, end-tick)) || err != api.OK {
				t.Errorf("Runs(%d, MaxTick) = %v, %d", tick, runs, err)
			}
		}
	}
}
