package online_test

import (
	"math/rand/v2"
	"slices"
	"testing"

	"bulkhead/api"
	"bulkhead/occ"
	"bulkhead/online"
)

// alike wants two dispatchers to tell the same.
func alike(t *testing.T, what string, a, b *online.Dispatcher) {
	t.Helper()
	if a.Now() != b.Now() || a.Occupant() != b.Occupant() || a.Until() != b.Until() || !slices.Equal(a.Rests(), b.Rests()) {
		t.Fatalf("%s: at %d: %d until %d, %v; the other at %d: %d until %d, %v", what, a.Now(), a.Occupant(), a.Until(), a.Rests(), b.Now(), b.Occupant(), b.Until(), b.Rests())
	}
}

// at is a dispatcher that has gone to a tick at once.
func at(t *testing.T, list []api.Server, tick int) *online.Dispatcher {
	t.Helper()
	d := start(t, list)
	advance(t, d, tick, api.OK)
	return d
}

func TestP12_5_OneOccupantToUntil(t *testing.T) {
	forAll(t, 60, func(m reading) {
		for _, from := range []int{0, m.hyper - 1, 2 * m.hyper, 1<<38 + 1, end - 2*m.hyper} {
			d, behind := at(t, m.list, from), start(t, m.list)
			for d.Now() < min(end-1, from+3*m.hyper) {
				occupant, until := d.Occupant(), d.Until()
				if until <= d.Now() || until > end {
					t.Fatalf("%s %v: at %d Until is %d", m.what, m.list, d.Now(), until)
				}
				for tick := d.Now(); tick < min(until, d.Now()+3*m.hyper); tick++ {
					advance(t, behind, tick, api.OK)
					if got := behind.Occupant(); got != occupant {
						t.Fatalf("%s %v: from %d until %d: %d, at %d: %d", m.what, m.list, d.Now(), until, occupant, tick, got)
					}
				}
				advance(t, d, min(until, end-1), api.OK)
			}
		}
	})
}

func TestP12_5_FromUntilToUntil(t *testing.T) {
	forAll(t, 100, func(m reading) {
		d := start(t, m.list)
		for d.Now() < 5*m.hyper && d.Until() < end {
			advance(t, d, d.Until(), api.OK)
			m.agrees(t, d, d.Now())
		}
	})
}

// step is a step by chance: short ones, such as end within a window, around a hyperperiod, and over many.
func step(r *rand.Rand, hyper int) int {
	switch r.IntN(6) {
	case 0:
		return 0
	case 1, 2:
		return 1 + r.IntN(4)
	case 3:
		return r.IntN(hyper + 1)
	case 4:
		return max(0, hyper*(1+r.IntN(3))+r.IntN(3)-1)
	}
	return hyper*r.IntN(1<<20) + r.IntN(hyper)
}

func TestP12_5_StepsAreOneStep(t *testing.T) {
	r := rand.New(rand.NewPCG(77, 1))
	forAll(t, 150, func(m reading) {
		for range 4 {
			d := start(t, m.list)
			for range 12 {
				to := min(end-1, d.Now()+step(r, m.hyper))
				advance(t, d, to, api.OK)
				m.agrees(t, d, to)
				alike(t, m.what, d, at(t, m.list, to))
			}
		}
	})
}

func TestP12_5_NearStepsAreOneStep(t *testing.T) {
	forAll(t, 100, func(m reading) {
		for length := 1; length <= m.hyper+1; length += 1 + m.hyper/8 {
			d := start(t, m.list)
			for d.Now() < 4*m.hyper {
				advance(t, d, d.Now()+length, api.OK)
			}
			alike(t, m.what, d, at(t, m.list, d.Now()))
		}
	})
}

// From within each window that is under way, over whole hyperperiods and a piece.
func TestP12_5_FarStepsFromEachPlace(t *testing.T) {
	forAll(t, 30, func(m reading) {
		h := m.hyper
		for from := range min(3*h+1, 100) {
			for _, far := range []int{h, 3*h - 1, 1000*h + h/2, (end-1-from)/h*h - h, end - 1 - from} {
				d := at(t, m.list, from)
				advance(t, d, from+far, api.OK)
				m.agrees(t, d, from+far)
				alike(t, m.what, d, at(t, m.list, from+far))
			}
		}
	})
}

func TestP12_5_ItComesAgain(t *testing.T) {
	forAll(t, 60, func(m reading) {
		h := m.hyper
		for place := h; place < 4*h; place++ {
			first := at(t, m.list, place)
			for _, turns := range []int{1, 2, 3, 1 << 18, (end-1)/h - 4} {
				again := at(t, m.list, place+turns*h)
				if again.Occupant() != first.Occupant() {
					t.Fatalf("%s %v: at %d: %d, %d turns later %d", m.what, m.list, place, first.Occupant(), turns, again.Occupant())
				}
				if place >= 2*h && !slices.Equal(again.Rests(), first.Rests()) {
					t.Fatalf("%s %v: at %d: %v, %d turns later %v", m.what, m.list, place, first.Rests(), turns, again.Rests())
				}
			}
		}
	})
}

func TestP12_5_RestsComeAgainLater(t *testing.T) {
	for tick, want := range map[int][]int{7: {4, 4}, 14: {7, 4}, 21: {7, 4}, 7000: {7, 4}, 8: {7, 3}, 15: {7, 3}} {
		if got := at(t, late(), tick).Rests(); !slices.Equal(got, want) {
			t.Errorf("at %d: %v, want %v", tick, got, want)
		}
	}
	// From the second hyperperiod, too, where the occupants come again but the rests don't.
	d := at(t, late(), 7)
	advance(t, d, 7*1000, api.OK)
	stands(t, "late", d, 7000, 2, 7001, 7, 4)
}

func TestP12_5_AsPackageOccSays(t *testing.T) {
	forAll(t, 60, func(m reading) {
		d := start(t, m.list)
		for _, tick := range m.edges() {
			advance(t, d, tick, api.OK)
			part, err := occ.At(m.list, tick)
			rests, err2 := occ.Rests(m.list, tick)
			if err != api.OK || err2 != api.OK || d.Occupant() != part || !slices.Equal(d.Rests(), rests) {
				t.Fatalf("%s %v: at %d: %d, %v; occ: %d, %v", m.what, m.list, tick, d.Occupant(), d.Rests(), part, rests)
			}
		}
	})
}

// What a dispatcher tells from Until to Until, joined, is what occ.Runs tells.
func TestP12_5_AsTheRunsOfPackageOcc(t *testing.T) {
	forAll(t, 60, func(m reading) {
		for _, from := range []int{0, m.hyper + 1, 1 << 37, end - 4*m.hyper} {
			below := from + 4*m.hyper
			var runs []api.Slot
			d := at(t, m.list, from)
			for now := from; now < below; {
				next := min(below, d.Until())
				if last := len(runs) - 1; last >= 0 && runs[last].Part == d.Occupant() {
					runs[last].Length += next - now
				} else {
					runs = append(runs, api.Slot{Length: next - now, Part: d.Occupant()})
				}
				now = next
				advance(t, d, min(next, end-1), api.OK)
			}
			if want, err := occ.Runs(m.list, from, below); err != api.OK || !slices.Equal(runs, want) {
				t.Fatalf("%s %v: from %d below %d: %v, occ: %v, %d", m.what, m.list, from, below, runs, want, err)
			}
		}
	})
}

func TestRulesServersAreLeftAsTheyAre(t *testing.T) {
	for what, list := range families() {
		room := append(slices.Clone(list), server(3, 2, 1, 77), server(-1, top, bottom, 5))
		before := slices.Clone(room)
		d := start(t, room[:len(list)])
		for _, to := range []int{0, 5, 30, end, 1 << 30, end - 1} {
			d.Advance(to)
			clear(d.Rests())
		}
		if !slices.Equal(room, before) {
			t.Errorf("%s: changed to %v", what, room)
		}
	}
	wrong := []api.Server{server(3, 2, 1, 77), server(0, 0, 0, 0), server(1<<20, 1, 0, 77)}
	before := slices.Clone(wrong)
	online.New(wrong)
	online.New(wrong[:1])
	if !slices.Equal(wrong, before) {
		t.Errorf("changed to %v", wrong)
	}
}

func TestRulesServersAreNotKept(t *testing.T) {
	forAll(t, 60, func(m reading) {
		for _, from := range []int{0, m.hyper + 1} {
			room := append(slices.Clone(m.list), server(2, 2, 0, 33), server(1, 1, 0, 44))
			d := start(t, room[:len(m.list)])
			advance(t, d, from, api.OK)
			for i := range room {
				room[i] = server(1, 1, 0, 250-i)
			}
			for _, to := range []int{from, from + 1, from + 3, 4*m.hyper + 2, 1 << 33, end - 1} {
				advance(t, d, max(to, d.Now()), api.OK)
				m.agrees(t, d, d.Now())
			}
		}
	})
}

func TestRulesRestsAreNewMemory(t *testing.T) {
	forAll(t, 60, func(m reading) {
		d := start(t, m.list)
		for _, to := range []int{0, 1, m.hyper + 3, 3*m.hyper + 2, 1 << 33} {
			advance(t, d, max(to, d.Now()), api.OK)
			kept := d.Rests()
			written := d.Rests()
			written = written[:cap(written)]
			for i := range written {
				written[i] = 1000 + i
			}
			m.agrees(t, d, d.Now())
			before := d.Now()
			advance(t, d, d.Now()+2, api.OK)
			m.agrees(t, d, d.Now())
			if !slices.Equal(kept, m.restsAt(before)) {
				t.Fatalf("%s %v: the rests of %d have become %v", m.what, m.list, before, kept)
			}
		}
	})
}

func TestRulesTwoDispatchersShareNothing(t *testing.T) {
	forAll(t, 60, func(m reading) {
		first, second := start(t, m.list), start(t, m.list)
		other := start(t, chapter())
		for _, to := range []int{1, 4, m.hyper, 3*m.hyper + 1, 1 << 34, end - 1} {
			to = max(to, first.Now())
			advance(t, first, to, api.OK)
			m.agrees(t, second, second.Now())
			advance(t, second, second.Now()+1, api.OK)
			m.agrees(t, first, to)
			m.agrees(t, second, second.Now())
			stands(t, "another one's", other, 0, 2, 4, 0, 6)
		}
	})
}

func TestRulesNoListIsAnEmptyOne(t *testing.T) {
	for _, list := range [][]api.Server{nil, {}, chapter()[:0]} {
		d := start(t, list)
		for _, tick := range []int{0, 0, 1, 2, 3, 77777, end - 1, end - 1} {
			advance(t, d, tick, api.OK)
			stands(t, "none", d, tick, 0, end)
		}
		advance(t, d, end, api.ErrArg)
		advance(t, d, end-2, api.ErrArg)
		stands(t, "none", d, end-1, 0, end)
	}
}

// What a call on a dispatcher that New did not make answers is free: it does not panic.
func TestRulesNoCallPanics(t *testing.T) {
	refused, _ := online.New([]api.Server{{}})
	for _, d := range []*online.Dispatcher{refused, nil, {}} {
		for _, to := range []int{bottom, -1, 0, 1, end - 1, end, top} {
			d.Now()
			d.Occupant()
			d.Until()
			d.Rests()
			d.Advance(to)
		}
	}
}
