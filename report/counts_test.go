package report_test

import (
	"math/rand/v2"
	"slices"
	"testing"

	"bulkhead/api"
	"bulkhead/report"
)

// event is one of a partition and a kind; whatever else it tells counts for nothing.
func event(part, kind int) api.Event { return api.Event{Part: part, Kind: kind} }

// twelve is 0 of each kind but those that are told, kind by kind.
func twelve(pairs ...int) []int {
	list := make([]int, 12)
	for i := 0; i < len(pairs); i += 2 {
		list[pairs[i]-1] = pairs[i+1]
	}
	return list
}

func TestP27_3_Example(t *testing.T) {
	t.Parallel()
	events := []api.Event{event(1, api.EventCall), event(1, api.EventLog), event(1, api.EventLog), event(2, api.EventCall)}
	wantCounts(t, "the chapter's", events, 1, []int{1, 2, 0, 0, 0, 0, 0, 0, 0, 0, 0, 0})
	wantCounts(t, "the chapter's", events, 2, []int{1, 0, 0, 0, 0, 0, 0, 0, 0, 0, 0, 0})
	wantCounts(t, "the chapter's", events, 3, twelve())
	wantCounts(t, "the chapter's", events, 0, twelve())
}

func TestP27_3_NoEvents(t *testing.T) {
	t.Parallel()
	for _, part := range []int{bottom, -1, 0, 1, 32, 33, top} {
		wantCounts(t, "none", nil, part, twelve())
		wantCounts(t, "none", []api.Event{}, part, twelve())
	}
}

// The kinds stand in the order of their numbers.
func TestP27_3_EveryKind(t *testing.T) {
	t.Parallel()
	kinds := []int{api.EventCall, api.EventLog, api.EventFault, api.EventMiss, api.EventOverrun, api.EventRestart, api.EventIdle, api.EventWake, api.EventArrive, api.EventLost, api.EventOut, api.EventStart}
	var events []api.Event
	for i, kind := range kinds {
		if kind != i+1 {
			t.Fatalf("kind %d stands at %d", kind, i)
		}
		wantCounts(t, "one", []api.Event{event(3, kind)}, 3, twelve(kind, 1))
		wantCounts(t, "one of another", []api.Event{event(3, kind)}, 4, twelve())
		for range i + 1 {
			events = append(events, event(3, kind))
		}
	}
	for range 3 {
		wantCounts(t, "of kind k so many as k", events, 3, []int{1, 2, 3, 4, 5, 6, 7, 8, 9, 10, 11, 12})
		slices.Reverse(events)
		events = append(events, event(4, api.EventStart), event(2, api.EventCall))
	}
}

func TestP27_3_KindsThatAreNone(t *testing.T) {
	t.Parallel()
	for _, kind := range []int{bottom, -1000, -13, -12, -1, 0, 13, 14, 24, 1 << 32, 1<<32 + 1, 1<<32 + 12, top} {
		events := []api.Event{event(1, kind)}
		wantCounts(t, "a kind that is none", events, 1, twelve())
		wantCounts(t, "a kind that is none", append(events, event(1, api.EventStart), event(1, kind), event(1, api.EventCall)), 1, twelve(api.EventStart, 1, api.EventCall, 1))
	}
}

// A Part may be any number, whether a partition has it or not.
func TestP27_3_AnyPart(t *testing.T) {
	t.Parallel()
	parts := []int{bottom, -1 << 32, -2, -1, 0, 1, 2, 31, 32, 33, 64, 1 << 32, 1<<32 + 1, top}
	var events []api.Event
	for i, part := range parts {
		for range i + 1 {
			events = append(events, event(part, api.EventLost))
		}
		events = append(events, event(part, api.EventOut), event(part, 0), event(part, 13))
	}
	for i, part := range parts {
		wantCounts(t, "any part", events, part, twelve(api.EventLost, i+1, api.EventOut, 1))
	}
	for _, part := range []int{bottom + 1, -3, 3, 30, top - 1} {
		wantCounts(t, "a part of none", events, part, twelve())
	}
}

// What else an event tells counts for nothing, and neither does the order.
func TestP27_3_NothingElseCounts(t *testing.T) {
	t.Parallel()
	events := []api.Event{
		{Tick: 9, Part: 1, Kind: api.EventLog, Proc: 1, A: 2, B: 2, Data: []int64{2, 9}},
		{Tick: -1, Part: 1, Kind: api.EventLog, Proc: 2, A: 12},
		{Tick: top, Part: 1, Kind: api.EventArrive, Proc: bottom, A: 1 << 62, B: -1 << 63, Data: make([]int64, 100)},
		{Tick: 9, Part: 2, Kind: api.EventLog, Proc: 1, A: 1},
		{Tick: 9, Part: 2, Kind: api.EventLog, Proc: 1, A: 1},
		{},
	}
	for range 4 {
		wantCounts(t, "anything else", events, 1, twelve(api.EventLog, 2, api.EventArrive, 1))
		wantCounts(t, "anything else", events, 2, twelve(api.EventLog, 2))
		wantCounts(t, "anything else", events, 9, twelve())
		events = append(events[1:], events[0])
	}
}

// eventsByChance are of few parts and kinds, so that many are alike, and of some that are none.
func eventsByChance(r *rand.Rand, number int) []api.Event {
	var list []api.Event
	for range number {
		part := oneOf(r, -1, 0, 1, 1, 2, 3, 4, 32, 33, top, bottom)
		kind := oneOf(r, 1+r.IntN(12), 1+r.IntN(12), 1+r.IntN(12), 0, 13, -1, r.IntN(40)-20)
		list = append(list, api.Event{Tick: r.IntN(99), Part: part, Kind: kind, Proc: r.IntN(17), A: r.Int64N(20), Data: make([]int64, r.IntN(3))})
	}
	return list
}

// countsOf is a second reading: by pairs of part and kind, in a map.
func countsOf(events []api.Event) map[[2]int]int {
	counts := map[[2]int]int{}
	for _, e := range events {
		counts[[2]int{e.Part, e.Kind}]++
	}
	return counts
}

func TestP27_3_ByChance(t *testing.T) {
	t.Parallel()
	r := rand.New(rand.NewPCG(27, 3))
	for range 500 {
		events := eventsByChance(r, r.IntN(300))
		counts := countsOf(events)
		for _, part := range []int{bottom, -1, 0, 1, 2, 3, 4, 5, 32, 33, 34, top} {
			want := twelve()
			for i := range want {
				want[i] = counts[[2]int{part, i + 1}]
			}
			wantCounts(t, "by chance", events, part, want)
		}
	}
}

func TestP27_3_VeryMany(t *testing.T) {
	t.Parallel()
	events := make([]api.Event, 1<<20)
	for i := range events {
		events[i] = event(1+i%2, 1+i%16)
	}
	for part, first := range map[int]int{1: 0, 2: 1} {
		for i, number := range report.Counts(events, part) {
			want := 0
			if i%2 == first {
				want = 1 << 16
			}
			if number != want {
				t.Errorf("P27.3: %d events of kind %d of partition %d, want %d", number, i+1, part, want)
			}
		}
	}
}
