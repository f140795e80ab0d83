package trace_test

import (
	"math"
	"math/rand/v2"
	"slices"
	"testing"

	"bulkhead/api"
	"bulkhead/trace"
)

// projectsTo wants a list to be projected so.
func projectsTo(t *testing.T, events []api.Event, part int, want ...api.Event) {
	t.Helper()
	if list := trace.Project(events, part); !same(list, want) {
		t.Errorf("P23.6: %v to %d: %v, want %v", events, part, list, want)
	}
}

func TestP23_6_ProjectByHand(t *testing.T) {
	a, b, c, d := at(3, 1, 1, 2), at(3, 2), at(3, 1), at(9, 32, 5)
	list := []api.Event{a, b, c, d, a}
	projectsTo(t, list, 1, a, c, a)
	projectsTo(t, list, 2, b)
	projectsTo(t, list, 32, d)
	for _, part := range []int{3, 31, 0, -1, 33, 257, math.MinInt, math.MaxInt} {
		projectsTo(t, list, part)
		projectsTo(t, nil, part)
		projectsTo(t, []api.Event{}, part)
	}
	projectsTo(t, nil, 1)
	projectsTo(t, []api.Event{a, c}, 1, a, c)
	// Ticks that fall stay in their order.
	late := at(10, 2)
	projectsTo(t, []api.Event{late, a, b, late}, 2, late, b, late)
}

// Events that do not go are a partition's all the same, those of no partition too.
func TestP23_6_EventsThatDoNotGo(t *testing.T) {
	bad := []api.Event{at(-1, 1), {Part: 1, Kind: 13}, {Part: 1}, {Part: 1, Proc: 99, Data: words(40)}, at(math.MaxInt, 1)}
	projectsTo(t, append([]api.Event{at(1, 2)}, bad...), 1, bad...)
	for _, part := range []int{0, -1, 33, 257, math.MinInt, math.MaxInt} {
		x, y := at(4, part, 7), at(5, part)
		projectsTo(t, []api.Event{x, at(4, 1), y, {Part: 2}}, part, x, y)
		projectsTo(t, []api.Event{x, at(4, 1), y}, 1, at(4, 1))
	}
	events, _ := edgeEvents()
	for _, part := range []int{math.MinInt, -1, 0, 1, 2, 32, 33, 257, math.MaxInt} {
		projects(t, events, part)
	}
	r := rand.New(rand.NewPCG(23, 6))
	for range 3000 {
		list := listOf(r, 12, anyEvent)
		for _, part := range []int{0, 1, 2, 32, 33, r.IntN(40)} {
			projects(t, list, part)
		}
	}
}

// unlikes are events that differ from x in one field, and only a little.
func unlikes(x api.Event) map[string]api.Event {
	list := map[string]api.Event{}
	for what, change := range map[string]func(*api.Event){
		"Tick":         func(e *api.Event) { e.Tick++ },
		"a high tick":  func(e *api.Event) { e.Tick ^= 1 << 62 },
		"Part":         func(e *api.Event) { e.Part++ },
		"a far Part":   func(e *api.Event) { e.Part += 256 },
		"Kind":         func(e *api.Event) { e.Kind++ },
		"a far Kind":   func(e *api.Event) { e.Kind += 256 },
		"Proc":         func(e *api.Event) { e.Proc++ },
		"a far Proc":   func(e *api.Event) { e.Proc += 256 },
		"A":            func(e *api.Event) { e.A++ },
		"a high A":     func(e *api.Event) { e.A ^= math.MinInt64 },
		"B":            func(e *api.Event) { e.B++ },
		"a high B":     func(e *api.Event) { e.B ^= math.MinInt64 },
		"A and B":      func(e *api.Event) { e.A, e.B = e.B, e.A },
		"a word":       func(e *api.Event) { e.Data[0]++ },
		"the last":     func(e *api.Event) { e.Data[len(e.Data)-1] ^= math.MinInt64 },
		"order":        func(e *api.Event) { slices.Reverse(e.Data) },
		"a word more":  func(e *api.Event) { e.Data = append(e.Data, 0) },
		"a word less":  func(e *api.Event) { e.Data = e.Data[:len(e.Data)-1] },
		"the first":    func(e *api.Event) { e.Data = e.Data[1:] },
		"no words":     func(e *api.Event) { e.Data = nil },
		"A word ahead": func(e *api.Event) { e.Data = append([]int64{0}, e.Data...) },
	} {
		y := x
		y.Data = slices.Clone(x.Data)
		change(&y)
		list[what] = y
	}
	return list
}

// differsAt wants two lists to differ so, the other way round too.
func differsAt(t *testing.T, what string, a, b []api.Event, want int) {
	t.Helper()
	if got, turned := trace.Differ(a, b), trace.Differ(b, a); got != want || turned != want {
		t.Errorf("P23.7: %s: %d and %d, want %d", what, got, turned, want)
	}
}

func TestP23_7_DifferByHand(t *testing.T) {
	x, y := at(3, 1, 1, 2), at(4, 2)
	differsAt(t, "[x] [x]", []api.Event{x}, []api.Event{x}, -1)
	differsAt(t, "[x] [y]", []api.Event{x}, []api.Event{y}, 0)
	differsAt(t, "[x] [x y]", []api.Event{x}, []api.Event{x, y}, 1)
	differsAt(t, "none", nil, nil, -1)
	differsAt(t, "nil and empty", nil, []api.Event{}, -1)
	differsAt(t, "none and [x]", nil, []api.Event{x}, 0)
	differsAt(t, "empty and [x]", []api.Event{}, []api.Event{x, y}, 0)
	differsAt(t, "[x y] [y x]", []api.Event{x, y}, []api.Event{y, x}, 0)
	differsAt(t, "[x x] [x y]", []api.Event{x, x}, []api.Event{x, y}, 1)
	// The first place, whatever comes behind it, and however long the lists are.
	differsAt(t, "[x y x] [x x y x]", []api.Event{x, y, x}, []api.Event{x, x, y, x}, 1)
	differsAt(t, "unlike ahead of the end", []api.Event{x, x}, []api.Event{y, x, x}, 0)
	// Zero events are events: an ended list is not one of these.
	differsAt(t, "zero events", make([]api.Event, 3), make([]api.Event, 5), 3)
	differsAt(t, "as many zero events", make([]api.Event, 3), make([]api.Event, 3), -1)
	// nil and empty data.
	empty, none := y, y
	empty.Data, none.Data = []int64{}, nil
	differsAt(t, "nil and empty data", []api.Event{x, empty, x}, []api.Event{x, none, x}, -1)
	// What lies behind the words counts for nothing.
	long := at(3, 1, 1, 2, 9)
	long.Data = long.Data[:2]
	differsAt(t, "spare room", []api.Event{x}, []api.Event{long}, -1)
}

// Each field counts, wherever the event stands.
func TestP23_7_EachField(t *testing.T) {
	x := api.Event{Tick: 5, Part: 3, Kind: 4, Proc: 2, A: 6, B: -6, Data: []int64{1, 2, 3}}
	for what, y := range unlikes(x) {
		for place := range 4 {
			a := slices.Repeat([]api.Event{x}, 4)
			b := slices.Clone(a)
			b[place] = y
			differsAt(t, what, a, b, place)
			differsAt(t, what, a[:place+1], b, place)
			differsAt(t, what, a, b[:place+1], place)
			differsAt(t, what, a[:place], b[:place], -1)
			differsAt(t, what, b, b, -1)
		}
	}
}

func TestP23_7_Many(t *testing.T) {
	r := rand.New(rand.NewPCG(23, 7))
	unlike := 0
	for range 10000 {
		a := listOf(r, 5, smallEvent)
		b := slices.Clone(a)
		switch r.IntN(4) {
		case 0:
			b = listOf(r, 5, smallEvent)
		case 1:
			b = append(b, smallEvent(r))
		case 2:
			if len(b) > 0 {
				b[r.IntN(len(b))] = smallEvent(r)
			}
		}
		differs(t, a, b)
		differs(t, listOf(r, 2, anyEvent), listOf(r, 2, anyEvent))
		if differOf(a, b) >= 0 {
			unlike++
		}
	}
	if unlike < 4000 || unlike > 8000 {
		t.Errorf("%d of 10000 are unlike", unlike)
	}
	events, _ := edgeEvents()
	differsAt(t, "events of all sorts", events, slices.Clone(events), -1)
	differsAt(t, "a beginning", events, events[:len(events)-1], len(events)-1)
}

// isValid wants a list to be valid or not.
func isValid(t *testing.T, what string, want bool, events ...api.Event) {
	t.Helper()
	if got := trace.Valid(events); got != want {
		t.Errorf("P23.8: %s: %v", what, got)
	}
}

func TestP23_8_ValidByHand(t *testing.T) {
	isValid(t, "ticks 3, 3, 4", true, at(3, 1), at(3, 2), at(4, 1))
	isValid(t, "ticks 3, 2", false, at(3, 1), at(2, 1))
	isValid(t, "none", true)
	isValid(t, "ticks that stay", true, at(3, 9), at(3, 1), at(3, 9))
	isValid(t, "both ends", true, at(0, 1), at(lastTick, 1))
	isValid(t, "both ends, turned", false, at(lastTick, 1), at(0, 1))
	isValid(t, "one", true, at(lastTick, 32, words(16)...))
	// A fall by one, first, last and between; of another partition too.
	isValid(t, "a fall at first", false, at(2, 1), at(1, 1), at(3, 1), at(4, 1))
	isValid(t, "a fall between", false, at(1, 1), at(3, 1), at(2, 2), at(4, 1))
	isValid(t, "a fall at last", false, at(1, 1), at(2, 1), at(4, 1), at(3, 2))
	isValid(t, "a fall to what stood two ahead", false, at(1, 1), at(3, 1), at(1, 1))
	isValid(t, "ends far apart", false, at(math.MinInt, 1), at(math.MaxInt, 1))
	if !trace.Valid([]api.Event{}) || !trace.Valid(nil) {
		t.Error("P23.8: no events")
	}
	r := rand.New(rand.NewPCG(23, 8))
	valid := 0
	for range 10000 {
		list := risen(r, 9, goingEvent)
		valids(t, list)
		isValid(t, "risen", true, list...)
		if len(list) > 0 && r.IntN(2) == 0 {
			list[r.IntN(len(list))].Tick = r.IntN(12)
		}
		valids(t, list)
		if validOf(list) {
			valid++
		}
		valids(t, risen(r, 5, anyEvent))
		valids(t, listOf(r, 3, anyEvent))
	}
	if valid < 4000 || valid > 9000 {
		t.Errorf("%d of 10000 are valid", valid)
	}
}

// One event that does not go is enough, wherever it stands.
func TestP23_8_EventsThatDoNotGo(t *testing.T) {
	events, going := edgeEvents()
	valid := 0
	for _, e := range events {
		valids(t, []api.Event{e})
		if trace.Valid([]api.Event{e}) {
			valid++
			continue
		}
		first, last := at(0, 1), at(lastTick, 1)
		isValid(t, "the first", false, e, last, last)
		isValid(t, "between", false, first, e, last)
		isValid(t, "the last", false, first, first, e)
	}
	if valid != going {
		t.Errorf("%d are valid, want %d", valid, going)
	}
}
