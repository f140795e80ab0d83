package trace_test

import (
	"bytes"
	"math/rand/v2"
	"slices"
	"testing"

	"bulkhead/api"
	"bulkhead/trace"
)

// What follows (P23.9) is held with the program's calls alone, over many events, lists, lines and bytes.

// thereAndBack holds that events that go are read again, from bytes and from lines, and are told again so.
func thereAndBack(t *testing.T, events []api.Event) {
	t.Helper()
	b, err := trace.Encode(events)
	if err != api.OK {
		t.Fatalf("%s: %d", few(events), err)
	}
	list, err := trace.Decode(b)
	if trace.Differ(list, events) != -1 || !same(list, events) || err != api.OK {
		t.Fatalf("%s are read again as %s, %d", few(events), few(list), err)
	}
	if again, err := trace.Encode(list); !bytes.Equal(again, b) || err != api.OK {
		t.Fatalf("%s are told again as other bytes, %d", few(events), err)
	}
	for _, e := range events {
		line, ok := trace.Show(e)
		read, err := trace.Read(line)
		if !ok || !sameEvent(read, e) || err != api.OK {
			t.Fatalf("%v: %q, %v is read again as %v, %d", e, line, ok, read, err)
		}
		if again, ok := trace.Show(read); again != line || !ok {
			t.Fatalf("%q is told again as %q, %v", line, again, ok)
		}
	}
}

func TestP23_9_ThereAndBack(t *testing.T) {
	for _, list := range sorts() {
		thereAndBack(t, list)
	}
	thereAndBack(t, ofWords(149795, 5))
	r := rand.New(rand.NewPCG(23, 10))
	for range 5000 {
		thereAndBack(t, listOf(r, 6, goingEvent))
	}
}

// Unlike lists have unlike bytes, unlike events unlike lines; like ones the same.
func TestP23_9_UnlikeAsTold(t *testing.T) {
	bytesSeen, linesSeen := map[string][]api.Event{}, map[string]api.Event{}
	seen := func(list []api.Event) {
		t.Helper()
		b, err := trace.Encode(list)
		if before, ok := bytesSeen[string(b)]; err == api.OK && ok && !same(before, list) {
			t.Fatalf("%v and %v are told alike", before, list)
		}
		bytesSeen[string(b)] = list
		for _, e := range list {
			line, ok := trace.Show(e)
			if before, there := linesSeen[line]; ok && there && !sameEvent(before, e) {
				t.Fatalf("%v and %v are told alike: %q", before, e, line)
			}
			linesSeen[line] = e
		}
	}
	x := api.Event{Tick: 5, Part: 3, Kind: 4, Proc: 2, A: 6, B: -6, Data: []int64{1, 2, 3}}
	for _, y := range unlikes(x) {
		seen([]api.Event{y})
		seen([]api.Event{x, y})
		seen([]api.Event{y, x})
	}
	r := rand.New(rand.NewPCG(23, 11))
	small := func(r *rand.Rand) api.Event {
		e := smallEvent(r)
		e.Part++
		return e
	}
	for range 10000 {
		a, b := listOf(r, 3, small), listOf(r, 3, small)
		seen(a)
		seen(b)
		seen(listOf(r, 3, goingEvent))
		first, _ := trace.Encode(a)
		second, _ := trace.Encode(b)
		if bytes.Equal(first, second) != (trace.Differ(a, b) == -1) {
			t.Fatalf("%v and %v: Differ says %d", a, b, trace.Differ(a, b))
		}
	}
}

// partsOf are the partitions that a list names, in its order.
func partsOf(events []api.Event) []int {
	var list []int
	for _, e := range events {
		list = append(list, e.Part)
	}
	return list
}

// projectionsDiffer tells whether the projections to one of the numbers that one of the lists names do.
func projectionsDiffer(a, b []api.Event) bool {
	return slices.ContainsFunc(slices.Concat(partsOf(a), partsOf(b)), func(part int) bool {
		return trace.Differ(trace.Project(a, part), trace.Project(b, part)) != -1
	})
}

// holdsTogether holds what P23.9 says of two lists' projections.
func holdsTogether(t *testing.T, a, b []api.Event) {
	t.Helper()
	unlike := trace.Differ(a, b) != -1
	if !unlike {
		for part := -1; part <= 40; part++ {
			if trace.Differ(trace.Project(a, part), trace.Project(b, part)) != -1 {
				t.Fatalf("%v and %v differ in partition %d alone", a, b, part)
			}
		}
	}
	projected := projectionsDiffer(a, b)
	if projected && !unlike {
		t.Fatalf("%v and %v have projections that differ", a, b)
	}
	if !projected && slices.Equal(partsOf(a), partsOf(b)) && unlike {
		t.Fatalf("%v and %v differ in no projection", a, b)
	}
}

func TestP23_9_Projections(t *testing.T) {
	r := rand.New(rand.NewPCG(23, 12))
	var like, turned, unlike int
	for range 20000 {
		a := listOf(r, 6, pick(r, smallEvent, smallEvent, goingEvent, anyEvent))
		b := slices.Clone(a)
		switch r.IntN(4) {
		case 0:
			// Another order of the same events.
			r.Shuffle(len(b), func(i, j int) { b[i], b[j] = b[j], b[i] })
		case 1:
			if len(b) > 0 {
				b[r.IntN(len(b))].A++
			}
		case 2:
			b = listOf(r, 6, smallEvent)
		}
		holdsTogether(t, a, b)
		switch {
		case trace.Differ(a, b) == -1:
			like++
		case projectionsDiffer(a, b):
			unlike++
		default:
			turned++
		}
	}
	// All three are among them: without a difference, with one in the projections, and with one in the partitions' order alone.
	if like < 2000 || turned < 500 || unlike < 2000 {
		t.Errorf("%d are like, %d unlike in their order, %d in a projection", like, turned, unlike)
	}
}

// All lists of up to four events, each one of three, held against each other.
func TestP23_9_AllShortLists(t *testing.T) {
	letters := []api.Event{at(1, 1), at(1, 2), at(1, 2, 7)}
	lists := [][]api.Event{nil}
	for from := 0; len(lists) < 121; from++ {
		for _, e := range letters {
			lists = append(lists, append(slices.Clone(lists[from]), e))
		}
	}
	for i, a := range lists {
		for j, b := range lists {
			if (trace.Differ(a, b) == -1) != (i == j) {
				t.Fatalf("%v and %v: %d", a, b, trace.Differ(a, b))
			}
			differs(t, a, b)
			holdsTogether(t, a, b)
		}
	}
}

// Of a valid list the projections are valid, and make it up.
func TestP23_9_ProjectionsOfValidOnes(t *testing.T) {
	r := rand.New(rand.NewPCG(23, 13))
	for range 3000 {
		list := risen(r, 12, goingEvent)
		many := 0
		for part := 1; part <= api.MaxParts; part++ {
			own := trace.Project(list, part)
			many += len(own)
			if !trace.Valid(own) {
				t.Fatalf("%v: the projection to %d is not valid", list, part)
			}
			if again := trace.Project(own, part); trace.Differ(own, again) != -1 {
				t.Fatalf("%v: the projection to %d, projected, is %v", list, part, again)
			}
		}
		if many != len(list) || !trace.Valid(list) {
			t.Fatalf("%v: the projections have %d events", list, many)
		}
	}
}
