package objects_test

import (
	"math/rand/v2"
	"slices"
	"testing"

	"bulkhead/api"
	"bulkhead/objects"
)

// spoil writes over a list, its spare room too.
func spoil[T any](list []T, with T) {
	list = list[:cap(list)]
	for i := range list {
		list[i] = with
	}
}

// spoilState writes over all of a state, from the words outward, spare room too.
func spoilState(s api.ObjectState) {
	spoil(s.Sems, -77)
	events := s.Events[:cap(s.Events)]
	for i := range events {
		events[i] = !events[i]
	}
	for _, list := range s.Buffers[:cap(s.Buffers)] {
		for _, data := range list[:cap(list)] {
			spoil(data, -77)
		}
		spoil(list, []int64{-78})
	}
	spoil(s.Buffers, [][]int64{{-79}, {-79}, {-79}})
}

// piece is a list cut out of a longer one, with room behind it; and the longer one.
func piece[T any](list []T, around T) ([]T, []T) {
	whole := append([]T{around, around}, list...)
	whole = append(whole, around, around, around)
	return whole[2 : 2+len(list)], whole
}

// busyPart is a partition of which busy holds something of each kind.
func busyPart() api.Part {
	return api.Part{Sems: []api.Sem{{Start: 2, Max: 4}, {Start: 0, Max: 1}}, Events: []bool{false, true, false}, Buffers: []api.Buffer{{Size: 2, Depth: 4}, {Size: 3, Depth: 2}, {Size: 0, Depth: 3}}}
}

// busy is a set with messages in all its buffers.
func busy(t *testing.T) *pair {
	t.Helper()
	x := newPair(t, busyPart())
	x.must(put(1, 1, 2), put(1, 3, 4), put(1, 5, 6), put(2, 7, 8, 9), put(2, 10, 11, 12), put(3), up(1))
	x.do(raise(3, true))
	return x
}

// TestPartIsNotKept (P16.1): the partition is left as it is, what lies behind its lists too, and not kept.
func TestPartIsNotKept(t *testing.T) {
	load := func(p api.Part) *objects.Set {
		set, _ := objects.Load(p, fresh(p))
		return set
	}
	for what, do := range map[string]func(api.Part) *objects.Set{"New": objects.New, "Load": load} {
		var p api.Part
		var sems []api.Sem
		var events []bool
		var buffers []api.Buffer
		p.Sems, sems = piece(busyPart().Sems, api.Sem{Start: 8, Max: 9})
		p.Events, events = piece(busyPart().Events, true)
		p.Buffers, buffers = piece(busyPart().Buffers, api.Buffer{Size: 1, Depth: 1})
		wholeSems, wholeEvents, wholeBuffers := slices.Clone(sems), slices.Clone(events), slices.Clone(buffers)
		x := &pair{t: t, set: do(p), m: begin(busyPart(), fresh(busyPart()))}
		x.must(up(1), down(1), up(2), put(1, 5, 6), put(3))
		x.do(raise(1, true))
		if !slices.Equal(sems, wholeSems) || !slices.Equal(events, wholeEvents) || !slices.Equal(buffers, wholeBuffers) {
			t.Errorf("%s: what was handed in has changed: %v, %v, %v", what, sems, events, buffers)
		}
		spoil(sems, api.Sem{Start: -5, Max: -6})
		for i := range events {
			events[i] = !events[i]
		}
		spoil(buffers, api.Buffer{Size: 7, Depth: -1})
		x.stands(what)
		x.must(up(1), up(1), put(2, 1, 2, 3), put(1, 7, 8))
		x.denies(up(1), up(2))
		x.gets(1, 5, 6)
	}
}

// TestDataIsNotKept (P16.1): the message that Put is handed is left as it is, its spare room too, and not kept.
func TestDataIsNotKept(t *testing.T) {
	for _, size := range []int{0, 1, 2, 3, 5, api.MaxSize} {
		x := newPair(t, api.Part{Buffers: []api.Buffer{{Size: size, Depth: 3}}})
		for i := range 4 {
			data, whole := piece(words(size, int64(100*i)), 91)
			before := slices.Clone(whole)
			x.do(call{name: "Put", number: 1, data: data})
			x.do(call{name: "Put", number: 1, data: whole})
			if !slices.Equal(whole, before) {
				t.Errorf("Put has changed %v to %v", before, whole)
			}
			spoil(whole, -77)
			x.stands("what was put written over")
		}
		// One list, put again and again with other words in it.
		y := newPair(t, api.Part{Buffers: []api.Buffer{{Size: size, Depth: 3}}})
		list := make([]int64, size, size+3)
		for i := range 3 {
			spoil(list, int64(i))
			y.must(call{name: "Put", number: 1, data: list})
		}
		for i := range 3 {
			got := y.do(get(1))
			if !got.is(answer{ok: true, data: slices.Repeat([]int64{int64(i)}, size)}) {
				t.Errorf("message %d: %v", i, got)
			}
			spoil(got.data, -9)
			if slices.Contains(list[:cap(list)], -9) {
				t.Errorf("what Get told lies in what Put was handed: %v", list[:cap(list)])
			}
		}
	}
}

// TestGotIsNew (P16.1): what Get told may be written over, spare room too, and does not change with later calls.
func TestGotIsNew(t *testing.T) {
	for _, size := range []int{1, 2, 3, 5, 7, api.MaxSize} {
		x := newPair(t, api.Part{Buffers: []api.Buffer{{Size: size, Depth: 4}}})
		for i := range 4 {
			x.must(put(1, words(size, int64(100*i))...))
		}
		var told, spoiled [][]int64
		for i := range 20 {
			got := x.do(get(1)).data
			if i%2 == 0 {
				spoil(got, -77)
				spoiled = append(spoiled, got[:cap(got)])
				x.stands("what Get told written over")
			} else {
				told = append(told, got)
			}
			x.must(put(1, words(size, int64(100*(i+4)))...))
		}
		for range 4 {
			spoil(x.do(get(1)).data, -78)
		}
		for _, data := range spoiled {
			if slices.ContainsFunc(data, func(w int64) bool { return w != -77 }) {
				t.Errorf("what Get told is written into: %v", data)
			}
		}
		for k, data := range told {
			if !slices.Equal(data, words(size, int64(100*(2*k+1)))) {
				t.Errorf("what Get told has changed: %v", data)
			}
		}
	}
}

// TestStateIsNew (P16.1): what State told may be written over, spare room too, and does not change with later calls.
func TestStateIsNew(t *testing.T) {
	x := busy(t)
	want := x.m.state()
	told, kept := x.set.State(), x.set.State()
	spoilState(told)
	x.stands("what State told written over")
	if !same(kept, want) {
		t.Errorf("one State is another's memory: %v", kept)
	}
	x.must(down(1), up(2), put(1, 20, 21))
	x.do(raise(1, true))
	x.gets(1, 1, 2)
	x.gets(2, 7, 8, 9)
	x.must(put(2, 30, 31, 32), put(1, 33, 34))
	if !same(kept, want) {
		t.Errorf("what State told has changed: %v, want %v", kept, want)
	}
}

// TestNothingIsWrittenIntoState (P16.1): no later call writes into what State told, its spare room too.
func TestNothingIsWrittenIntoState(t *testing.T) {
	x := busy(t)
	told := x.set.State()
	// Each list to the end of its room, and what stands there ahead of the calls.
	told.Sems, told.Events = told.Sems[:cap(told.Sems)], told.Events[:cap(told.Events)]
	for i, list := range told.Buffers {
		for k, data := range list {
			list[k] = data[:cap(data)]
		}
		told.Buffers[i] = list[:cap(list)]
	}
	told.Buffers = told.Buffers[:cap(told.Buffers)]
	before := clone(told)
	r := rand.New(rand.NewPCG(16, 8))
	for i := range 500 {
		x.do(chance(r, busyPart(), int64(i)))
	}
	if !same(told, before) {
		t.Errorf("%v, it was %v", told, before)
	}
}

// TestStateShares: at all fillings of three buffers no list of one State has another one's memory, spare room too.
func TestStateShares(t *testing.T) {
	for fill := range 5 * 5 * 5 {
		p := api.Part{Sems: make([]api.Sem, 3), Events: make([]bool, 3), Buffers: slices.Repeat([]api.Buffer{{Size: 3, Depth: 4}}, 3)}
		x := newPair(t, p)
		for i, n := range []int{fill % 5, fill / 5 % 5, fill / 25} {
			for k := range n {
				x.must(put(i+1, words(3, int64(100*i+10*k))...))
			}
		}
		want := x.m.state()
		for i := range want.Buffers {
			for k := range want.Buffers[i] {
				told := x.set.State()
				spoil(told.Buffers[i][k], -77)
				if !same(with(told, func(s *api.ObjectState) { s.Buffers[i][k] = want.Buffers[i][k] }), want) {
					t.Fatalf("message %d of buffer %d lies in another's memory: %v", k, i+1, told)
				}
			}
			told := x.set.State()
			spoil(told.Buffers[i], []int64{-78})
			if !same(with(told, func(s *api.ObjectState) { s.Buffers[i] = want.Buffers[i] }), want) {
				t.Fatalf("the messages of buffer %d lie in another's memory: %v", i+1, told)
			}
		}
	}
}

// TestStateOfEmpty: lists of buffers that have run dry share no room either.
func TestStateOfEmpty(t *testing.T) {
	x := newPair(t, chapter())
	for range 5 {
		x.must(put(1, 4, 5))
		x.gets(1, 4, 5)
		told := x.set.State()
		spoilState(told)
		x.stands("what State told written over")
	}
}

// TestLoadedIsNotKept (P16.2): the state that Load is handed is left as it is, at every depth and its spare room too, and not kept.
func TestLoadedIsNotKept(t *testing.T) {
	want := busy(t).m.state()
	var s, whole api.ObjectState
	s.Sems, whole.Sems = piece(want.Sems, 91)
	s.Events, whole.Events = piece(want.Events, true)
	var lists [][][]int64
	var handed [][][]int64
	for _, list := range want.Buffers {
		var own [][]int64
		for _, data := range list {
			cut, longer := piece(data, 92)
			own = append(own, cut)
			lists = append(lists, [][]int64{longer})
		}
		cut, longer := piece(own, []int64{93})
		handed = append(handed, cut)
		lists = append(lists, longer)
	}
	s.Buffers, whole.Buffers = piece(handed, [][]int64{{94}})
	beforeWhole := clone(whole)
	beforeLists := clone(api.ObjectState{Buffers: lists}).Buffers
	one, err := objects.Load(busyPart(), s)
	two, again := objects.Load(busyPart(), s)
	if one == nil || two == nil || err != api.OK || again != api.OK {
		t.Fatalf("Load: %d, %d", err, again)
	}
	x, y := &pair{t: t, set: one, m: begin(busyPart(), want)}, &pair{t: t, set: two, m: begin(busyPart(), want)}
	x.stands("Load")
	x.must(down(1), up(2), put(1, 50, 51), put(3))
	x.do(raise(2, false))
	spoil(x.do(get(1)).data, -75)
	spoil(x.do(get(2)).data, -76)
	x.must(put(1, 52, 53), put(2, 54, 55, 56))
	if !same(whole, beforeWhole) || !slices.EqualFunc(lists, beforeLists, sameMessages) {
		t.Errorf("what Load was handed has changed: %v, %v", whole, lists)
	}
	y.stands("calls on the other set of the same state")
	for _, list := range lists {
		for _, data := range list {
			spoil(data, -77)
		}
	}
	x.stands("the words written over")
	y.stands("the words written over")
	for _, list := range lists {
		spoil(list, []int64{-78})
	}
	spoilState(whole)
	x.stands("the state written over")
	y.stands("the state written over")
	y.gets(1, 1, 2)
	y.gets(1, 3, 4)
	y.gets(2, 7, 8, 9)
	y.must(put(2, 1, 2, 3))
}

// TestRefusedLoadLeaves (P16.1): what a refused load is handed is left as it is.
func TestRefusedLoadLeaves(t *testing.T) {
	s := api.ObjectState{Sems: []int{1}, Events: []bool{true, false}, Buffers: [][][]int64{{{1, 2}, {3, 4}}}}
	before, p := clone(s), chapter()
	refused(t, "one message too many", p, s)
	if !same(s, before) || !slices.Equal(p.Sems, chapter().Sems) || !slices.Equal(p.Events, chapter().Events) || !slices.Equal(p.Buffers, chapter().Buffers) {
		t.Errorf("it has changed: %v, %v", s, p)
	}
}

// TestOneListTwice: one list as two messages, in two buffers and in two sets, is as many messages.
func TestOneListTwice(t *testing.T) {
	data := []int64{1, 2}
	p := api.Part{Buffers: []api.Buffer{{Size: 2, Depth: 2}, {Size: 2, Depth: 2}}}
	list := [][]int64{data, data}
	x := loadPair(t, p, api.ObjectState{Buffers: [][][]int64{list, list}})
	y := loadPair(t, p, api.ObjectState{Buffers: [][][]int64{list, list}})
	spoil(x.do(get(1)).data, -77)
	x.stands("the first written over")
	y.stands("the first of the other set written over")
	x.gets(1, 1, 2)
	x.gets(2, 1, 2)
	x.gets(2, 1, 2)
	if !slices.Equal(data, []int64{1, 2}) {
		t.Errorf("the list is %v", data)
	}
}

// TestSetsShareNothing (P16.1): sets of one partition, made and loaded, each with calls of its own.
func TestSetsShareNothing(t *testing.T) {
	kinds := bothKinds()
	for _, what := range sortedKinds(kinds) {
		p := kinds[what]
		t.Run(what, func(t *testing.T) {
			r := rand.New(rand.NewPCG(16, 7))
			list := []*pair{newPair(t, p), newPair(t, p)}
			if s, ok := standing(r, p); ok {
				list = append(list, loadPair(t, p, s), loadPair(t, p, s))
			}
			for i := range 150 {
				oneOf(r, list).do(chance(r, p, int64(i)))
				for _, x := range list {
					x.stands("a call on another set")
				}
			}
			told := list[0].set.State()
			if twin, err := objects.Load(p, told); err == api.OK {
				x := &pair{t: t, set: twin, m: begin(p, told)}
				for i := range 60 {
					x.do(chance(r, p, int64(200+i)))
					list[0].stands("a call on its twin")
				}
			}
		})
	}
}

// TestNoPanic: no call panics, whatever the partition and the numbers are.
func TestNoPanic(t *testing.T) {
	r := rand.New(rand.NewPCG(16, 9))
	kinds := bothKinds()
	numbers := []int{bottom, -1, 0, 1, 2, 3, 9, 80, 1 << 40, top}
	refusedOne, _ := objects.Load(chapter(), api.ObjectState{})
	for _, what := range sortedKinds(kinds) {
		p := kinds[what]
		sets := []*objects.Set{objects.New(p), refusedOne, {}}
		if s, ok := standing(r, p); ok {
			set, _ := objects.Load(p, s)
			sets = append(sets, set)
		}
		for _, set := range sets {
			for range 300 {
				c := call{name: oneOf(r, names()), number: oneOf(r, numbers), up: r.IntN(2) == 0, data: words(r.IntN(20), 1)}
				c.on(set)
				set.State()
			}
		}
		for range 50 {
			s := api.ObjectState{}
			for range len(p.Sems) + r.IntN(2) {
				s.Sems = append(s.Sems, oneOf(r, numbers))
			}
			for range len(p.Events) + r.IntN(2) {
				s.Events = append(s.Events, true)
			}
			for range len(p.Buffers) + r.IntN(2) {
				s.Buffers = append(s.Buffers, slices.Repeat([][]int64{words(r.IntN(4), 0)}, r.IntN(4)))
			}
			if set, err := objects.Load(p, s); (err == api.OK) != fits(p, s) || (err == api.OK) != (set != nil) {
				t.Errorf("%s: Load of %v: %d", what, s, err)
			}
		}
	}
}

// TestNone: what a refused load answers, and a set that nobody made, have no objects.
func TestNone(t *testing.T) {
	none, _ := objects.Load(chapter(), api.ObjectState{})
	for _, set := range []*objects.Set{none, {}} {
		x := &pair{t: t, set: set, m: begin(api.Part{}, api.ObjectState{})}
		x.stands("nothing")
		for _, name := range names() {
			for number := -1; number < 3; number++ {
				x.refuses(call{name: name, number: number, up: true, data: []int64{1}}, call{name: name, number: number})
			}
		}
	}
}
