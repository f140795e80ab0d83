package objects_test

import (
	"slices"
	"testing"

	"bulkhead/api"
	"bulkhead/objects"
)

// TestChapter: the chapter's examples, one behind the other.
func TestChapter(t *testing.T) {
	x := newPair(t, chapter())
	for _, row := range []struct {
		c    call
		want answer
	}{
		{count(1), answer{count: 1}},
		{down(1), answer{ok: true}},
		{down(1), answer{}},
		{up(1), answer{ok: true}},
		{up(1), answer{ok: true}},
		{up(1), answer{}},
		{count(1), answer{count: 2}},
		{count(0), answer{err: api.ErrArg}},
		{up(2), answer{err: api.ErrArg}},
		{raise(3, true), answer{err: api.ErrArg}},
		{put(2, 7, 8), answer{err: api.ErrArg}},
		{isUp(1), answer{}},
		{isUp(2), answer{ok: true}},
		{raise(1, true), answer{}},
		{raise(1, true), answer{ok: true}},
		{raise(2, false), answer{ok: true}},
		{isUp(2), answer{}},
		{put(1, 7), answer{err: api.ErrArg}},
		{put(1, 7, 8), answer{ok: true}},
		{put(1, 9, 9), answer{}},
		{get(1), answer{ok: true, data: []int64{7, 8}}},
		{get(1), answer{}},
	} {
		if a := x.do(row.c); !a.is(row.want) {
			t.Errorf("%+v = %+v, want %+v", row.c, a, row.want)
		}
	}
	want := api.ObjectState{Sems: []int{2}, Events: []bool{true, false}, Buffers: [][][]int64{{}}}
	if got := x.set.State(); !same(got, want) {
		t.Errorf("State = %v", got)
	}
	for _, s := range []api.ObjectState{
		{Sems: []int{3}, Events: []bool{true, false}, Buffers: [][][]int64{nil}},
		{Sems: []int{2}, Events: []bool{true}, Buffers: [][][]int64{nil}},
		{Sems: []int{2}, Events: []bool{true, false}, Buffers: [][][]int64{{{1}}}},
	} {
		refused(t, "the chapter's", chapter(), s)
	}
}

// refused wants a load to be ErrForm and nil.
func refused(t *testing.T, what string, p api.Part, s api.ObjectState) {
	t.Helper()
	if set, err := objects.Load(p, s); set != nil || err != api.ErrForm {
		t.Errorf("%s: Load of %v with %v: %v, %d", what, show(p), s, set, err)
	}
}

// TestNew (P16.2): each semaphore at its Start, whatever its Max is, each event as in Events, each buffer empty.
func TestNew(t *testing.T) {
	for what, p := range bothKinds() {
		got := objects.New(p).State()
		if !same(got, fresh(p)) {
			t.Errorf("%s: State = %v", what, got)
		}
		if len(got.Sems) != len(p.Sems) || len(got.Events) != len(p.Events) || len(got.Buffers) != len(p.Buffers) {
			t.Errorf("%s: %d semaphores, %d events, %d buffers", what, len(got.Sems), len(got.Events), len(got.Buffers))
		}
		x := newPair(t, p)
		for i := range p.Buffers {
			x.denies(get(i + 1))
		}
	}
}

// TestNothingElseCounts: what else a partition has makes no difference.
func TestNothingElseCounts(t *testing.T) {
	p := chapter()
	p.Server, p.Words, p.Fixed = api.Server{Period: -1, Budget: 9}, -5, 7
	p.Init, p.Code, p.Procs = make([]int64, 3), make([]api.Instr, 2), make([]api.Proc, 40)
	p.Handler, p.Health = -8, [api.Faults]int{9, 9, 9}
	x := &pair{t: t, set: objects.New(p), m: begin(chapter(), fresh(chapter()))}
	x.must(up(1), raise(2, false), put(1, 5, 6))
	x.denies(up(1), put(1, 7, 8))
	x.do(raise(1, true))
	x.refuses(up(2), raise(3, true), put(2, 5, 6), put(1))
	set, err := objects.Load(p, x.set.State())
	if set == nil || err != api.OK {
		t.Fatalf("Load: %d", err)
	}
	x.set = set
	x.gets(1, 5, 6)
	x.must(down(1), down(1))
	x.denies(down(1))
}

// with is a state that is changed by a function; what it was made from stays.
func with(s api.ObjectState, change func(x *api.ObjectState)) api.ObjectState {
	s = clone(s)
	change(&s)
	return s
}

// TestLoadCounts (P16.2): not as many semaphores, events or buffers as there are.
func TestLoadCounts(t *testing.T) {
	for what, p := range families() {
		good := fresh(p)
		loadPair(t, p, good)
		n, k, b := len(p.Sems), len(p.Events), len(p.Buffers)
		refused(t, what, p, with(good, func(x *api.ObjectState) { x.Sems = append(x.Sems, 0) }))
		refused(t, what, p, with(good, func(x *api.ObjectState) { x.Events = append(x.Events, false) }))
		refused(t, what, p, with(good, func(x *api.ObjectState) { x.Buffers = append(x.Buffers, nil) }))
		if n > 0 {
			refused(t, what, p, with(good, func(x *api.ObjectState) { x.Sems = x.Sems[:n-1] }))
			refused(t, what, p, with(good, func(x *api.ObjectState) { x.Sems = nil }))
		}
		if k > 0 {
			refused(t, what, p, with(good, func(x *api.ObjectState) { x.Events = x.Events[:k-1] }))
			refused(t, what, p, with(good, func(x *api.ObjectState) { x.Events = nil }))
		}
		if b > 0 {
			refused(t, what, p, with(good, func(x *api.ObjectState) { x.Buffers = x.Buffers[:b-1] }))
			refused(t, what, p, with(good, func(x *api.ObjectState) { x.Buffers = nil }))
		}
		if n+k+b > 0 {
			refused(t, what, p, api.ObjectState{})
		}
	}
	// Of no objects nil and empty lists are the same.
	loadPair(t, api.Part{}, api.ObjectState{})
	loadPair(t, api.Part{Sems: []api.Sem{}, Events: []bool{}}, api.ObjectState{Buffers: [][][]int64{}})
	// As many in all is not as many of each kind.
	refused(t, "in all", api.Part{Sems: make([]api.Sem, 1)}, api.ObjectState{Events: []bool{true}})
	refused(t, "in all", api.Part{Events: []bool{true}}, api.ObjectState{Buffers: make([][][]int64, 1)})
	refused(t, "in all", api.Part{Buffers: []api.Buffer{{Size: 1, Depth: 1}}}, api.ObjectState{Sems: []int{0}})
}

// TestLoadSems (P16.2): a semaphore below 0 or above its Max, at the first place, in the middle and at the last; both neighbours go.
func TestLoadSems(t *testing.T) {
	for _, most := range []int{0, 1, 2, 5, api.MaxSem, top - 1, top} {
		for at := range 3 {
			p := api.Part{Sems: slices.Repeat([]api.Sem{{Start: 0, Max: 9}}, 3)}
			p.Sems[at].Max = most
			good := api.ObjectState{Sems: []int{9, 0, 9}}
			bad := []int{-1, -2, bottom, bottom + 1}
			if most < top {
				bad = append(bad, most+1, top)
			}
			for _, n := range bad {
				refused(t, "a semaphore", p, with(good, func(x *api.ObjectState) { x.Sems[at] = n }))
			}
			for _, n := range []int{0, most / 2, most} {
				loadPair(t, p, with(good, func(x *api.ObjectState) { x.Sems[at] = n }))
			}
		}
	}
	// Each has a Max of its own.
	p := api.Part{Sems: []api.Sem{{Max: 1}, {Max: 2}, {Max: 3}}}
	loadPair(t, p, api.ObjectState{Sems: []int{1, 2, 3}})
	for at := range 3 {
		s := api.ObjectState{Sems: []int{1, 2, 3}}
		s.Sems[at]++
		refused(t, "a semaphore", p, s)
	}
}

// TestLoadBuffers (P16.2): more messages than Depth, or one that has not Size words, at each place; just Depth of Size words go.
func TestLoadBuffers(t *testing.T) {
	for _, b := range []api.Buffer{{Size: 0, Depth: 1}, {Size: 0, Depth: 4}, {Size: 1, Depth: 0}, {Size: 1, Depth: 1}, {Size: 2, Depth: 3}, {Size: api.MaxSize, Depth: api.MaxDepth}} {
		for at := range 3 {
			p := api.Part{Buffers: slices.Repeat([]api.Buffer{{Size: 3, Depth: 2}}, 3)}
			p.Buffers[at] = b
			good := api.ObjectState{Buffers: [][][]int64{{{1, 2, 3}, {4, 5, 6}}, {{7, 8, 9}}, nil}}
			full := make([][]int64, b.Depth)
			for i := range full {
				full[i] = words(b.Size, int64(10*i))
			}
			good.Buffers[at] = full
			x := loadPair(t, p, good)
			x.denies(put(at+1, words(b.Size, 5)...))
			if b.Depth > 0 {
				y := loadPair(t, p, with(good, func(x *api.ObjectState) { x.Buffers[at] = x.Buffers[at][1:] }))
				y.must(put(at+1, words(b.Size, 5)...))
				y.denies(put(at+1, words(b.Size, 5)...))
			}
			refused(t, "one more", p, with(good, func(x *api.ObjectState) { x.Buffers[at] = append(x.Buffers[at], words(b.Size, 6)) }))
			refused(t, "twice", p, with(good, func(x *api.ObjectState) {
				x.Buffers[at] = append(x.Buffers[at], append(slices.Clone(full), words(b.Size, 6))...)
			}))
			for i := range full {
				refused(t, "a word more", p, with(good, func(x *api.ObjectState) { x.Buffers[at][i] = words(b.Size+1, 6) }))
				if b.Size > 0 {
					refused(t, "a word fewer", p, with(good, func(x *api.ObjectState) { x.Buffers[at][i] = words(b.Size-1, 6) }))
					refused(t, "no words", p, with(good, func(x *api.ObjectState) { x.Buffers[at][i] = nil }))
				}
			}
		}
	}
	// Each has a Size and a Depth of its own.
	p := api.Part{Buffers: []api.Buffer{{Size: 1, Depth: 2}, {Size: 2, Depth: 1}}}
	loadPair(t, p, api.ObjectState{Buffers: [][][]int64{{{1}, {2}}, {{3, 4}}}})
	refused(t, "the other's", p, api.ObjectState{Buffers: [][][]int64{{{3, 4}}, {{1}}}})
	refused(t, "the other's", p, api.ObjectState{Buffers: [][][]int64{{{1}}, {{3, 4}, {5, 6}}}})
}

// TestLoadIllMade (P16.2): a partition that may not be is loaded by the same words. Only a buffer with messages is held against its Depth and Size, and no Start counts.
func TestLoadIllMade(t *testing.T) {
	sem := func(start, most int) api.Part { return api.Part{Sems: []api.Sem{{Start: start, Max: most}}} }
	buffer := func(size, depth int) api.Part { return api.Part{Buffers: []api.Buffer{{Size: size, Depth: depth}}} }
	at := func(n int) api.ObjectState { return api.ObjectState{Sems: []int{n}} }
	holds := func(list ...[]int64) api.ObjectState { return api.ObjectState{Buffers: [][][]int64{list}} }
	for _, start := range []int{bottom, -1, 0, 3, 4, top} {
		loadPair(t, sem(start, 3), at(0))
		loadPair(t, sem(start, 3), at(3))
		refused(t, "above Max", sem(start, 3), at(4))
		refused(t, "below 0", sem(start, 3), at(-1))
		for _, most := range []int{-1, -4, bottom} {
			for _, n := range []int{bottom, most, -1, 0, 1, start, top} {
				refused(t, "a Max below 0", sem(start, most), at(n))
			}
		}
	}
	loadPair(t, sem(0, 0), at(0))
	refused(t, "a Max of 0", sem(0, 0), at(1))
	for _, size := range []int{bottom, -1, 0, 1, 2, top} {
		for _, depth := range []int{bottom, -1, 0, 1, 2, top} {
			x := loadPair(t, buffer(size, depth), holds())
			x.denies(get(1))
			for n := range 4 {
				one, two := holds(words(n, 5)), holds(words(n, 5), words(n, 6))
				if n == size && depth >= 1 {
					loadPair(t, buffer(size, depth), one)
				} else {
					refused(t, "one message", buffer(size, depth), one)
				}
				if n == size && depth >= 2 {
					loadPair(t, buffer(size, depth), two)
				} else {
					refused(t, "two messages", buffer(size, depth), two)
				}
			}
		}
	}
}

// TestSemaphores (P16.3), from each beginning: true down to 0 and up to Max, and no further.
func TestSemaphores(t *testing.T) {
	for _, most := range []int{0, 1, 2, 7} {
		for start := range most + 1 {
			x := newPair(t, api.Part{Sems: []api.Sem{{Start: start, Max: most}}})
			x.must(times(start, down(1))...)
			x.denies(down(1), down(1))
			x.must(times(most, up(1))...)
			x.denies(up(1), up(1))
			x.must(times(most, down(1))...)
			x.denies(down(1))
		}
	}
	for _, most := range []int{api.MaxSem, top} {
		x := newPair(t, api.Part{Sems: []api.Sem{{Start: 0, Max: most}, {Start: 1, Max: most}, {Start: most - 1, Max: most}, {Start: most, Max: most}}})
		x.denies(down(1), up(4))
		x.must(up(1), down(2), up(3), down(4))
		x.denies(down(2), up(3))
		x.must(up(4), down(1), up(2), down(3))
	}
}

// TestSemaphoresIllMade (P16.3): where no partition may begin: Down goes by 0 and Up by Max alone.
func TestSemaphoresIllMade(t *testing.T) {
	x := newPair(t, api.Part{Sems: []api.Sem{{Start: 5, Max: 3}, {Start: -2, Max: 1}, {Start: bottom, Max: top}, {Start: top, Max: bottom}, {Start: -3, Max: -2}, {Start: bottom, Max: bottom}}})
	x.denies(up(1))
	x.must(down(1), down(1))
	x.denies(up(1))
	x.must(down(1), up(1))
	x.denies(up(1))
	x.denies(down(2))
	x.must(up(2), up(2))
	x.denies(down(2))
	x.must(up(2))
	x.denies(up(2))
	x.denies(down(3))
	x.must(up(3))
	x.denies(up(4))
	x.must(down(4))
	x.denies(down(5))
	x.must(up(5))
	x.denies(up(5), down(5), up(6), down(6))
}

// TestEvents (P16.4): the event is as it was made last, the answer how it was ahead of that.
func TestEvents(t *testing.T) {
	for _, from := range []bool{false, true} {
		for bits := range 64 {
			x := newPair(t, api.Part{Events: []bool{!from, from, !from}})
			was := from
			for i := range 6 {
				now := bits>>i&1 == 1
				if a := x.do(raise(2, now)); !a.is(answer{ok: was}) {
					t.Fatalf("Raise(2, %v) = %+v, it was %v", now, a, was)
				}
				for range 2 {
					if a := x.do(isUp(2)); !a.is(answer{ok: now}) {
						t.Fatalf("IsUp = %+v, it was made %v", a, now)
					}
				}
				was = now
			}
			if s := x.set.State(); !slices.Equal(s.Events, []bool{!from, was, !from}) {
				t.Fatalf("the others have changed: %v", s.Events)
			}
		}
	}
}

// TestPutSize (P16.5): data must have just Size words, in a buffer that is empty, has some or is full.
func TestPutSize(t *testing.T) {
	for _, size := range []int{0, 1, 2, api.MaxSize, api.MaxSize + 1, 100} {
		x := newPair(t, api.Part{Buffers: []api.Buffer{{Size: size, Depth: 2}}})
		for i := range 3 {
			for n := range size + 4 {
				if n != size {
					x.refuses(put(1, words(n, 1)...))
				}
			}
			x.refuses(put(1, words(4*size+1, 1)...))
			if i < 2 {
				x.must(put(1, words(size, 7)...))
			}
		}
		x.denies(put(1, words(size, 7)...))
	}
	for _, size := range []int{-1, bottom, top} {
		x := newPair(t, api.Part{Buffers: []api.Buffer{{Size: size, Depth: 2}}})
		for n := range 5 {
			x.refuses(put(1, words(n, 1)...))
		}
		x.denies(get(1))
	}
	// Of no words nil and an empty list are the same.
	x := newPair(t, api.Part{Buffers: []api.Buffer{{Size: 0, Depth: 2}, {Size: 1, Depth: 2}}})
	for _, data := range [][]int64{nil, {}} {
		x.must(call{name: "Put", number: 1, data: data})
		x.refuses(call{name: "Put", number: 2, data: data})
	}
	x.denies(put(1))
	x.gets(1)
	x.gets(1)
	x.denies(get(1))
}

// TestDepth (P16.5): a buffer takes Depth messages and no more; what it gives makes room for one.
func TestDepth(t *testing.T) {
	for _, depth := range []int{0, 1, 2, 3, 5, api.MaxDepth, api.MaxDepth + 1, 200} {
		for _, size := range []int{0, 1, 3} {
			x := newPair(t, api.Part{Buffers: []api.Buffer{{Size: size, Depth: depth}}})
			x.denies(get(1))
			for i := range depth {
				x.must(put(1, words(size, int64(10*i))...))
			}
			x.denies(put(1, words(size, -1)...), put(1, words(size, -2)...))
			for i := range depth {
				x.gets(1, words(size, int64(10*i))...)
				x.must(put(1, words(size, int64(10*(depth+i)))...))
				x.denies(put(1, words(size, -3)...))
			}
			for i := range depth {
				x.gets(1, words(size, int64(10*(depth+i)))...)
			}
			x.denies(get(1), get(1))
		}
	}
	for _, depth := range []int{-1, -2, bottom} {
		x := newPair(t, api.Part{Buffers: []api.Buffer{{Size: 1, Depth: depth}}})
		x.denies(put(1, 4), put(1, 4), get(1))
		x.refuses(put(1), put(1, 4, 5))
	}
	// One with as much room as there can be has it as it goes.
	x := newPair(t, api.Part{Buffers: []api.Buffer{{Size: 1, Depth: top}, {Size: 0, Depth: top}}})
	for i := range 200 {
		x.must(put(1, int64(i)), put(2))
	}
	x.gets(1, 0)
	x.gets(2)
}

// TestWords (P16.5): the words come as they were put, the ends of int64 too, also where two messages are the same.
func TestWords(t *testing.T) {
	x := newPair(t, api.Part{Buffers: []api.Buffer{{Size: 4, Depth: 3}}})
	x.must(put(1, bottom, -1, 0, top), put(1, bottom, -1, 0, top), put(1, top, 1, 0, bottom))
	x.gets(1, bottom, -1, 0, top)
	x.gets(1, bottom, -1, 0, top)
	x.gets(1, top, 1, 0, bottom)
	x.denies(get(1))
}

// TestNumbers (P16.1): an object that is not there, for each call, on sets of all kinds that hold something.
func TestNumbers(t *testing.T) {
	for what, p := range bothKinds() {
		x := newPair(t, p)
		there := map[string]int{"Down": len(p.Sems), "Up": len(p.Sems), "Count": len(p.Sems), "Raise": len(p.Events), "IsUp": len(p.Events), "Put": len(p.Buffers), "Get": len(p.Buffers)}
		for i, b := range p.Buffers {
			if b.Size >= 0 && b.Size < 400 {
				x.do(put(i+1, words(b.Size, 8)...))
			}
		}
		for _, name := range names() {
			n := there[name]
			for _, number := range []int{bottom, bottom + 1, -n - 1, -n, -1, 0, n + 1, n + 2, 2*n + 1, 1 << 32, 1<<32 + 1, top - 1, top} {
				if number >= 1 && number <= n {
					continue
				}
				for _, up := range []bool{false, true} {
					for _, data := range [][]int64{nil, {1}, {1, 2}, {1, 2, 3}} {
						c := call{name: name, number: number, up: up, data: data}
						if a := c.on(x.set); !a.is(answer{err: api.ErrArg}) {
							t.Fatalf("%s: %+v = %+v", what, c, a)
						}
					}
				}
			}
			x.stands(name + " of none")
			if n > 0 {
				for _, number := range []int{1, n} {
					c := call{name: name, number: number}
					if name == "Put" {
						c.data = words(max(0, min(400, p.Buffers[number-1].Size)), 3)
					}
					x.do(c)
				}
			}
		}
	}
}

// TestKindsByThemselves: each kind is numbered by itself, and a call changes its one object alone.
func TestKindsByThemselves(t *testing.T) {
	p := api.Part{Sems: slices.Repeat([]api.Sem{{Start: 2, Max: 4}}, 3), Events: make([]bool, 4), Buffers: slices.Repeat([]api.Buffer{{Size: 1, Depth: 3}}, 2)}
	start := fresh(p)
	for _, row := range []struct {
		c    call
		want api.ObjectState
	}{
		{down(1), with(start, func(x *api.ObjectState) { x.Sems[0] = 1 })},
		{down(3), with(start, func(x *api.ObjectState) { x.Sems[2] = 1 })},
		{up(2), with(start, func(x *api.ObjectState) { x.Sems[1] = 3 })},
		{up(3), with(start, func(x *api.ObjectState) { x.Sems[2] = 3 })},
		{count(2), start},
		{raise(1, true), with(start, func(x *api.ObjectState) { x.Events[0] = true })},
		{raise(4, true), with(start, func(x *api.ObjectState) { x.Events[3] = true })},
		{raise(2, false), start},
		{isUp(2), start},
		{put(1, 9), with(start, func(x *api.ObjectState) { x.Buffers[0] = [][]int64{{9}} })},
		{put(2, 9), with(start, func(x *api.ObjectState) { x.Buffers[1] = [][]int64{{9}} })},
		{get(1), start},
	} {
		set := objects.New(p)
		row.c.on(set)
		if got := set.State(); !same(got, row.want) {
			t.Errorf("%+v: %v, want %v", row.c, got, row.want)
		}
	}
	x := newPair(t, p)
	x.refuses(down(4), up(4), count(4), raise(5, true), isUp(5), put(3, 1), get(3))
}

// TestState (P16.6): all of it, the oldest message first; telling changes nothing.
func TestState(t *testing.T) {
	p := api.Part{Sems: []api.Sem{{Start: 1, Max: 4}, {Start: 4, Max: 4}}, Events: []bool{false, true, false}, Buffers: []api.Buffer{{Size: 2, Depth: 3}, {Size: 0, Depth: 2}, {Size: 1, Depth: 1}}}
	x := newPair(t, p)
	x.must(put(1, 1, 2), put(1, 3, 4), put(2), put(2))
	x.gets(1, 1, 2)
	x.must(put(1, 5, 6), put(1, 7, 8), up(1), down(2), raise(2, false))
	x.do(raise(3, true))
	want := api.ObjectState{Sems: []int{2, 3}, Events: []bool{false, false, true}, Buffers: [][][]int64{{{3, 4}, {5, 6}, {7, 8}}, {{}, {}}, {}}}
	for range 3 {
		if got := x.set.State(); !same(got, want) {
			t.Fatalf("State = %v, want %v", got, want)
		}
	}
	x.gets(1, 3, 4)
	x.gets(2)
	x.denies(get(3))
	if got := objects.New(api.Part{}).State(); !same(got, api.ObjectState{}) {
		t.Errorf("State of no objects = %v", got)
	}
}
