package port_test

import (
	"slices"
	"testing"

	"bulkhead/api"
	"bulkhead/port"
)

// row is a call and what it must answer.
type row struct {
	c    call
	want answer
}

// rows wants calls, one behind the other, to answer so.
func (x *pair) rows(list []row) {
	x.t.Helper()
	for _, r := range list {
		if a := x.do(r.c); !a.is(r.want) {
			x.t.Errorf("%+v = %+v, want %+v", r.c, a, r.want)
		}
	}
}

// TestChapter: the chapter's examples, one behind the other.
func TestChapter(t *testing.T) {
	x := newPair(t, chapter())
	yes, no, notArg, notPort := answer{ok: true}, answer{}, answer{err: api.ErrArg}, answer{err: api.ErrPort}
	x.rows([]row{
		{own(1, api.Queuing, false), yes},
		{own(1, api.Queuing, true), no},
		{own(3, api.Queuing, true), no},
		{own(9, 0, false), no},
		{push(1, 1, 2), yes},
		{push(1, 3, 4), yes},
		{push(1, 5, 6), no},
		{push(1, 7), notArg},
		{push(2, 1), notPort},
		{push(3, 1), notPort},
		{lose(1), no},
		{count(1), answer{count: 2, lost: 1}},
		{lose(2), notPort},
		{pop(1), answer{ok: true, data: []int64{1, 2}}},
		{pop(1), answer{ok: true, data: []int64{3, 4}}},
		{pop(1), no},
		{latest(2, 7), no},
		{set(2, 10, 8), no},
		{latest(2, 15), answer{data: []int64{8}, count: 5, ok: true}},
		{latest(2, 16), answer{data: []int64{8}, count: 6}},
		{latest(2, 9), notArg},
		{count(2), answer{count: 1}},
		{count(3), notPort},
	})
	want := []api.PortState{{Lost: 1}, {Sample: api.Sample{Has: true, Tick: 10, Data: []int64{8}}}, {}}
	if got := x.ports.State(); !same(got, want) {
		t.Errorf("State = %v", got)
	}
}

// TestNew (P17.1): all queues are empty, there are no samples, nothing is lost.
func TestNew(t *testing.T) {
	for what, w := range families() {
		got := port.New(w.x, w.part).State()
		if !same(got, make([]api.PortState, len(w.x.Ports))) {
			t.Errorf("%s: State = %v", what, got)
		}
		x := newPair(t, w)
		for _, number := range w.numbers(isAny) {
			x.denies(count(number))
		}
		for _, number := range w.numbers(isQueuing) {
			x.denies(pop(number))
		}
		for _, number := range w.numbers(isSamplingIn) {
			x.denies(latest(number, 0), latest(number, last))
		}
	}
}

// TestNoPart (P17.1): a number of no partition has no ports.
func TestNoPart(t *testing.T) {
	w := each()
	for _, part := range []int{bottom, bottom + 1, -3, -2, -1, 0, 4, 5, api.MaxParts, 1 << 32, 1<<32 + 2, top - 1, top} {
		w.part = part
		full := make([]api.PortState, len(w.x.Ports))
		for i := range full {
			full[i] = api.PortState{Queue: messages(9, 9, 1), Sample: api.Sample{Has: true, Tick: -1}, Lost: 4}
		}
		for _, x := range []*pair{newPair(t, w), loadPair(t, w, full)} {
			for number := range len(w.x.Ports) + 1 {
				x.refuses(api.ErrPort, push(number, 1), push(number, 1, 2), pop(number), lose(number), set(number, 1, 1, 2), latest(number, 1), count(number))
				x.denies(own(number, api.Queuing, false), own(number, api.Queuing, true), own(number, api.Sampling, false), own(number, api.Sampling, true))
			}
			if got := x.ports.State(); !same(got, make([]api.PortState, 12)) {
				t.Errorf("partition %d: State = %v", part, got)
			}
		}
	}
}

// TestOwn (P17.2): one of each sort, asked for each kind and way, kinds that are none among them.
func TestOwn(t *testing.T) {
	is := map[int]call{2: own(2, api.Queuing, false), 5: own(5, api.Queuing, true), 8: own(8, api.Sampling, false), 11: own(11, api.Sampling, true)}
	p := port.New(each().x, 2)
	for _, number := range []int{bottom, -11, -2, -1, 0, 1, 2, 3, 4, 5, 6, 7, 8, 9, 10, 11, 12, 13, 14, 1<<32 + 2, top} {
		for _, kind := range []int{bottom, -1, api.Sampling, api.Queuing, 2, 3, 256, 1 << 32, 1<<32 + 1, top} {
			for _, out := range []bool{false, true} {
				want := false
				if c, there := is[number]; there {
					want = c.kind == kind && c.out == out
				}
				if got := p.Own(number, kind, out); got != want {
					t.Errorf("Own(%d, %d, %v) = %v", number, kind, out, got)
				}
			}
		}
	}
	// It hangs on nothing that happens.
	for what, w := range families() {
		x := newPair(t, w)
		for _, number := range w.numbers(isAny) {
			q := w.x.Ports[number-1]
			x.do(push(number, words(q.Size, 1)...))
			x.do(set(number, 3, words(q.Size, 1)...))
			for _, kind := range []int{api.Sampling, api.Queuing} {
				for _, out := range []bool{false, true} {
					if a := x.do(own(number, kind, out)); a.ok != (q.Kind == kind && q.Out == out) {
						t.Errorf("%s: Own(%d, %d, %v) = %v", what, number, kind, out, a)
					}
				}
			}
		}
	}
}

// TestWhichPorts (P17.3 to P17.8): which call takes a port of which sort, written out; every other number is ErrPort, whatever else is wrong too.
func TestWhichPorts(t *testing.T) {
	takes := map[string][]int{"Push": {2, 5}, "Pop": {2, 5}, "Lose": {2}, "Set": {8}, "Last": {8}, "Count": {2, 5, 8, 11}}
	for name, numbers := range takes {
		for _, number := range []int{bottom, bottom + 1, -12, -2, -1, 0, 1, 2, 3, 4, 5, 6, 7, 8, 9, 10, 11, 12, 13, 14, 64, 65, 256 + 2, 1 << 32, 1<<32 + 2, 1<<32 + 8, top - 1, top} {
			x := newPair(t, each())
			// Something stands at each port, so that what a wrong one would do shows.
			x.must(push(2, 1, 2), push(5, 3), lose(2), set(8, 4, 5, 6))
			before := x.ports.State()
			for _, data := range [][]int64{nil, {1}, {1, 2}, {1, 2, 3}, {1, 2, 3, 4}} {
				for _, now := range []int{bottom, -1, 0, 4, last, api.MaxTick, top} {
					a := x.do(call{name: name, number: number, data: data, now: now})
					if slices.Contains(numbers, number) {
						if a.err == api.ErrPort {
							t.Errorf("%s of port %d: %+v", name, number, a)
						}
						continue
					}
					if !a.is(answer{err: api.ErrPort}) {
						t.Errorf("%s of port %d: %+v", name, number, a)
					}
				}
			}
			if got := x.ports.State(); !slices.Contains(numbers, number) && !same(got, before) {
				t.Errorf("%s of port %d has changed %v to %v", name, number, before, got)
			}
		}
	}
}

// TestNumbers: numbers that no port has, for each call, on ports of all kinds.
func TestNumbers(t *testing.T) {
	for what, w := range families() {
		x := newPair(t, w)
		n := len(w.x.Ports)
		for _, number := range []int{bottom, bottom + 1, -n - 1, -n, -1, 0, n + 1, n + 2, 2*n + 1, 1 << 32, 1<<32 + 1, top - 1, top} {
			for _, name := range names() {
				c := call{name: name, number: number, kind: api.Queuing, data: []int64{1}, now: 5}
				want := answer{err: api.ErrPort}
				if name == "Own" {
					want = answer{}
				}
				if a := c.on(x.ports); !a.is(want) {
					t.Fatalf("%s: %+v = %+v", what, c, a)
				}
			}
		}
		x.stands("calls of no port")
	}
}

// TestPushSize (P17.3): data must have just Size words, in a queue that is empty, has some or is full, in and out.
func TestPushSize(t *testing.T) {
	for _, form := range []func(part, size, depth int) api.Port{queuingIn, queuingOut} {
		for _, size := range []int{1, 2, 3, api.MaxSize - 1, api.MaxSize} {
			x := newPair(t, world{image(1, form(1, size, 2)), 1})
			for i := range 3 {
				for n := range size + 4 {
					if n != size {
						x.refuses(api.ErrArg, push(1, words(n, 1)...))
					}
				}
				x.refuses(api.ErrArg, call{name: "Push", number: 1, data: []int64{}}, push(1, words(4*size, 1)...))
				if i < 2 {
					x.must(push(1, words(size, 7)...))
				}
			}
			x.denies(push(1, words(size, 7)...))
		}
	}
}

// TestDepth (P17.3, P17.4): a queue takes Depth messages and no more; one that goes makes room for one.
func TestDepth(t *testing.T) {
	for _, form := range []func(part, size, depth int) api.Port{queuingIn, queuingOut} {
		for _, depth := range []int{1, 2, 3, 5, api.MaxDepth - 1, api.MaxDepth} {
			for _, size := range []int{1, 3} {
				x := newPair(t, world{image(1, form(1, size, depth)), 1})
				x.denies(pop(1))
				for i := range depth {
					x.must(push(1, words(size, int64(10*i))...))
					if a := x.do(count(1)); a.count != i+1 {
						t.Errorf("%d are there, behind %d", a.count, i+1)
					}
				}
				x.denies(push(1, words(size, -1)...), push(1, words(size, -2)...))
				for i := range depth {
					x.pops(1, words(size, int64(10*i))...)
					x.must(push(1, words(size, int64(10*(depth+i)))...))
					x.denies(push(1, words(size, -3)...))
				}
				for i := range depth {
					x.pops(1, words(size, int64(10*(depth+i)))...)
				}
				x.denies(pop(1), pop(1))
			}
		}
	}
}

// TestWords (P17.3, P17.4, P17.6, P17.7): the words come as they were laid in, the ends of int64 too, also where two messages are the same.
func TestWords(t *testing.T) {
	x := newPair(t, world{image(1, queuingIn(1, 4, 3), samplingIn(1, 4, 9)), 1})
	x.must(push(1, bottom, -1, 0, top), push(1, bottom, -1, 0, top), push(1, top, 1, 0, bottom), set(2, 6, top, 1, 0, bottom))
	x.pops(1, bottom, -1, 0, top)
	x.pops(1, bottom, -1, 0, top)
	x.pops(1, top, 1, 0, bottom)
	x.denies(pop(1))
	x.tells(2, 6, 0, true, top, 1, 0, bottom)
	x.tells(2, 7, 1, true, top, 1, 0, bottom)
}

// TestLose (P17.5): one more each time, whatever the queue holds; the messages stay.
func TestLose(t *testing.T) {
	x := newPair(t, each())
	for i := range 200 {
		x.must(lose(2))
		if a := x.do(count(2)); !a.is(answer{count: min(i, 3), lost: i + 1}) {
			t.Fatalf("behind %d: %+v", i+1, a)
		}
		x.do(push(2, int64(i), 1))
	}
	x.refuses(api.ErrPort, lose(5), lose(8), lose(11), lose(1), lose(3))
	x.pops(2, 0, 1)
	x.pops(2, 1, 1)
	x.pops(2, 2, 1)
	x.denies(pop(2))
	if a := x.do(count(2)); !a.is(answer{lost: 200}) {
		t.Errorf("Count = %+v", a)
	}
}

// TestSet (P17.6): data of just Size words, ticks 0 to MaxTick - 1; what is refused leaves the sample that is there.
func TestSet(t *testing.T) {
	for _, size := range []int{1, 2, api.MaxSize} {
		x := newPair(t, world{image(1, samplingIn(1, size, 3)), 1})
		for round := range 2 {
			for n := range size + 4 {
				if n != size {
					x.refuses(api.ErrArg, set(1, 0, words(n, 1)...), set(1, last, words(n, 1)...))
				}
			}
			x.refuses(api.ErrArg, call{name: "Set", number: 1, data: []int64{}}, set(1, 5, words(4*size, 1)...))
			for _, now := range []int{bottom, bottom + 1, -1 << 40, -2, -1, api.MaxTick, api.MaxTick + 1, 1 << 62, top - 1, top} {
				x.refuses(api.ErrArg, set(1, now, words(size, 1)...), set(1, now))
			}
			if round == 0 {
				x.denies(latest(1, 0), count(1))
			}
			for i, now := range []int{0, 1, 9, 1 << 32, last - 1, last, 0, last, 4} {
				x.must(set(1, now, words(size, int64(100*i))...))
				x.tells(1, now, 0, true, words(size, int64(100*i))...)
			}
		}
	}
}

// TestLast (P17.7): ages of 0, of Refresh, one below and one more; Last at the stamp and below it; ticks that are none.
func TestLast(t *testing.T) {
	for _, refresh := range []int{0, 1, 5, 1 << 20, 1 << 33, last - 1, last} {
		x := newPair(t, world{image(1, samplingIn(1, 1, refresh)), 1})
		for _, stamp := range []int{-1, 0, 1, 10, 1 << 32, last - 6, last - 1, last} {
			if stamp >= 0 {
				x.must(set(1, stamp, 8))
			}
			x.refuses(api.ErrArg, latest(1, bottom), latest(1, bottom+1), latest(1, -1), latest(1, api.MaxTick), latest(1, api.MaxTick+1), latest(1, top))
			if stamp < 0 {
				x.denies(latest(1, 0), latest(1, 1), latest(1, last))
				continue
			}
			if stamp > 0 {
				x.refuses(api.ErrArg, latest(1, stamp-1), latest(1, 0))
			}
			for _, age := range []int{0, 1, refresh - 1, refresh, refresh + 1, last - stamp} {
				if age < 0 || stamp+age > last {
					continue
				}
				x.tells(1, stamp+age, age, age <= refresh, 8)
			}
		}
	}
}

// TestLastChangesNothing (P17.7): to be asked makes a sample neither older nor gone.
func TestLastChangesNothing(t *testing.T) {
	x := newPair(t, each())
	x.must(set(8, 10, 1, 2))
	for range 3 {
		x.tells(8, 21, 11, false, 1, 2)
		x.tells(8, 20, 10, true, 1, 2)
		x.tells(8, 10, 0, true, 1, 2)
		x.refuses(api.ErrArg, latest(8, 9))
		x.tells(8, last, last-10, false, 1, 2)
	}
}

// TestLastOne (P17.11): of a sampling port the last message counts alone, with a stamp below the one before too.
func TestLastOne(t *testing.T) {
	x := newPair(t, each())
	for i, stamp := range []int{50, 60, 40, 40, 0, last, 0, 7, 6, 5} {
		x.must(set(8, stamp, int64(i), 9))
		if stamp > 0 {
			x.refuses(api.ErrArg, latest(8, stamp-1))
		}
		x.tells(8, stamp, 0, true, int64(i), 9)
		if a := x.do(count(8)); !a.is(answer{count: 1}) {
			t.Errorf("Count = %+v", a)
		}
	}
	x.tells(8, 15, 10, true, 9, 9)
	x.tells(8, 16, 11, false, 9, 9)
}

// TestCount (P17.8): how many, and how many are lost, of each sort of port.
func TestCount(t *testing.T) {
	x := newPair(t, each())
	is := func(number, many, lost int) {
		t.Helper()
		if a := x.do(count(number)); !a.is(answer{count: many, lost: lost}) {
			t.Errorf("Count(%d) = %+v, want %d, %d", number, a, many, lost)
		}
	}
	is(2, 0, 0)
	x.must(push(2, 1, 2), push(2, 1, 2), lose(2), push(5, 4))
	is(2, 2, 1)
	is(5, 1, 0)
	is(8, 0, 0)
	x.must(push(2, 1, 2), pop(5), set(8, 0, 1, 2), set(8, 3, 1, 2), lose(2))
	is(2, 3, 2)
	is(5, 0, 0)
	is(8, 1, 0)
	is(11, 0, 0)
	x.refuses(api.ErrPort, count(0), count(1), count(3), count(4), count(6), count(12), count(13))
	// What is loaded counts too: the sample of an out port, and what a port of any sort has lost.
	s := make([]api.PortState, 12)
	s[4].Lost, s[7].Lost = 6, top
	s[10] = api.PortState{Lost: bottom, Sample: api.Sample{Has: true, Data: []int64{1, 2, 3}}}
	x = loadPair(t, each(), s)
	is(2, 0, 0)
	is(5, 0, 6)
	is(8, 0, top)
	is(11, 1, bottom)
}

// TestState (P17.9): all ports of the image, in their places; telling changes nothing.
func TestState(t *testing.T) {
	x := newPair(t, each())
	x.must(push(2, 1, 2), push(2, 3, 4), push(5, 5), lose(2), lose(2), set(8, 9, 6, 7), set(8, 8, 10, 11), push(2, 12, 13))
	x.pops(2, 1, 2)
	want := make([]api.PortState, 12)
	want[1] = api.PortState{Queue: [][]int64{{3, 4}, {12, 13}}, Lost: 2}
	want[4] = api.PortState{Queue: [][]int64{{5}}}
	want[7] = api.PortState{Sample: api.Sample{Has: true, Tick: 8, Data: []int64{10, 11}}}
	for range 3 {
		if got := x.ports.State(); !same(got, want) {
			t.Fatalf("State = %v, want %v", got, want)
		}
	}
	x.pops(2, 3, 4)
	x.pops(5, 5)
	for _, part := range []int{1, 3, 7} {
		if got := port.New(each().x, part).State(); !same(got, make([]api.PortState, 12)) {
			t.Errorf("State of partition %d = %v", part, got)
		}
	}
	if got := port.New(api.Image{}, 1).State(); len(got) != 0 {
		t.Errorf("State of no ports = %v", got)
	}
}

// TestLoadCounts (P17.10): not as many elements as the image has ports, whoever's they are.
func TestLoadCounts(t *testing.T) {
	for what, w := range families() {
		n := len(w.x.Ports)
		good := make([]api.PortState, n)
		loadPair(t, w, good)
		refused(t, what, w, append(good, api.PortState{}))
		refused(t, what, w, make([]api.PortState, 2*n+1))
		if n > 0 {
			refused(t, what, w, good[:n-1])
			refused(t, what, w, good[1:])
			refused(t, what, w, nil)
			refused(t, what, w, []api.PortState{})
		}
		if own := len(w.numbers(isAny)); own < n {
			refused(t, what, w, make([]api.PortState, own))
		}
	}
	// Of no ports nil and an empty list are the same.
	loadPair(t, world{image(1), 1}, nil)
	loadPair(t, world{image(1), 1}, []api.PortState{})
}

// TestLoadQueues (P17.10): more messages than Depth, or one that has not Size words, at each place; just Depth of Size words go.
func TestLoadQueues(t *testing.T) {
	for _, q := range []api.Port{queuingIn(1, 1, 1), queuingOut(1, 1, 1), queuingIn(1, 2, 3), queuingOut(1, 2, 4), queuingIn(1, api.MaxSize, api.MaxDepth), queuingOut(1, api.MaxSize, api.MaxDepth)} {
		for at := range 3 {
			// Those beside it have another Size and another Depth.
			w := world{image(2, queuingIn(1, 3, 2), queuingOut(1, 3, 2), queuingIn(1, 3, 2)), 1}
			w.x.Ports[at] = q
			good := []api.PortState{{Queue: messages(2, 3, 1)}, {Queue: messages(1, 3, 1)}, {Lost: 8}}
			good[at].Queue = messages(q.Depth, q.Size, 50)
			x := loadPair(t, w, good)
			x.denies(push(at+1, words(q.Size, 5)...))
			x.pops(at+1, words(q.Size, 50)...)
			y := loadPair(t, w, with(good, func(s []api.PortState) { s[at].Queue = s[at].Queue[1:] }))
			y.must(push(at+1, words(q.Size, 5)...))
			y.denies(push(at+1, words(q.Size, 5)...))
			refused(t, "one more", w, with(good, func(s []api.PortState) { s[at].Queue = append(s[at].Queue, words(q.Size, 6)) }))
			refused(t, "twice", w, with(good, func(s []api.PortState) { s[at].Queue = messages(2*q.Depth, q.Size, 6) }))
			for i := range q.Depth {
				refused(t, "a word more", w, with(good, func(s []api.PortState) { s[at].Queue[i] = words(q.Size+1, 6) }))
				refused(t, "a word fewer", w, with(good, func(s []api.PortState) { s[at].Queue[i] = words(q.Size-1, 6) }))
				refused(t, "no words", w, with(good, func(s []api.PortState) { s[at].Queue[i] = nil }))
			}
			// Of another partition the same is not asked.
			w.part = 2
			loadPair(t, w, with(good, func(s []api.PortState) { s[at].Queue = messages(2*q.Depth, q.Size+1, 6) }))
		}
	}
}

// TestLoadSamples (P17.10): a sample with Has must have Size words, of an in port and of an out port.
func TestLoadSamples(t *testing.T) {
	for _, size := range []int{1, 2, 3, api.MaxSize} {
		for at, q := range []api.Port{samplingIn(1, size, 4), samplingOut(1, size), samplingIn(1, size, 4)} {
			w := world{image(2, samplingIn(1, 4, 4), samplingOut(1, 4), samplingOut(1, 4)), 1}
			w.x.Ports[at] = q
			good := make([]api.PortState, 3)
			for n := range size + 3 {
				s := with(good, func(s []api.PortState) {
					s[at].Sample = api.Sample{Has: true, Tick: 7, Data: words(n, 30)}
				})
				if n != size {
					refused(t, "a sample", w, s)
					loadPair(t, world{w.x, 2}, s)
				} else if x := loadPair(t, w, s); !samePort(x.ports.State()[at], s[at]) {
					t.Errorf("State = %v, want %v", x.ports.State(), s)
				}
			}
			for _, tick := range []int{0, 1, last - 1, last} {
				s := with(good, func(s []api.PortState) {
					s[at].Sample = api.Sample{Has: true, Tick: tick, Data: words(size, 30)}
				})
				x := loadPair(t, w, s)
				if !q.Out {
					x.tells(at+1, tick, 0, true, words(size, 30)...)
				}
				if !q.Out && tick > 0 {
					x.refuses(api.ErrArg, latest(at+1, tick-1))
				}
			}
		}
	}
}

// TestLoadLeavesOut (P17.10): what is not asked of a port is let be, whatever it is, and is not told again.
func TestLoadLeavesOut(t *testing.T) {
	strange := [][][]int64{{{1}}, {{1, 2}, {3, 4}}, {nil, {1, 2, 3}}, messages(100, 1, 4), messages(1, 100, 4)}
	for _, queue := range strange {
		for _, sample := range []api.Sample{{Has: true}, {Has: true, Tick: -5, Data: []int64{1, 2}}, {Tick: 9, Data: []int64{1, 2}}, {Tick: bottom}, {Has: true, Tick: top, Data: words(90, 3)}, {Data: words(3, 3)}} {
			s := make([]api.PortState, 12)
			for i := range s {
				s[i] = api.PortState{Queue: queue, Sample: sample, Lost: i + 1}
			}
			asked := []api.PortState{{Queue: [][]int64{{1, 2}}, Lost: 2}, {Queue: [][]int64{{3}}, Lost: 5}, {Lost: 8}, {Sample: api.Sample{Has: true, Tick: 3, Data: []int64{4, 5, 6}}, Lost: 11}}
			s[1].Queue, s[4].Queue, s[10].Sample = asked[0].Queue, asked[1].Queue, asked[3].Sample
			s[7].Sample.Has = false
			x := loadPair(t, each(), clone(s))
			want := make([]api.PortState, 12)
			for i, at := range []int{1, 4, 7, 10} {
				want[at] = asked[i]
			}
			if got := x.ports.State(); !same(got, want) {
				t.Fatalf("State = %v, want %v", got, want)
			}
			x.denies(latest(8, 0), latest(8, last))
			x.refuses(api.ErrPort, pop(8), pop(11), pop(1), pop(3), latest(2, 5), latest(5, 5), latest(7, 5), latest(11, 5))
			x.must(push(2, 7, 8), set(8, 1, 2, 3))
			x.tells(8, 1, 0, true, 2, 3)
		}
	}
}

// TestLoadLost (P17.10): how many are lost is as it is told, of each of the partition's ports, and goes on from there.
func TestLoadLost(t *testing.T) {
	for _, lost := range []int{0, 1, 77, 1 << 40, top - 3, -1, bottom} {
		s := make([]api.PortState, 12)
		for i := range s {
			s[i].Lost = lost
		}
		x := loadPair(t, each(), s)
		for _, number := range []int{2, 5, 8, 11} {
			if a := x.do(count(number)); !a.is(answer{lost: lost}) {
				t.Errorf("Count(%d) = %+v, want %d", number, a, lost)
			}
		}
		x.must(lose(2), lose(2), lose(2))
		if a := x.do(count(2)); !a.is(answer{lost: lost + 3}) {
			t.Errorf("Count(2) = %+v, want %d", a, lost+3)
		}
	}
}

// TestLoadOneOfMany (P17.10): of many ports one alone spoils a load, wherever it stands.
func TestLoadOneOfMany(t *testing.T) {
	for what, w := range families() {
		good := make([]api.PortState, len(w.x.Ports))
		for i, q := range w.x.Ports {
			if isQueuing(q) {
				good[i].Queue = messages(q.Depth, q.Size, int64(1000*i))
			} else {
				good[i].Sample = api.Sample{Has: true, Tick: i, Data: words(q.Size, int64(1000*i))}
			}
		}
		loadPair(t, w, good)
		for i, q := range w.x.Ports {
			spoiled := [][]api.PortState{
				with(good, func(s []api.PortState) { s[i].Queue = append(s[i].Queue, words(q.Size, 1)) }),
				with(good, func(s []api.PortState) { s[i].Sample = api.Sample{Has: true, Data: words(q.Size+1, 1)} }),
			}
			for _, s := range spoiled {
				if fits(w, s) {
					loadPair(t, w, s)
				} else {
					refused(t, what, w, s)
				}
			}
		}
	}
}

// TestOthersStay (P17.11): a call about one port changes no other one, written out.
func TestOthersStay(t *testing.T) {
	w := world{image(1, queuingIn(1, 1, 2), queuingIn(1, 1, 2), queuingOut(1, 1, 2), queuingOut(1, 1, 2), samplingIn(1, 1, 2), samplingIn(1, 1, 2), samplingOut(1, 1)), 1}
	start := []api.PortState{
		{Queue: [][]int64{{1}}, Lost: 1}, {Queue: [][]int64{{2}}, Lost: 2}, {Queue: [][]int64{{3}}, Lost: 3}, {Queue: [][]int64{{4}}, Lost: 4},
		{Sample: api.Sample{Has: true, Tick: 5, Data: []int64{5}}, Lost: 5}, {Sample: api.Sample{Has: true, Tick: 6, Data: []int64{6}}, Lost: 6}, {Lost: 7},
	}
	for _, r := range []struct {
		c    call
		at   int
		want api.PortState
	}{
		{push(1, 9), 0, api.PortState{Queue: [][]int64{{1}, {9}}, Lost: 1}},
		{push(2, 9), 1, api.PortState{Queue: [][]int64{{2}, {9}}, Lost: 2}},
		{push(3, 9), 2, api.PortState{Queue: [][]int64{{3}, {9}}, Lost: 3}},
		{push(4, 9), 3, api.PortState{Queue: [][]int64{{4}, {9}}, Lost: 4}},
		{pop(1), 0, api.PortState{Lost: 1}},
		{pop(2), 1, api.PortState{Lost: 2}},
		{pop(3), 2, api.PortState{Lost: 3}},
		{pop(4), 3, api.PortState{Lost: 4}},
		{lose(1), 0, api.PortState{Queue: [][]int64{{1}}, Lost: 2}},
		{lose(2), 1, api.PortState{Queue: [][]int64{{2}}, Lost: 3}},
		{set(5, 8, 9), 4, api.PortState{Sample: api.Sample{Has: true, Tick: 8, Data: []int64{9}}, Lost: 5}},
		{set(6, 3, 9), 5, api.PortState{Sample: api.Sample{Has: true, Tick: 3, Data: []int64{9}}, Lost: 6}},
		{latest(5, 8), 4, start[4]},
		{count(7), 6, start[6]},
		{own(1, api.Queuing, false), 0, start[0]},
	} {
		x := loadPair(t, w, start)
		x.must(r.c)
		if got, want := x.ports.State(), with(start, func(s []api.PortState) { s[r.at] = r.want }); !same(got, want) {
			t.Errorf("%+v: %v, want %v", r.c, got, want)
		}
	}
}
