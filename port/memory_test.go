package port_test

import (
	"math/rand/v2"
	"slices"
	"testing"

	"bulkhead/api"
	"bulkhead/port"
)

// spoil writes over a list, its spare room too.
func spoil[T any](list []T, with T) {
	list = list[:cap(list)]
	for i := range list {
		list[i] = with
	}
}

// spoilState writes over all of a state, from the words outward, spare room too.
func spoilState(s []api.PortState) {
	for _, q := range s[:cap(s)] {
		for _, data := range q.Queue[:cap(q.Queue)] {
			spoil(data, -77)
		}
		spoil(q.Queue, []int64{-78})
		spoil(q.Sample.Data, -77)
	}
	spoil(s, api.PortState{Queue: [][]int64{{-79}}, Sample: api.Sample{Has: true, Tick: -79, Data: []int64{-79}}, Lost: -79})
}

// piece is a list cut out of a longer one, with room behind it; and the longer one.
func piece[T any](list []T, around T) ([]T, []T) {
	whole := append([]T{around, around}, list...)
	whole = append(whole, around, around, around)
	return whole[2 : 2+len(list)], whole
}

// busyWorld is an image of whose partition 1 busy holds something of each sort.
func busyWorld() world {
	return world{image(2, queuingIn(1, 2, 4), samplingIn(1, 3, 5), queuingIn(2, 1, 1), queuingOut(1, 3, 2), samplingIn(1, 1, 5), samplingOut(1, 2), samplingIn(2, 1, 1)), 1}
}

// busy is ports with messages in all queues, and samples.
func busy(t *testing.T) *pair {
	t.Helper()
	x := newPair(t, busyWorld())
	x.must(push(1, 1, 2), push(1, 3, 4), push(1, 5, 6), push(4, 7, 8, 9), push(4, 10, 11, 12), set(2, 5, 13, 14, 15), set(5, 6, 16), lose(1))
	return x
}

// TestImageIsNotKept (P17.1, P17.10): the image is left as it is, what lies behind its ports too, and not kept.
func TestImageIsNotKept(t *testing.T) {
	load := func(x api.Image, part int) *port.Ports {
		p, _ := port.Load(x, part, make([]api.PortState, len(x.Ports)))
		return p
	}
	for what, do := range map[string]func(api.Image, int) *port.Ports{"New": port.New, "Load": load} {
		handed := busyWorld().x
		ports, whole := piece(handed.Ports, queuingIn(1, 2, 2))
		handed.Ports = ports
		before := slices.Clone(whole)
		x := &pair{t: t, ports: do(handed, 1), m: begin(busyWorld(), nil)}
		x.must(push(1, 1, 2), push(4, 3, 4, 5), set(2, 6, 7, 8, 9), lose(1))
		if !slices.Equal(whole, before) {
			t.Errorf("%s: what was handed in has changed: %v", what, whole)
		}
		for _, other := range []api.Port{queuingIn(2, 7, 1), samplingOut(1, 7), {}} {
			spoil(whole, other)
			spoil(handed.Parts, api.Part{})
			x.stands(what)
			for number := range 8 {
				for _, kind := range []int{api.Sampling, api.Queuing} {
					x.do(own(number, kind, false))
					x.do(own(number, kind, true))
				}
			}
			x.must(push(1, 5, 6), pop(1))
		}
		x.must(push(1, 7, 8), push(1, 9, 9), push(1, 9, 9), push(4, 1, 2, 3))
		x.denies(push(1, 9, 9), push(4, 1, 2, 3))
		x.tells(2, 11, 5, true, 7, 8, 9)
		x.tells(2, 12, 6, false, 7, 8, 9)
	}
}

// TestDataIsNotKept (P17.3, P17.6): the message that Push or Set is handed is left as it is, its spare room too, and not kept.
func TestDataIsNotKept(t *testing.T) {
	for _, size := range []int{1, 2, 3, 5, api.MaxSize} {
		w := world{image(1, queuingIn(1, size, 3), queuingOut(1, size, 3), samplingIn(1, size, 9)), 1}
		x := newPair(t, w)
		for i := range 4 {
			for _, c := range []call{push(1), push(2), set(3, i)} {
				data, whole := piece(words(size, int64(100*i)), 91)
				before := slices.Clone(whole)
				c.data = data
				x.do(c)
				c.data = whole
				x.do(c)
				if !slices.Equal(whole, before) {
					t.Errorf("%s has changed %v to %v", c.name, before, whole)
				}
				spoil(whole, -77)
				x.stands("what was handed in written over")
			}
		}
		// One list, handed in again and again with other words in it.
		y := newPair(t, w)
		list := make([]int64, size, size+3)
		for i := range 3 {
			spoil(list, int64(i))
			y.must(call{name: "Push", number: 1, data: list}, call{name: "Push", number: 2, data: list}, call{name: "Set", number: 3, now: 4, data: list})
		}
		for i := range 3 {
			for _, c := range []call{pop(1), pop(2), latest(3, 4)} {
				got := y.do(c)
				if word := got.data[0]; c.name == "Pop" && word != int64(i) || c.name == "Last" && word != 2 {
					t.Errorf("%+v, message %d: %v", c, i, got)
				}
				spoil(got.data, -9)
				if slices.Contains(list[:cap(list)], -9) {
					t.Errorf("what %s told lies in what was handed in: %v", c.name, list[:cap(list)])
				}
			}
		}
	}
}

// TestPoppedIsNew (P17.4): what Pop told may be written over, spare room too, and does not change with later calls.
func TestPoppedIsNew(t *testing.T) {
	for _, size := range []int{1, 2, 3, 5, 7, api.MaxSize} {
		x := newPair(t, world{image(1, queuingIn(1, size, 4)), 1})
		for i := range 4 {
			x.must(push(1, words(size, int64(100*i))...))
		}
		var told, spoiled [][]int64
		for i := range 20 {
			got := x.do(pop(1)).data
			if i%2 == 0 {
				spoil(got, -77)
				spoiled = append(spoiled, got[:cap(got)])
				x.stands("what Pop told written over")
			} else {
				told = append(told, got)
			}
			x.must(push(1, words(size, int64(100*(i+4)))...))
		}
		for range 4 {
			spoil(x.do(pop(1)).data, -78)
		}
		for _, data := range spoiled {
			if slices.ContainsFunc(data, func(w int64) bool { return w != -77 }) {
				t.Errorf("what Pop told is written into: %v", data)
			}
		}
		for k, data := range told {
			if !slices.Equal(data, words(size, int64(100*(2*k+1)))) {
				t.Errorf("what Pop told has changed: %v", data)
			}
		}
	}
}

// TestLastIsNew (P17.7): what Last told may be written over, spare room too, and does not change with later calls.
func TestLastIsNew(t *testing.T) {
	for _, size := range []int{1, 2, 3, 5, 7, api.MaxSize} {
		x := newPair(t, world{image(1, samplingIn(1, size, 4)), 1})
		var told, spoiled [][]int64
		for i := range 10 {
			x.must(set(1, i, words(size, int64(100*i))...))
			one, two := x.do(latest(1, i)).data, x.do(latest(1, i)).data
			spoil(one, -77)
			x.stands("what Last told written over")
			x.tells(1, i+1, 1, true, words(size, int64(100*i))...)
			spoiled, told = append(spoiled, one[:cap(one)]), append(told, two)
		}
		for i := range 10 {
			if slices.ContainsFunc(spoiled[i], func(w int64) bool { return w != -77 }) {
				t.Errorf("what Last told is written into: %v", spoiled[i])
			}
			if !slices.Equal(told[i], words(size, int64(100*i))) {
				t.Errorf("what Last told has changed: %v", told[i])
			}
		}
	}
}

// TestStateIsNew (P17.9): what State told may be written over, spare room too, and does not change with later calls.
func TestStateIsNew(t *testing.T) {
	x := busy(t)
	want := x.m.state()
	told, kept := x.ports.State(), x.ports.State()
	spoilState(told)
	x.stands("what State told written over")
	if !same(kept, want) {
		t.Errorf("one State is another's memory: %v", kept)
	}
	x.must(push(1, 20, 21), lose(1), set(2, 1, 22, 23, 24), set(5, 9, 25))
	x.pops(1, 1, 2)
	x.pops(4, 7, 8, 9)
	x.must(push(4, 30, 31, 32), push(1, 33, 34))
	if !same(kept, want) {
		t.Errorf("what State told has changed: %v, want %v", kept, want)
	}
}

// TestNothingIsWrittenIntoState (P17.9): no later call writes into what State told, its spare room too.
func TestNothingIsWrittenIntoState(t *testing.T) {
	x := busy(t)
	told := x.ports.State()
	// Each list to the end of its room, and what stands there ahead of the calls.
	for i, q := range told {
		for k, data := range q.Queue {
			q.Queue[k] = data[:cap(data)]
		}
		told[i].Queue = q.Queue[:cap(q.Queue)]
		told[i].Sample.Data = q.Sample.Data[:cap(q.Sample.Data)]
	}
	told = told[:cap(told)]
	before := clone(told)
	r := rand.New(rand.NewPCG(17, 8))
	for i := range 500 {
		x.do(chance(r, x.m, int64(i)))
	}
	if !same(told, before) {
		t.Errorf("%v, it was %v", told, before)
	}
}

// TestStateShares (P17.9): at all fillings no list of one State has another one's memory, spare room too.
func TestStateShares(t *testing.T) {
	w := world{image(1, queuingIn(1, 3, 4), samplingIn(1, 3, 1), queuingOut(1, 3, 4), samplingIn(1, 3, 1)), 1}
	for fill := range 5 * 5 * 4 {
		x := newPair(t, w)
		for range fill % 5 {
			x.must(push(1, 1, 2, 3))
		}
		for range fill / 5 % 5 {
			x.must(push(3, 4, 5, 6))
		}
		if fill/25%2 == 1 {
			x.must(set(2, 7, 8, 9, 10))
		}
		if fill/50 == 1 {
			x.must(set(4, 7, 8, 9, 10))
		}
		want := x.m.state()
		alone := func(what string, at int, spoilOne func(s []api.PortState)) {
			t.Helper()
			told := x.ports.State()
			spoilOne(told)
			if !same(with(told, func(s []api.PortState) { s[at] = want[at] }), want) {
				t.Fatalf("%s of port %d lie in another's memory: %v", what, at+1, told)
			}
		}
		for i, q := range want {
			for k := range q.Queue {
				alone("words", i, func(s []api.PortState) {
					spoil(s[i].Queue[k], -77)
					s[i].Queue[k] = q.Queue[k]
					if !samePort(s[i], q) {
						t.Fatalf("message %d of port %d lies in another's memory: %v", k, i+1, s)
					}
				})
			}
			alone("messages", i, func(s []api.PortState) { spoil(s[i].Queue, []int64{-78}) })
			alone("the sample's words", i, func(s []api.PortState) { spoil(s[i].Sample.Data, -78) })
		}
	}
}

// TestStateOfEmpty: lists of queues that have run dry share no room either.
func TestStateOfEmpty(t *testing.T) {
	x := newPair(t, chapter())
	for i := range 5 {
		x.must(push(1, 4, 5), set(2, i, 6))
		x.pops(1, 4, 5)
		spoilState(x.ports.State())
		x.stands("what State told written over")
	}
}

// handed is a state, each list of which is cut out of a longer one; and the longer ones.
type handed struct {
	state, states []api.PortState
	lists         [][][]int64
	words         [][]int64
}

func handIn(s []api.PortState) *handed {
	h := &handed{}
	cutWords := func(data []int64) []int64 {
		cut, whole := piece(data, 92)
		h.words = append(h.words, whole)
		return cut
	}
	own := clone(s)
	for i := range own {
		q := &own[i]
		for k, data := range q.Queue {
			q.Queue[k] = cutWords(data)
		}
		cut, whole := piece(q.Queue, []int64{93})
		h.lists = append(h.lists, whole)
		q.Queue, q.Sample.Data = cut, cutWords(q.Sample.Data)
	}
	h.state, h.states = piece(own, api.PortState{Queue: [][]int64{{94}}, Lost: 95})
	return h
}

// is tells whether all of it is as another one is.
func (h *handed) is(other *handed) bool {
	return same(h.states, other.states) && slices.EqualFunc(h.lists, other.lists, sameMessages) && sameMessages(h.words, other.words)
}

// TestLoadedIsNotKept (P17.10): the state that Load is handed is left as it is, at every depth and its spare room too, and not kept.
func TestLoadedIsNotKept(t *testing.T) {
	want := busy(t).m.state()
	want[5].Sample = api.Sample{Has: true, Tick: 4, Data: []int64{40, 41}}
	want[0].Sample, want[1].Queue = want[1].Sample, want[0].Queue // left out
	want[2], want[6] = want[0], want[1]                           // another's
	w := busyWorld()
	h := handIn(want)
	x, y := loadPair(t, w, h.state), loadPair(t, w, h.state)
	x.must(push(1, 50, 51), lose(1), set(2, 4, 52, 53, 54))
	spoil(x.do(pop(1)).data, -75)
	spoil(x.do(pop(4)).data, -76)
	spoil(x.do(latest(5, 6)).data, -76)
	spoilState(x.ports.State())
	x.must(push(1, 52, 53), push(4, 54, 55, 56), set(5, 1, 57))
	if !h.is(handIn(want)) {
		t.Errorf("what Load was handed has changed: %v, %v, %v", h.states, h.lists, h.words)
	}
	y.stands("calls on the others of the same state")
	for _, data := range h.words {
		spoil(data, -77)
	}
	x.stands("the words written over")
	y.stands("the words written over")
	for _, list := range h.lists {
		spoil(list, []int64{-78})
	}
	spoilState(h.states)
	x.stands("the state written over")
	y.stands("the state written over")
	y.pops(1, 1, 2)
	y.pops(1, 3, 4)
	y.pops(4, 7, 8, 9)
	y.tells(2, 5, 0, true, 13, 14, 15)
	y.must(push(4, 1, 2, 3))
}

// TestRefusedLoadLeaves (P17.10): what a refused load is handed is left as it is.
func TestRefusedLoadLeaves(t *testing.T) {
	good := busy(t).m.state()
	for what, s := range map[string][]api.PortState{
		"one message too many": with(good, func(s []api.PortState) { s[3].Queue = append(s[3].Queue, []int64{1, 2, 3}) }),
		"a word too few":       with(good, func(s []api.PortState) { s[3].Queue[1] = []int64{1, 2} }),
		"a sample too long":    with(good, func(s []api.PortState) { s[4].Sample.Data = []int64{1, 2} }),
		"one port too few":     good[1:],
	} {
		h, w := handIn(s), busyWorld()
		ports, whole := piece(w.x.Ports, api.Port{Part: 1})
		w.x.Ports = ports
		before := slices.Clone(whole)
		refused(t, what, w, h.state)
		if !h.is(handIn(s)) || !slices.Equal(whole, before) {
			t.Errorf("%s: it has changed: %v, %v", what, h, whole)
		}
	}
}

// TestOneListTwice: one list as two messages, of two ports, as a sample and in two loads is as many messages.
func TestOneListTwice(t *testing.T) {
	data := []int64{1, 2}
	w := world{image(1, queuingIn(1, 2, 2), queuingOut(1, 2, 2), samplingIn(1, 2, 1), samplingIn(1, 2, 1)), 1}
	list := [][]int64{data, data}
	sample := api.Sample{Has: true, Data: data}
	s := []api.PortState{{Queue: list}, {Queue: list}, {Sample: sample}, {Sample: sample}}
	x, y := loadPair(t, w, s), loadPair(t, w, s)
	spoil(x.do(pop(1)).data, -77)
	spoil(x.do(latest(3, 0)).data, -77)
	x.stands("the first written over")
	y.stands("the first of the other ones written over")
	x.pops(1, 1, 2)
	x.pops(2, 1, 2)
	x.pops(2, 1, 2)
	x.tells(4, 1, 1, true, 1, 2)
	if !slices.Equal(data, []int64{1, 2}) {
		t.Errorf("the list is %v", data)
	}
}

// TestPortsShareNothing: Ports of one image, of one partition and of several, made and loaded, each with calls of its own.
func TestPortsShareNothing(t *testing.T) {
	kinds := families()
	for _, what := range sorted(kinds) {
		w := kinds[what]
		t.Run(what, func(t *testing.T) {
			r := rand.New(rand.NewPCG(17, 7))
			s := standing(r, w)
			list := []*pair{newPair(t, w), newPair(t, w), loadPair(t, w, s), loadPair(t, w, s)}
			for part := range min(3, len(w.x.Parts)) {
				list = append(list, newPair(t, world{w.x, part + 1}))
			}
			for i := range 150 {
				x := oneOf(r, list)
				x.do(chance(r, x.m, int64(i)))
				for _, x := range list {
					x.stands("a call on others")
				}
			}
			told := list[0].ports.State()
			x := loadPair(t, w, told)
			for i := range 60 {
				x.do(chance(r, x.m, int64(200+i)))
				list[0].stands("a call on their twins")
			}
		})
	}
}

// TestNoPanic: no call panics, whatever the image, the partition, the state and the numbers are.
func TestNoPanic(t *testing.T) {
	r := rand.New(rand.NewPCG(17, 9))
	kinds := families()
	for what, w := range illMade() {
		kinds[what] = w
	}
	numbers := []int{bottom, bottom + 1, -1, 0, 1, 2, 3, 9, 80, 1 << 40, top - 1, top}
	refusedOne, _ := port.Load(chapter().x, 1, nil)
	for _, what := range sorted(kinds) {
		w := kinds[what]
		for range 30 {
			s := make([]api.PortState, len(w.x.Ports))
			for i := range s {
				s[i].Queue = messages(r.IntN(4), oneOf(r, []int{0, 1, 2, 3}), 5)
				s[i].Sample = api.Sample{Has: r.IntN(2) == 0, Tick: oneOf(r, numbers), Data: words(r.IntN(4), 5)}
				s[i].Lost = oneOf(r, numbers)
			}
			loaded, err := port.Load(w.x, oneOf(r, append(numbers, w.part)), s)
			if (err == api.OK) != (loaded != nil) || err != api.OK && err != api.ErrForm {
				t.Errorf("%s: Load of %v: %v, %d", what, s, loaded, err)
			}
			for _, p := range []*port.Ports{port.New(w.x, w.part), refusedOne, {}, loaded} {
				for range 50 {
					number := oneOf(r, append(numbers, 1+r.IntN(len(w.x.Ports)+1)))
					c := call{name: oneOf(r, names()), number: number, kind: oneOf(r, numbers), out: r.IntN(2) == 0, data: words(r.IntN(20), 1), now: oneOf(r, numbers)}
					c.on(p)
					p.State()
				}
			}
		}
	}
}

// TestNone: what a refused load answers, and Ports that nobody made, have no ports.
func TestNone(t *testing.T) {
	none, _ := port.Load(chapter().x, 1, nil)
	for _, ports := range []*port.Ports{none, {}} {
		x := &pair{t: t, ports: ports, m: begin(world{}, nil)}
		x.stands("nothing")
		for number := -1; number < 4; number++ {
			x.refuses(api.ErrPort, push(number, 1), pop(number), lose(number), set(number, 1, 1), latest(number, 1), count(number))
			x.denies(own(number, api.Queuing, false), own(number, api.Sampling, false))
		}
	}
}
