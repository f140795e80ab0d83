package port_test

import (
	"math/rand/v2"
	"slices"
	"testing"

	"bulkhead/api"
	"bulkhead/port"
)

// TestManyCalls: every call, and all that ports tell behind it, beside the record, on ports that were made and on ports that were loaded.
func TestManyCalls(t *testing.T) {
	kinds := families()
	for _, what := range sorted(kinds) {
		w := kinds[what]
		t.Run(what, func(t *testing.T) {
			r := rand.New(rand.NewPCG(17, 1))
			x := newPair(t, w)
			for i := range 1500 {
				x.do(chance(r, x.m, int64(i)))
			}
			for round := range 10 {
				y := loadPair(t, w, standing(r, w))
				for i := range 100 {
					y.do(chance(r, y.m, int64(100*round+i)))
				}
			}
		})
	}
}

// TestChanceIsBroad: the calls by chance are done, denied and refused with each error, each often enough to tell something.
func TestChanceIsBroad(t *testing.T) {
	type outcome struct {
		name string
		ok   bool
		err  api.Errno
	}
	r := rand.New(rand.NewPCG(17, 6))
	seen := map[outcome]int{}
	for _, what := range []string{"each, of 2", "all ports, one partition's", "all numbers at their edges"} {
		x := newPair(t, families()[what])
		for i := range 5000 {
			c := chance(r, x.m, int64(i))
			a := x.m.do(c)
			seen[outcome{c.name, a.ok, a.err}]++
		}
	}
	for _, want := range []outcome{
		{"Own", true, 0}, {"Own", false, 0},
		{"Push", true, 0}, {"Push", false, 0}, {"Push", false, api.ErrPort}, {"Push", false, api.ErrArg},
		{"Pop", true, 0}, {"Pop", false, 0}, {"Pop", false, api.ErrPort},
		{"Lose", false, 0}, {"Lose", false, api.ErrPort},
		{"Set", false, 0}, {"Set", false, api.ErrPort}, {"Set", false, api.ErrArg},
		{"Last", true, 0}, {"Last", false, 0}, {"Last", false, api.ErrPort}, {"Last", false, api.ErrArg},
		{"Count", false, 0}, {"Count", false, api.ErrPort},
	} {
		if seen[want] < 50 {
			t.Errorf("%+v: %d times", want, seen[want])
		}
	}
}

// TestInOrderAndOnce (P17.11): what was pushed comes out once, as it was pushed, in that order, also round and round at each filling.
func TestInOrderAndOnce(t *testing.T) {
	for _, q := range []api.Port{queuingIn(1, 1, 1), queuingOut(1, 2, 2), queuingIn(1, 1, 3), queuingOut(1, 3, 7), queuingIn(1, api.MaxSize, api.MaxDepth), queuingOut(1, api.MaxSize, api.MaxDepth)} {
		for _, filling := range []int{0, min(1, q.Depth-1), (q.Depth - 1) / 2, q.Depth - 1} {
			p := port.New(image(1, q), 1)
			came, went := 0, 0
			pushOne := func() {
				if ok, err := p.Push(1, words(q.Size, int64(1000*came))); !ok || err != api.OK {
					t.Fatalf("%v: Push of message %d: %v, %d", q, came, ok, err)
				}
				came++
			}
			popOne := func() {
				data, ok, err := p.Pop(1)
				if !ok || err != api.OK || !slices.Equal(data, words(q.Size, int64(1000*went))) {
					t.Fatalf("%v: Pop of message %d: %v, %v, %d", q, went, data, ok, err)
				}
				went++
			}
			for range filling {
				pushOne()
			}
			for range 5*q.Depth + 20 {
				pushOne()
				popOne()
			}
			for range filling {
				popOne()
			}
			if data, ok, err := p.Pop(1); len(data) != 0 || ok || err != api.OK || came != went {
				t.Fatalf("%v: one came twice: %v", q, data)
			}
		}
	}
}

// TestBursts (P17.11): many in, many out, on two ports in turn, so that queues grow, run dry and grow again, and never have more than Depth.
func TestBursts(t *testing.T) {
	r := rand.New(rand.NewPCG(17, 2))
	for _, depth := range []int{1, 2, 3, 8, api.MaxDepth} {
		p := port.New(image(2, queuingIn(1, 2, depth), samplingIn(2, 1, 1), queuingOut(1, 2, depth)), 1)
		came, went := map[int]int{}, map[int]int{}
		for i := range 400 {
			number := 1 + 2*(i%2)
			for range r.IntN(depth + 3) {
				ok, _ := p.Push(number, []int64{int64(came[number]), int64(number)})
				if ok != (came[number]-went[number] < depth) {
					t.Fatalf("depth %d: Push is %v with %d in it", depth, ok, came[number]-went[number])
				}
				if ok {
					came[number]++
				}
			}
			if many, _, _ := p.Count(number); many != came[number]-went[number] || many > depth {
				t.Fatalf("depth %d: %d messages, want %d", depth, many, came[number]-went[number])
			}
			for range r.IntN(depth + 3) {
				data, ok, _ := p.Pop(number)
				if ok != (came[number] > went[number]) || ok && !slices.Equal(data, []int64{int64(went[number]), int64(number)}) {
					t.Fatalf("depth %d: Pop is %v, %v, %d went", depth, data, ok, went[number])
				}
				if ok {
					went[number]++
				}
			}
		}
	}
}

// TestLoadedGoOn (P17.10): ports that are loaded with what State told go on as those that told it; every state that State tells is let be.
func TestLoadedGoOn(t *testing.T) {
	kinds := families()
	for _, what := range sorted(kinds) {
		w := kinds[what]
		t.Run(what, func(t *testing.T) {
			r := rand.New(rand.NewPCG(17, 4))
			for _, x := range []*pair{newPair(t, w), loadPair(t, w, standing(r, w))} {
				for round := range 10 {
					for i := range 30 {
						x.do(chance(r, x.m, int64(100*round+i)))
					}
					told := x.ports.State()
					twin, err := port.Load(w.x, w.part, told)
					if twin == nil || err != api.OK {
						t.Fatalf("Load of %v: %d", told, err)
					}
					if !same(twin.State(), told) {
						t.Fatalf("the twin tells %v, it was told %v", twin.State(), told)
					}
					for i := range 30 {
						c := chance(r, x.m, int64(100*round+50+i))
						if a, b := x.do(c), c.on(twin); !a.is(b) {
							t.Fatalf("%+v: %+v, of the twin %+v", c, a, b)
						}
						if !same(x.ports.State(), twin.State()) {
							t.Fatalf("behind %+v: %v, of the twin %v", c, x.ports.State(), twin.State())
						}
					}
				}
			}
		})
	}
}

// TestLoadsByChance (P17.10): states with and without something spoiled, beside P17.10's words.
func TestLoadsByChance(t *testing.T) {
	r := rand.New(rand.NewPCG(17, 5))
	kinds := families()
	let, not := 0, 0
	for _, what := range sorted(kinds) {
		w := kinds[what]
		for range 100 {
			s := standing(r, w)
			for range r.IntN(3) {
				s = spoilOne(r, w, s)
			}
			if !fits(w, s) {
				not++
				refused(t, what, w, s)
				continue
			}
			let++
			loadPair(t, w, s)
		}
	}
	if let < 500 || not < 500 {
		t.Errorf("%d are let be, %d not: too few of one", let, not)
	}
}

// spoilOne changes one thing of a state, so that it may or may not fit any more.
func spoilOne(r *rand.Rand, w world, s []api.PortState) []api.PortState {
	if len(s) == 0 || r.IntN(12) == 0 {
		return append(s, api.PortState{})
	}
	if r.IntN(12) == 0 {
		return s[:len(s)-1]
	}
	i := r.IntN(min(len(s), len(w.x.Ports)+1))
	if i == len(w.x.Ports) {
		return s
	}
	q := w.x.Ports[i]
	switch n := len(s[i].Queue); r.IntN(4) {
	case 0:
		for len(s[i].Queue) < q.Depth+r.IntN(2) {
			s[i].Queue = append(s[i].Queue, words(q.Size, 3))
		}
	case 1:
		if n > 0 {
			s[i].Queue[oneOf(r, []int{0, n / 2, n - 1})] = words(q.Size+oneOf(r, []int{-1, 0, 1}), 4)
		}
	case 2:
		s[i].Sample = api.Sample{Has: r.IntN(3) > 0, Tick: r.IntN(20), Data: words(q.Size+oneOf(r, []int{-1, 0, 1}), 5)}
	case 3:
		s[i].Lost = oneOf(r, []int{bottom, -1, 0, 9, top})
	}
	return s
}

// TestLostOnlyGrows (P17.5, P17.11): nothing but Lose changes how many are lost, and it by one.
func TestLostOnlyGrows(t *testing.T) {
	r := rand.New(rand.NewPCG(17, 3))
	x := newPair(t, each())
	want := 0
	for i := range 2000 {
		c := chance(r, x.m, int64(i))
		x.do(c)
		if c.name == "Lose" && c.number == 2 {
			want++
		}
		for _, number := range []int{2, 5, 8, 11} {
			_, lost, err := x.ports.Count(number)
			if err != api.OK || number == 2 && lost != want || number != 2 && lost != 0 {
				t.Fatalf("behind %+v: port %d has lost %d, %d; want %d", c, number, lost, err, want)
			}
		}
	}
}
