package objects_test

import (
	"math/rand/v2"
	"slices"
	"testing"

	"bulkhead/api"
	"bulkhead/objects"
)

// sortedKinds are partitions in one order, so that chance of a fixed seed is the same each time.
func sortedKinds(kinds map[string]api.Part) []string {
	var list []string
	for what := range kinds {
		list = append(list, what)
	}
	slices.Sort(list)
	return list
}

// TestManyCalls: every call, and all that a set tells behind it, beside the record, on sets that were made and on sets that were loaded.
func TestManyCalls(t *testing.T) {
	kinds := bothKinds()
	for _, what := range sortedKinds(kinds) {
		p := kinds[what]
		t.Run(what, func(t *testing.T) {
			r := rand.New(rand.NewPCG(16, 1))
			x := newPair(t, p)
			for i := range 1500 {
				x.do(chance(r, p, int64(i)))
			}
			for round := range 10 {
				s, ok := standing(r, p)
				if !ok {
					return
				}
				y := loadPair(t, p, s)
				for i := range 100 {
					y.do(chance(r, p, int64(100*round+i)))
				}
			}
		})
	}
}

// TestInOrderAndOnce (P16.7): what was put comes out once, as it was put, in that order, also round and round at each filling.
func TestInOrderAndOnce(t *testing.T) {
	for _, b := range []api.Buffer{{Size: 1, Depth: 1}, {Size: 2, Depth: 2}, {Size: 1, Depth: 3}, {Size: 3, Depth: 7}, {Size: api.MaxSize, Depth: api.MaxDepth}, {Size: 1, Depth: 1000}} {
		for _, filling := range []int{0, min(1, b.Depth-1), (b.Depth - 1) / 2, b.Depth - 1} {
			set := objects.New(api.Part{Buffers: []api.Buffer{b}})
			var in, out []int64
			putOne := func() {
				data := words(b.Size, int64(1000*len(in)))
				if ok, err := set.Put(1, data); !ok || err != api.OK {
					t.Fatalf("%v: Put of message %d: %v, %d", b, len(in), ok, err)
				}
				in = append(in, data[0])
			}
			getOne := func() {
				data, ok, err := set.Get(1)
				if !ok || err != api.OK || !slices.Equal(data, words(b.Size, int64(1000*len(out)))) {
					t.Fatalf("%v: Get of message %d: %v, %v, %d", b, len(out), data, ok, err)
				}
				out = append(out, data[0])
			}
			for range filling {
				putOne()
			}
			for range 5*b.Depth + 20 {
				putOne()
				getOne()
			}
			for range filling {
				getOne()
			}
			if data, ok, err := set.Get(1); len(data) != 0 || ok || err != api.OK {
				t.Fatalf("%v: one came twice: %v", b, data)
			}
			if !slices.Equal(in, out) {
				t.Fatalf("%v: in %v, out %v", b, in, out)
			}
		}
	}
}

// TestBursts (P16.7): many in, many out, so that a queue grows, runs dry and grows again.
func TestBursts(t *testing.T) {
	r := rand.New(rand.NewPCG(16, 2))
	for _, depth := range []int{1, 2, 3, 8, api.MaxDepth, 500} {
		set := objects.New(api.Part{Buffers: []api.Buffer{{Size: 2, Depth: depth}}})
		came, went := 0, 0
		for range 200 {
			for range r.IntN(depth + 3) {
				ok, _ := set.Put(1, []int64{int64(came), int64(-came)})
				if ok != (came-went < depth) {
					t.Fatalf("depth %d: Put is %v with %d in it", depth, ok, came-went)
				}
				if ok {
					came++
				}
			}
			for range r.IntN(depth + 3) {
				data, ok, _ := set.Get(1)
				if ok != (came > went) || ok && !slices.Equal(data, []int64{int64(went), int64(-went)}) {
					t.Fatalf("depth %d: Get is %v, %v with %d in it, %d went", depth, data, ok, came-went, went)
				}
				if ok {
					went++
				}
			}
			if s := set.State(); len(s.Buffers[0]) != came-went {
				t.Fatalf("depth %d: %d messages, want %d", depth, len(s.Buffers[0]), came-went)
			}
		}
	}
}

// TestNumbersFollow (P16.7): a semaphore's number is what it began with, and the Ups less the Downs that were true; it stays within 0 and Max.
func TestNumbersFollow(t *testing.T) {
	r := rand.New(rand.NewPCG(16, 3))
	for _, most := range []int{1, 2, 3, 10, api.MaxSem} {
		for _, from := range []int{0, 1, most / 2, most - 1, most} {
			for _, loaded := range []bool{false, true} {
				p := api.Part{Sems: []api.Sem{{Start: from, Max: most}}}
				set := objects.New(p)
				if loaded {
					p.Sems[0].Start = most - from
					set, _ = objects.Load(p, api.ObjectState{Sems: []int{from}})
				}
				want := from
				for range 300 {
					if r.IntN(2) == 0 {
						if ok, _ := set.Up(1); ok {
							want++
						}
					} else if ok, _ := set.Down(1); ok {
						want--
					}
					if n, err := set.Count(1); n != want || err != api.OK || n < 0 || n > most {
						t.Fatalf("Max %d from %d: Count = %d, %d; want %d", most, from, n, err, want)
					}
				}
			}
		}
	}
}

// TestLoadedGoOn (P16.7): objects that are loaded with what State told go on as those that told it; of a partition that may be every state that State tells is let be.
func TestLoadedGoOn(t *testing.T) {
	kinds := bothKinds()
	for _, what := range sortedKinds(kinds) {
		p := kinds[what]
		_, mayBe := families()[what]
		t.Run(what, func(t *testing.T) {
			r := rand.New(rand.NewPCG(16, 4))
			x := newPair(t, p)
			for round := range 20 {
				for i := range 30 {
					x.do(chance(r, p, int64(100*round+i)))
				}
				told := x.set.State()
				twin, err := objects.Load(p, told)
				if !fits(p, told) && !mayBe {
					if twin != nil || err != api.ErrForm {
						t.Fatalf("Load of %v: %d", told, err)
					}
					continue
				}
				if twin == nil || err != api.OK {
					t.Fatalf("Load of %v: %d", told, err)
				}
				for i := range 30 {
					c := chance(r, p, int64(100*round+50+i))
					if a, b := x.do(c), c.on(twin); !a.is(b) {
						t.Fatalf("%+v: %+v, of the twin %+v", c, a, b)
					}
					if !same(x.set.State(), twin.State()) {
						t.Fatalf("behind %+v: %v, of the twin %v", c, x.set.State(), twin.State())
					}
				}
			}
		})
	}
}

// TestLoadsByChance (P16.2): states with and without something spoiled, on partitions of all kinds, beside P16.2's words.
func TestLoadsByChance(t *testing.T) {
	r := rand.New(rand.NewPCG(16, 5))
	kinds := bothKinds()
	let, not := 0, 0
	for _, what := range sortedKinds(kinds) {
		p := kinds[what]
		for range 200 {
			s, _ := standing(r, p)
			for range r.IntN(3) {
				spoilOne(r, p, &s)
			}
			if !fits(p, s) {
				not++
				refused(t, what, p, s)
				continue
			}
			let++
			loadPair(t, p, s)
		}
	}
	if let < 500 || not < 500 {
		t.Errorf("%d are let be, %d not: too few of one", let, not)
	}
}

// spoilOne changes one thing of a state, so that it may or may not fit any more.
func spoilOne(r *rand.Rand, p api.Part, s *api.ObjectState) {
	switch r.IntN(5) {
	case 0:
		i := r.IntN(len(s.Sems) + 1)
		if i >= len(s.Sems) || i >= len(p.Sems) {
			s.Sems = append(s.Sems, 0)
			return
		}
		s.Sems[i] = oneOf(r, []int{bottom, -1, 0, 1, p.Sems[i].Max, p.Sems[i].Max + 1, top})
	case 1:
		if n := len(s.Events); n > 0 && r.IntN(2) == 0 {
			s.Events = s.Events[:n-1]
		} else if r.IntN(4) == 0 {
			s.Events = append(s.Events, true)
		}
	case 2, 3:
		i := r.IntN(len(s.Buffers) + 1)
		if i >= len(s.Buffers) || i >= len(p.Buffers) {
			s.Buffers = append(s.Buffers, nil)
			return
		}
		b := p.Buffers[i]
		room := max(0, min(70, b.Depth))
		size := max(0, min(400, b.Size+r.IntN(3)/2))
		for len(s.Buffers[i]) < room+r.IntN(2) {
			s.Buffers[i] = append(s.Buffers[i], words(max(0, min(400, b.Size)), 3))
		}
		if n := len(s.Buffers[i]); n > 0 {
			s.Buffers[i][r.IntN(n)] = words(size, 4)
		}
	case 4:
		if n := len(s.Buffers); n > 0 && r.IntN(3) == 0 {
			s.Buffers = s.Buffers[:n-1]
		}
	}
}
