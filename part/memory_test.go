package part_test

import (
	"math/rand/v2"
	"slices"
	"testing"

	"bulkhead/api"
	"bulkhead/part"
)

// spoil writes over a list, its spare room too.
func spoil[T any](list []T, with T) {
	list = list[:cap(list)]
	for i := range list {
		list[i] = with
	}
}

// piece is a list cut out of a longer one, with room behind it; the longer one is noted.
func piece[T any](list []T, around T, note func(whole []T)) []T {
	whole := append([]T{around, around}, list...)
	whole = append(whole, around, around, around)
	note(whole)
	return whole[2 : 2+len(list)]
}

// handed is lists that were handed in, each as long as its memory goes; as is what they were.
type handed struct {
	same  []func() bool // whether a list is as it was
	spoil []func()      // writes over a list
}

// hand notes a list of comparable things.
func hand[T comparable](h *handed, with T) func(whole []T) {
	return func(whole []T) {
		was := slices.Clone(whole)
		h.same = append(h.same, func() bool { return slices.Equal(whole, was) })
		h.spoil = append(h.spoil, func() { spoil(whole, with) })
	}
}

// handBy notes a list of things that are held against each other by a function.
func handBy[T any](h *handed, with T, same func(a, b T) bool) func(whole []T) {
	return func(whole []T) {
		was := slices.Clone(whole)
		h.same = append(h.same, func() bool { return slices.EqualFunc(whole, was, same) })
		h.spoil = append(h.spoil, func() { spoil(whole, with) })
	}
}

func (h *handed) isAsItWas() bool {
	return !slices.ContainsFunc(h.same, func(same func() bool) bool { return !same() })
}

// writeOver writes over all of it, the inner lists first.
func (h *handed) writeOver() {
	for _, spoil := range h.spoil {
		spoil()
	}
}

// handImage is an image, each list of which has room around it.
func handImage(h *handed, x api.Image) api.Image {
	x.Parts, x.Ports = slices.Clone(x.Parts), slices.Clone(x.Ports)
	for i := range x.Parts {
		p := &x.Parts[i]
		p.Init = piece(p.Init, 91, hand[int64](h, -91))
		p.Code = piece(p.Code, api.Instr{Op: 1}, hand(h, api.Instr{Op: 77}))
		p.Procs = piece(p.Procs, api.Proc{Auto: true}, hand(h, api.Proc{Entry: -5, Priority: 9, Period: 1, Limit: 1, Auto: true}))
		p.Sems = piece(p.Sems, api.Sem{Max: 9}, hand(h, api.Sem{Start: 9, Max: 9}))
		p.Events = piece(p.Events, true, hand(h, true))
		p.Buffers = piece(p.Buffers, api.Buffer{Size: 1, Depth: 1}, hand(h, api.Buffer{Size: 9, Depth: 9}))
	}
	x.Ports = piece(x.Ports, api.Port{Part: 1, Size: 1}, hand(h, api.Port{Part: 9, Size: 9}))
	same := func(a, b api.Part) bool {
		return a.Words == b.Words && a.Fixed == b.Fixed && a.Handler == b.Handler && a.Health == b.Health && len(a.Init) == len(b.Init) && len(a.Procs) == len(b.Procs)
	}
	x.Parts = piece(x.Parts, api.Part{Words: 3}, handBy(h, api.Part{Words: 4, Handler: 1, Health: all(5)}, same))
	return x
}

func handMessages(h *handed, list [][]int64) [][]int64 {
	list = slices.Clone(list)
	for i := range list {
		list[i] = piece(list[i], 92, hand[int64](h, -92))
	}
	return piece(list, []int64{93}, handBy(h, []int64{-93, -94}, slices.Equal[[]int64]))
}

// handState is a state, each list of which has room around it.
func handState(h *handed, s api.PartState) api.PartState {
	s = cloneState(s)
	s.Memory = piece(s.Memory, 95, hand[int64](h, -95))
	for i := range s.Procs {
		s.Procs[i].Data = piece(s.Procs[i].Data, 96, hand[int64](h, -96))
	}
	s.Procs = piece(s.Procs, api.ProcState{State: 1}, handBy(h, api.ProcState{State: api.Ready, PC: -4, Data: []int64{1, 2}}, sameProc))
	for i := range s.Ports {
		s.Ports[i].Queue = handMessages(h, s.Ports[i].Queue)
		s.Ports[i].Sample.Data = piece(s.Ports[i].Sample.Data, 97, hand[int64](h, -97))
	}
	s.Ports = piece(s.Ports, api.PortState{Lost: 7}, handBy(h, api.PortState{Lost: -7, Queue: [][]int64{{1}}}, samePort))
	s.Objects.Sems = piece(s.Objects.Sems, 1, hand(h, 99))
	s.Objects.Events = piece(s.Objects.Events, true, hand(h, true))
	for i := range s.Objects.Buffers {
		s.Objects.Buffers[i] = handMessages(h, s.Objects.Buffers[i])
	}
	s.Objects.Buffers = piece(s.Objects.Buffers, [][]int64{{1}}, handBy(h, [][]int64{{-1}}, sameMessages))
	return s
}

// spoilState writes over all of a state that was told, spare room too.
func spoilState(s api.PartState) {
	for _, q := range s.Procs[:cap(s.Procs)] {
		spoil(q.Data, -71)
	}
	for _, q := range s.Ports[:cap(s.Ports)] {
		for _, data := range q.Queue[:cap(q.Queue)] {
			spoil(data, -72)
		}
		spoil(q.Queue, []int64{-73})
		spoil(q.Sample.Data, -74)
	}
	for _, list := range s.Objects.Buffers[:cap(s.Objects.Buffers)] {
		for _, data := range list[:cap(list)] {
			spoil(data, -75)
		}
		spoil(list, []int64{-76})
	}
	spoil(s.Memory, -77)
	spoil(s.Procs, api.ProcState{State: api.Ready, PC: -78})
	spoil(s.Ports, api.PortState{Lost: -79})
	spoil(s.Objects.Sems, -80)
	spoil(s.Objects.Events, true)
	spoil(s.Objects.Buffers, [][]int64{{-81}})
}

// spoilTold writes over all that a call told.
func spoilTold(x told) {
	spoil(x.events, api.Event{Kind: -82, Data: []int64{-82}})
	for _, w := range x.writes {
		spoil(w.Data, -83)
	}
	spoil(x.writes, api.Write{Port: -84})
	spoil(x.data, -85)
}

// TestImageIsNotKept (rule 2): the image is left as it is, what lies around its lists too, and not kept: not for what is done now, and not for a boot anew.
func TestImageIsNotKept(t *testing.T) {
	for seed := range 60 {
		r := rand.New(rand.NewPCG(20, uint64(80000+seed)))
		x, number := anyImage(r)
		var h handed
		given := handImage(&h, x)
		p, events, err := part.New(given, number, 0)
		y := &pair{t, p, read(x, number, 0)}
		if err != api.OK || !sameEvents(events, y.m.events) {
			t.Fatalf("New: %v, %d, want %v", events, err, y.m.events)
		}
		y.play(r, 100)
		if y.p, err = part.Load(given, number, y.p.State()); err != api.OK {
			t.Fatalf("Load: %d", err)
		}
		y.play(r, 100)
		y.do(wake(y.m.now))
		if !h.isAsItWas() {
			t.Fatalf("the image has changed")
		}
		h.writeOver()
		y.stands("the image written over")
		y.play(r, 100)
		y.do(wake(y.m.now))
		y.play(r, 100)
	}
}

// TestStateIsNotKept (rule 2): the state that Load is handed is left as it is, what lies around its lists too, and not kept.
func TestStateIsNotKept(t *testing.T) {
	for seed := range 60 {
		r := rand.New(rand.NewPCG(20, uint64(81000+seed)))
		x, number := anyImage(r)
		z := newPair(t, x, number, 0)
		z.play(r, 150)
		if seed == 0 {
			x, z.m.s = full(t)
			number = 2
		}
		var h handed
		given := handState(&h, z.m.s)
		y, other := loadPair(t, x, number, given), loadPair(t, x, number, given)
		y.m.now = z.m.now
		y.play(r, 60)
		other.stands("what its twin has done")
		if !h.isAsItWas() {
			t.Fatalf("the state has changed")
		}
		h.writeOver()
		y.stands("the state written over")
		other.stands("the state written over")
		y.play(r, 60)
		other.m.now = z.m.now
		other.play(r, 60)
	}
}

// TestRefusedLeaves (rule 3): what a refused Load is handed is left as it is.
func TestRefusedLeaves(t *testing.T) {
	x, good := full(t)
	var h handed
	s := handState(&h, good)
	s.Mode = 2
	given := handImage(&h, x)
	refuses(t, "a mode", given, 2, s, api.ErrForm)
	refuses(t, "a partition", given, 0, s, api.ErrPart)
	s.Mode, s.Lock = 1, 9
	refuses(t, "a lock", given, 2, s, api.ErrForm)
	if !h.isAsItWas() {
		t.Errorf("it has changed")
	}
}

// TestDataIsNotKept (rule 2): the messages that Arrive and Sample are handed are left as they are, spare room too, and not kept.
func TestDataIsNotKept(t *testing.T) {
	for _, waits := range []bool{false, true} {
		y := receivers(t)
		if waits {
			y.runs(12, 0, "")
		}
		var h handed
		note := hand[int64](&h, -91)
		for i := range 4 {
			data := piece([]int64{int64(i), 50}, 90, note)
			y.do(call{name: "Arrive", port: 8, data: data, now: 1})
			y.do(call{name: "Sample", port: 6, data: data, now: 1})
			y.do(call{name: "Arrive", port: 8, data: data[:3], now: 1})
		}
		if !h.isAsItWas() {
			t.Errorf("the data have changed")
		}
		h.writeOver()
		y.stands("the data written over")
		// One list, handed in again with other words in it.
		list := make([]int64, 2, 5)
		for i := range 3 {
			spoil(list, int64(i))
			y.do(call{name: "Arrive", port: 8, data: list, now: 2})
			y.do(call{name: "Sample", port: 6, data: list, now: 2})
		}
		spoil(list, 99)
		y.stands("the list written over")
	}
}

// TestToldIsNew (rule 2): what any call told may be written over, spare room too, and does not change with later calls.
func TestToldIsNew(t *testing.T) {
	for seed := range 80 {
		r := rand.New(rand.NewPCG(20, uint64(82000+seed)))
		x, number := anyImage(r)
		y := newPair(t, x, number, 0)
		type kept struct{ got, want told }
		var list []kept
		var states, wants []api.PartState
		for i := range 200 {
			c := chance(r, x, i/5)
			want := c.in(y.m)
			got := c.on(y.p)
			if !got.is(want) {
				t.Fatalf("%+v: %+v, want %+v", c, got, want)
			}
			if i%3 == 0 {
				spoilTold(got)
				spoilState(y.p.State())
				y.stands("what was told written over")
				continue
			}
			list = append(list, kept{got, told{slices.Clone(want.events), cloneWrites(want.writes), slices.Clone(want.data), want.took}})
			states, wants = append(states, y.p.State()), append(wants, cloneState(y.m.s))
		}
		for i := range list {
			if !list[i].got.is(list[i].want) || !sameState(states[i], wants[i]) {
				t.Fatalf("what was told has changed: %+v, %+v", list[i].got, states[i])
			}
		}
	}
}

func cloneWrites(list []api.Write) []api.Write {
	list = slices.Clone(list)
	for i := range list {
		list[i].Data = slices.Clone(list[i].Data)
	}
	return list
}

// TestToldByEachCall (rule 2): of the calls whose answers have words of their own, in the states in which they lie about elsewhere too.
func TestToldByEachCall(t *testing.T) {
	// What a process waits to send, behind its Take.
	y := senders(t)
	y.runs(14, 0, "Call 3 SEND OK; Call 3 SEND OK")
	first := y.do(take(1, 1))
	spoilTold(first)
	y.stands("the first written over")
	second := y.do(take(1, 1))
	y.do(take(1, 1))
	y.do(wake(2))
	if !slices.Equal(second.data, []int64{5, 6}) {
		t.Errorf("the second has changed: %v", second.data)
	}
	// What was written, behind what is written next.
	p := with(api.Part{Words: 2, Init: []int64{1, 2}}, plain(1, "ldi r1 1; sys 15; st r1 r0 0; jmp 1"))
	z := newPair(t, alone(p, api.Port{Part: 1, Kind: api.Sampling, Out: true, Size: 2}), 1, 0)
	told := z.runs(2, 0, "Call 1 WRITE OK")
	z.runs(3, 0, "Call 1 WRITE OK")
	if !sameWrites(told, []api.Write{{Port: 1, Data: []int64{1, 2}}}) {
		t.Errorf("what was written has changed: %v", told)
	}
	spoil(told[0].Data, -9)
	z.stands("what was written written over")
	// The lists of one state.
	_, good := full(t)
	x, _ := full(t)
	q, _ := part.Load(x, 2, good)
	s := q.State()
	spoil(s.Memory, -1)
	s.Memory = good.Memory
	spoil(s.Procs[1].Data, -1)
	s.Procs[1].Data = good.Procs[1].Data
	spoil(s.Ports[2].Queue[0], -1)
	s.Ports[2].Queue[0] = good.Ports[2].Queue[0]
	spoil(s.Ports[3].Queue[0], -1)
	s.Ports[3].Queue[0] = good.Ports[3].Queue[0]
	spoil(s.Ports[1].Sample.Data, -1)
	s.Ports[1].Sample.Data = good.Ports[1].Sample.Data
	spoil(s.Objects.Buffers[0][0], -1)
	s.Objects.Buffers[0][0] = good.Objects.Buffers[0][0]
	if !sameState(s, good) {
		t.Errorf("two lists of one state share their memory: %+v, want %+v", s, good)
	}
}

// TestPartsShareNothing: partitions of one image, the same one twice and others, each with calls of its own.
func TestPartsShareNothing(t *testing.T) {
	for seed := range 30 {
		r := rand.New(rand.NewPCG(20, uint64(83000+seed)))
		x, number := anyImage(r)
		list := []*pair{newPair(t, x, number, 0), newPair(t, x, number, 0), newPair(t, x, 1, 0), newPair(t, x, len(x.Parts), 0)}
		list = append(list, loadPair(t, x, number, list[0].p.State()))
		for range 60 {
			oneOf(r, list).play(r, 3)
			for _, y := range list {
				y.stands("a call on others")
			}
		}
	}
}

// emptied is an image whose empty lists are lists without elements.
func emptied(x api.Image) api.Image {
	x.Parts = slices.Clone(x.Parts)
	for i := range x.Parts {
		p := &x.Parts[i]
		p.Init, p.Sems, p.Events, p.Buffers = append([]int64{}, p.Init...), append([]api.Sem{}, p.Sems...), append([]bool{}, p.Events...), append([]api.Buffer{}, p.Buffers...)
	}
	x.Ports = append([]api.Port{}, x.Ports...)
	return x
}

// TestNilIsEmpty (rule 3): nil and an empty list are the same, in images, states and messages.
func TestNilIsEmpty(t *testing.T) {
	r := rand.New(rand.NewPCG(20, 84000))
	x := alone(with(api.Part{Words: 3}, plain(1, "nop; sys 13")))
	y := newPair(t, emptied(x), 1, 0)
	y.m.x = x
	y.play(r, 50)
	bare := func(list []int64) api.PartState {
		return api.PartState{Mode: api.Idle, Memory: list, Procs: []api.ProcState{{Released: never, Deadline: never, Until: never, Data: list}}, Objects: api.ObjectState{Sems: []int{}, Events: []bool{}, Buffers: [][][]int64{}}, Ports: []api.PortState{}}
	}
	none := alone(with(api.Part{}, plain(1, "nop; sys 13")))
	for _, list := range [][]int64{nil, {}} {
		for _, x := range []api.Image{none, emptied(none)} {
			z := loadPair(t, x, 1, bare(list))
			z.do(call{name: "Arrive", port: 1, data: list})
			z.do(call{name: "Sample", port: 1, data: list})
			z.do(wake(1))
			z.play(r, 20)
		}
	}
}

// TestNone: what a refused call answers is no partition, and one that nobody made has nothing: their calls answer nothing.
func TestNone(t *testing.T) {
	refused, _, _ := part.New(api.Image{}, 1, 0)
	for _, p := range []*part.Part{refused, {}} {
		for _, name := range names() {
			for _, n := range []int{bottom, -1, 0, 1, end, top} {
				got := call{name: name, port: n, data: []int64{1}, now: n}.on(p)
				if name != "Wake" && !got.is(told{}) || name == "Wake" && len(got.events) > 1 {
					t.Errorf("%s(%d): %+v", name, n, got)
				}
			}
		}
		if p.CanRun() || p.Next(0) != never || len(p.State().Memory) != 0 {
			t.Errorf("it can run, or something is due: %+v", p.State())
		}
	}
}
