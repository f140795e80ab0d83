package part_test

import (
	"math"
	"math/rand/v2"
	"slices"
	"testing"

	"bulkhead/api"
	"bulkhead/check"
	"bulkhead/cpu"
	"bulkhead/part"
)

// TestByChance (P20.1 to P20.10): images, codes and orders of calls by chance, held against the second reading at each call.
func TestByChance(t *testing.T) {
	for seed := range 800 {
		r := rand.New(rand.NewPCG(20, uint64(seed)))
		x, number := anyImage(r)
		y := newPair(t, x, number, oneOf(r, []int{0, 0, 5, 1000, end - 60}))
		y.play(r, 300)
	}
}

// crossed are states of one partition in which a call finds all that it may find. Its code is the calls by their numbers.
func crossed() (api.Image, []api.PartState) {
	p := api.Part{Words: 6, Fixed: 1, Init: []int64{1, 2, 3, 4, 5, 6}, Handler: 2, Health: all(api.ActIgnore), Sems: []api.Sem{{Start: 1, Max: 2}}, Events: []bool{false}, Buffers: []api.Buffer{{Size: 2, Depth: 1}}}
	p.Health[api.FaultRaised] = api.ActHandler
	for n := range int32(api.Calls + 1) {
		p.Code = append(p.Code, api.Instr{Op: opSys, Imm: n})
	}
	p.Procs = []api.Proc{{Priority: 5, Auto: true}, {Priority: 1}, {Priority: 4}, {Priority: 3, Period: 9, Limit: 7}}
	x := alone(p,
		api.Port{Part: 1, Kind: api.Sampling, Out: true, Size: 2}, api.Port{Part: 1, Kind: api.Sampling, Size: 2, Refresh: 3},
		api.Port{Part: 1, Kind: api.Queuing, Out: true, Size: 2, Depth: 1}, api.Port{Part: 1, Kind: api.Queuing, Size: 2, Depth: 1})
	states := []int{api.Dormant, api.Ready, api.Delayed, api.Sending, api.Receiving, api.AtSem, api.AtEvent, api.Putting, api.Getting, api.Suspended}
	var list []api.PartState
	for _, runner := range []int{1, 2, 4} {
		for _, other := range states {
			for i := range 4 {
				m := read(x, 1, 0)
				m.standBy(runner, other, i%2 == 0, i/2 == 0)
				list = append(list, m.s)
			}
		}
	}
	return x, list
}

// standBy lays a partition down in which runner is the one that runs, alone or with the lock, and process 3 is in a state; its objects and queues are full, or empty, as far as that state lets them be.
func (m *reading) standBy(runner, other int, locked, full bool) {
	if runner != 1 {
		m.start(runner, 0, 0, 0)
	}
	if runner == 4 {
		m.stop(1)
	}
	if locked {
		// The handler runs over a holder.
		m.s.Lock = max(1, runner&^2)
	}
	if other != api.Dormant {
		m.start(3, 0, 0, 0)
	}
	objects := map[int]int{api.Sending: 3, api.Receiving: 4, api.AtSem: 1, api.AtEvent: 1, api.Putting: 1, api.Getting: 1}
	switch other {
	case api.Dormant, api.Ready:
	case api.Sending, api.Putting:
		m.waits(3, other, 40, objects[other], 0, []int64{70, 71})
		full = true
	case api.Receiving, api.Getting, api.AtSem, api.AtEvent:
		addr := 0
		if other == api.Receiving || other == api.Getting {
			addr = 4
		}
		m.waits(3, other, 40, objects[other], addr, nil)
		full = false
	case api.Suspended:
		m.waits(3, other, never, 0, 0, nil)
	default:
		m.waits(3, other, 40, 0, 0, nil)
	}
	m.s.Objects.Sems[0] = 0
	if full {
		m.s.Objects.Sems[0], m.s.Objects.Events[0], m.s.Objects.Buffers[0] = 2, true, [][]int64{{80, 81}}
		m.s.Ports[1].Sample = api.Sample{Has: true, Tick: 1, Data: []int64{82, 83}}
		m.s.Ports[2].Queue, m.s.Ports[3].Queue, m.s.Ports[3].Lost = [][]int64{{84, 85}}, [][]int64{{86, 87}}, 3
	}
	m.events = nil
}

// TestCallsCrossed (P20.8): every call, with arguments at all edges, in all those states.
func TestCallsCrossed(t *testing.T) {
	x, list := crossed()
	firsts := []int64{bottom, -1, 0, 1, 2, 3, 4, 5, 1<<32 + 1, top}
	seconds := []int64{bottom, -1, 0, 1, 4, 5, 6, 255, 256, top}
	thirds := []int64{bottom, -1, 0, 2, end - 4, end - 5, top}
	tries := 0
	for _, s := range list {
		for n := range api.Calls + 1 {
			for i := range len(firsts) * len(seconds) * len(thirds) {
				// Not every combination in every state: each two of the arguments meet all the same.
				if tries++; tries%13 != 0 {
					continue
				}
				m := &reading{x: x, number: 1, s: cloneState(s), now: 4}
				q := m.pick()
				m.proc(q).PC = n
				copy(m.proc(q).Regs[1:], []int64{firsts[i%10], seconds[i/10%10], thirds[i/100]})
				p, err := part.Load(x, 1, m.s)
				if err != api.OK {
					t.Fatalf("Load of %+v: %d", m.s, err)
				}
				before := cloneState(m.s)
				want, got := run(4).in(m), run(4).on(p)
				if !got.is(want) || !sameState(p.State(), m.s) || p.CanRun() != m.canRun() || p.Next(4) != m.next(4) {
					t.Fatalf("call %d on\n%+v:\n%+v, want %+v;\n%+v, want\n%+v", n, before, got, want, p.State(), m.s)
				}
			}
		}
	}
}

// othersChanged is an image whose other partitions are any, with the same ports.
func othersChanged(r *rand.Rand, x api.Image, number int) api.Image {
	other := api.Image{Ports: x.Ports, Parts: slices.Clone(x.Parts)}
	for i := range other.Parts {
		if i+1 != number {
			other.Parts[i] = anyPart(r, i+1, x.Ports)
			if r.IntN(3) == 0 {
				other.Parts[i] = api.Part{Words: bottom, Fixed: top, Handler: -3, Procs: make([]api.Proc, 40)}
			}
		}
	}
	other.Parts[number-1].Server = api.Server{Period: upTo(r, -1, 9), Budget: upTo(r, -1, 9), Priority: upTo(r, -1, 9)}
	if r.IntN(2) == 0 {
		other.Parts = append(other.Parts, api.Part{})
	}
	other.Channels = []api.Channel{{Kind: 7, From: top}}
	return other
}

// TestItsOwnAlone (P20.11): what a partition does does not hang on other partitions, on servers and on channels.
func TestItsOwnAlone(t *testing.T) {
	for seed := range 120 {
		r := rand.New(rand.NewPCG(20, uint64(20000+seed)))
		x, number := anyImage(r)
		other := othersChanged(r, x, number)
		y := newPair(t, x, number, 3)
		p, events, err := part.New(other, number, 3)
		if err != api.OK || !sameEvents(events, y.m.events) {
			t.Fatalf("New: %v, %d, want %v", events, err, y.m.events)
		}
		y.p = p
		y.play(r, 150)
		told := y.p.State()
		if y.p, err = part.Load(othersChanged(r, x, number), number, told); err != api.OK {
			t.Fatalf("Load: %d", err)
		}
		y.stands("Load with others")
		y.play(r, 100)
	}
}

// TestFixedWordsStay (P20.11): the first Fixed words are those of Init, 0 behind it, always, whatever the code does to the memory.
func TestFixedWordsStay(t *testing.T) {
	wrote := 0
	for seed := range 200 {
		r := rand.New(rand.NewPCG(20, uint64(30000+seed)))
		x, number := anyImage(r)
		own := &x.Parts[number-1]
		own.Fixed = r.IntN(own.Words + 1)
		own.Init = words(r, r.IntN(own.Words+1))
		fixed := make([]int64, own.Words)
		copy(fixed, own.Init)
		p, _, _ := part.New(x, number, 0)
		for now := range 200 {
			for range 4 {
				c := chance(r, x, now)
				c.on(p)
				got := p.State().Memory
				if len(got) != own.Words || !slices.Equal(got[:own.Fixed], fixed[:own.Fixed]) {
					t.Fatalf("behind %+v: the memory is %v, it began with %v, %d are fixed", c, got, fixed, own.Fixed)
				}
				if !slices.Equal(got, fixed) {
					wrote++
				}
			}
		}
	}
	if wrote == 0 {
		t.Errorf("nothing was ever written")
	}
}

// TestNothingBetween (P20.11): behind Timers(t), Timers of the ticks above t and below Next(t) tells nothing and changes nothing; at Next(t) something is told.
func TestNothingBetween(t *testing.T) {
	between := 0
	for seed := range 250 {
		r := rand.New(rand.NewPCG(20, uint64(40000+seed)))
		x, number := anyImage(r)
		p, _, _ := part.New(x, number, 0)
		for now := 0; now < 150; now += 1 + r.IntN(3) {
			chance(r, x, now).on(p)
			p.Run(now)
			p.Timers(now)
			told := p.State()
			next := p.Next(now)
			if next != never && next <= now {
				t.Fatalf("Next(%d) is %d", now, next)
			}
			probe, _ := part.Load(x, number, told)
			for _, tick := range []int{now + 1, now + 2, now + 1 + r.IntN(40), next - 1, end - 1} {
				if tick <= now || next != never && tick >= next {
					continue
				}
				between++
				if got := probe.Timers(tick); len(got) != 0 || !sameState(probe.State(), told) || probe.Next(now) != next {
					t.Fatalf("Timers(%d) behind Timers(%d), ahead of %d: %v", tick, now, next, got)
				}
			}
			if next != never {
				if got := probe.Timers(next); len(got) == 0 {
					t.Fatalf("Timers(%d), which Next(%d) told, tells nothing", next, now)
				}
			}
		}
	}
	if between < 1000 {
		t.Errorf("only %d ticks between", between)
	}
}

// picked is the process that is to run, read out of a state.
func picked(own api.Part, s api.PartState) int {
	if own.Handler != 0 && s.Procs[own.Handler-1].State == api.Ready {
		return own.Handler
	}
	first := s.Lock
	for i, q := range s.Procs {
		if s.Lock == 0 && q.State == api.Ready && (first == 0 || q.Priority > s.Procs[first-1].Priority || q.Priority == s.Procs[first-1].Priority && q.Place < s.Procs[first-1].Place) {
			first = i + 1
		}
	}
	return first
}

// TestOneInstruction (P20.11): each Run with CanRun true does one instruction, of the process that is picked: a plain one changes nothing but its registers, place and word; a call or a fault tells of itself or stops or holds who did it.
func TestOneInstruction(t *testing.T) {
	plainOnes, others := 0, 0
	for seed := range 200 {
		r := rand.New(rand.NewPCG(20, uint64(50000+seed)))
		x, number := anyImage(r)
		own := x.Parts[number-1]
		p, _, _ := part.New(x, number, 0)
		for now := range 250 {
			chance(r, x, now).on(p)
			p.Timers(now)
			s := p.State()
			can := p.CanRun()
			q := picked(own, s)
			if can != (s.Mode == api.Normal && q != 0) {
				t.Fatalf("CanRun is %v, %d would run: %+v", can, q, s)
			}
			events, writes := p.Run(now)
			behind := p.State()
			if !can {
				if len(events)+len(writes) != 0 || !sameState(s, behind) {
					t.Fatalf("Run without CanRun: %v, %v", events, writes)
				}
				continue
			}
			e := cpu.Step(own.Code, s.Memory, own.Fixed, s.Procs[q-1].Regs, s.Procs[q-1].PC)
			if e.Call == 0 && e.Fault == 0 {
				plainOnes++
				s.Procs[q-1].Regs, s.Procs[q-1].PC = e.Regs, e.PC
				if e.Store {
					s.Memory[e.Addr] = e.Value
				}
				if len(events)+len(writes) != 0 || !sameState(s, behind) {
					t.Fatalf("Run of %+v: %v, %v, %+v, want %+v", e, events, writes, behind, s)
				}
				continue
			}
			others++
			if e.Fault != 0 && (len(events) == 0 || showOne(events[0]) != showOne(api.Event{Kind: api.EventFault, Proc: q, A: int64(e.Fault), B: int64(s.Procs[q-1].PC)})) {
				t.Fatalf("Run of %+v: %v", e, events)
			}
			if len(events) == 0 && behind.Procs[q-1].State == api.Ready {
				t.Fatalf("Run of %+v told nothing, and it goes on", e)
			}
			if len(writes) > 1 || len(writes) == 1 && e.Call != api.CallWrite {
				t.Fatalf("Run of %+v wrote %v", e, writes)
			}
		}
	}
	if plainOnes < 1000 || others < 1000 {
		t.Errorf("only %d and %d", plainOnes, others)
	}
}

// TestToldOnce (P20.11): whoever is told had waited in that call, and is told once; whoever waits does so at one object that is there.
func TestToldOnce(t *testing.T) {
	ends := 0
	for seed := range 250 {
		r := rand.New(rand.NewPCG(20, uint64(60000+seed)))
		x, number := anyImage(r)
		own := x.Parts[number-1]
		p, _, _ := part.New(x, number, 0)
		for i := range 400 {
			c := chance(r, x, i/4)
			if i%4 == 0 {
				c = timers(i / 4)
			}
			s := p.State()
			runner := 0
			if c.name == "Run" && p.CanRun() {
				runner = picked(own, s)
			}
			counts := map[int]int{}
			for _, e := range c.on(p).events {
				if e.Kind != api.EventCall {
					continue
				}
				counts[e.Proc]++
				if counts[e.Proc] > 1 {
					t.Fatalf("%+v: process %d is told twice", c, e.Proc)
				}
				if e.Proc != runner {
					ends++
					state := map[int64]int{2: api.Delayed, 3: api.InPeriod, 17: api.Sending, 18: api.Receiving, 20: api.AtSem, 24: api.AtEvent, 25: api.Putting, 26: api.Getting}[e.A]
					if s.Procs[e.Proc-1].State != state {
						t.Fatalf("%+v: %+v, it was %+v", c, e, s.Procs[e.Proc-1])
					}
				}
			}
			for j, q := range p.State().Procs {
				most := map[int]int{api.Sending: len(x.Ports), api.Receiving: len(x.Ports), api.AtSem: len(own.Sems), api.AtEvent: len(own.Events), api.Putting: len(own.Buffers), api.Getting: len(own.Buffers)}[q.State]
				if q.Object > most || most > 0 && q.Object < 1 {
					t.Fatalf("process %d waits at nothing: %+v", j+1, q)
				}
			}
		}
	}
	if ends < 250 {
		t.Errorf("only %d were told", ends)
	}
}

// TestNeverHalts (P20.11): code that loops, floods or fails goes on for as long as it is run, or waits for something from outside.
func TestNeverHalts(t *testing.T) {
	for _, lines := range []string{"jmp 0", "sys 27; jmp 0", "ldi r1 1; sys 13", "sys 10; jmp 1", "ldi r1 1; sys 17; jmp 0", "sys 99", "div r1 r1 r1", "jmp 99", "ldi r1 0; sys 2; jmp 0"} {
		for _, action := range []int{api.ActRestartProc, api.ActRestart} {
			p, _, _ := part.New(alone(with(api.Part{Words: 1, Health: all(action)}, plain(1, lines)), api.Port{Part: 1, Kind: api.Queuing, Out: true, Size: 1, Depth: 1}), 1, 0)
			for now := range 1000 {
				if !p.CanRun() {
					t.Fatalf("%s: it has halted at %d", lines, now)
				}
				p.Run(now)
				p.Timers(now)
			}
		}
	}
}

// edges are numbers that an image, a state or a call may be given, most of them no good.
func edges() []int {
	return []int{bottom, bottom + 1, -1 << 40, -2, -1, 0, 0, 1, 1, 2, 3, 4, 5, 7, 10, 16, 64, 4096, 4097, math.MaxInt32, end - 1, end, top - 1, top}
}

// illImage is an image of which nothing need be right.
func illImage(r *rand.Rand) api.Image {
	n := func() int { return oneOf(r, edges()) }
	x, number := anyImage(r)
	for i := range x.Ports {
		if r.IntN(2) == 0 {
			x.Ports[i] = api.Port{Part: oneOf(r, []int{1, 2, number, n()}), Kind: oneOf(r, []int{0, 1, n()}), Out: r.IntN(2) == 0, Size: n(), Depth: n(), Refresh: n()}
		}
	}
	for i := range x.Parts {
		p := &x.Parts[i]
		for range 1 + r.IntN(3) {
			switch r.IntN(8) {
			case 0:
				p.Words = n()
			case 1:
				p.Fixed = n()
			case 2:
				p.Handler = n()
			case 3:
				p.Health[r.IntN(api.Faults)] = n()
			case 4:
				p.Procs[r.IntN(len(p.Procs))] = api.Proc{Entry: n(), Priority: n(), Period: n(), Limit: n(), Capacity: n(), Auto: r.IntN(2) == 0}
			case 5:
				p.Sems = append(p.Sems, api.Sem{Start: n(), Max: n()})
			case 6:
				p.Buffers = append(p.Buffers, api.Buffer{Size: n(), Depth: n()})
			case 7:
				p.Code, p.Procs = p.Code[:r.IntN(len(p.Code)+1)], p.Procs[:r.IntN(len(p.Procs)+1)]
				if len(p.Procs) == 0 {
					p.Procs = make([]api.Proc, 1+r.IntN(40))
				}
			}
		}
	}
	return x
}

// illState is a state of which nothing need be right but what Load asks for, most of the time.
func illState(r *rand.Rand, x api.Image, s api.PartState) api.PartState {
	n := func() int { return oneOf(r, edges()) }
	s = cloneState(s)
	s.Mode, s.Place, s.Restarts = r.IntN(2), n(), n()
	for i := range s.Procs {
		if r.IntN(2) == 0 {
			q := api.ProcState{State: upTo(r, -1, 12), Priority: n(), Place: n(), PC: n(), Released: n(), Deadline: n(), Until: n(), Late: r.IntN(2) == 0, Object: n(), Addr: n(), Data: words(r, r.IntN(4)), Misses: n()}
			for k := range q.Regs {
				q.Regs[k] = int64(n())
			}
			s.Procs[i] = q
		}
	}
	s.Lock = oneOf(r, []int{0, 1, len(s.Procs), n()})
	for i := range s.Ports {
		if r.IntN(4) == 0 {
			s.Ports[i].Lost, s.Ports[i].Sample.Tick = n(), n()
		}
	}
	return s
}

// TestAnyImage (rule 1): New and Load of any image and state, and every call behind them, end and do not panic.
func TestAnyImage(t *testing.T) {
	refused, loaded := 0, 0
	for seed := range 1500 {
		r := rand.New(rand.NewPCG(20, uint64(70000+seed)))
		x := illImage(r)
		if err, _ := check.Check(x); err != api.OK {
			refused++
		}
		number := upTo(r, 1, len(x.Parts))
		p, _, err := part.New(x, number, oneOf(r, []int{0, 9, end - 1}))
		if err != api.OK {
			t.Fatalf("New: %d", err)
		}
		calls := func(p *part.Part) {
			for range 60 {
				c := chance(r, x, oneOf(r, edges()))
				if r.IntN(3) == 0 {
					c.port = oneOf(r, edges())
				}
				if r.IntN(8) == 0 {
					c.name = "Wake"
				}
				c.on(p)
				p.Next(oneOf(r, edges()))
				p.CanRun()
			}
			p.State()
		}
		calls(p)
		for range 3 {
			if q, err := part.Load(x, number, illState(r, x, p.State())); err == api.OK {
				loaded++
				calls(q)
			}
		}
	}
	if refused < 100 || loaded < 100 {
		t.Errorf("only %d images that may not be, %d states that were loaded", refused, loaded)
	}
}

// TestAnyNumbers (rule 1): New and Load of any numbers answer what the chapter says.
func TestAnyNumbers(t *testing.T) {
	x := three()
	for _, number := range edges() {
		for _, now := range edges() {
			p, _, err := part.New(x, number, now)
			want := api.OK
			if number < 1 || number > 3 {
				want = api.ErrPart
			} else if now < 0 || now >= end {
				want = api.ErrArg
			}
			if err != want || (p != nil) != (want == api.OK) {
				t.Errorf("New(%d, %d): %d, want %d", number, now, err, want)
			}
		}
	}
}
