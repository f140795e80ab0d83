package rta_test

import (
	"fmt"
	"math/rand/v2"
	"slices"
	"testing"

	"bulkhead/api"
	"bulkhead/asm"
	imagebytes "bulkhead/image"
	"bulkhead/kernel"
	"bulkhead/rta"
	scriptbytes "bulkhead/script"
)

var (
	nop  = api.Instr{Op: 1}
	wait = api.Instr{Op: 27, Imm: api.CallPeriodicWait}
)

func call(n int32) api.Instr { return api.Instr{Op: 27, Imm: n} }

func set(register byte, n int32) api.Instr { return api.Instr{Op: 2, A: register, Imm: n} }

// busy are so many instructions that end no job: calls of all kinds that fit, with ports 1 (out) and 2 (in).
func busy(r *rand.Rand, n int) []api.Instr {
	var code []api.Instr
	for len(code) < n {
		if r.IntN(3) == 0 && len(code)+3 <= n {
			port := oneOf(r, []int32{1, 15}, []int32{2, 16}, []int32{2, 19}, []int32{1, 19})
			code = append(code, set(1, port[0]), set(2, int32(r.IntN(3))), call(port[1]))
			continue
		}
		code = append(code, oneOf(r, nop, nop, call(api.CallNow), call(api.CallStatus), call(api.CallLog), set(1, int32(r.IntN(4))), api.Instr{Op: 7, A: 3, B: 3, C: 1}, api.Instr{Op: 6, A: 3, B: 9, Imm: 2}, api.Instr{Op: 5, A: 4, B: 9, Imm: 1}))
	}
	return code
}

// program is code from a place on whose jobs take so many instructions one after the other, and the place at which it is entered.
// Behind its last job it jumps back, which is the first instruction of the next one; where the first job has room for one instruction alone it does not come again.
func program(r *rand.Rand, place int, lengths []int) (code []api.Instr, entry int) {
	for i, n := range lengths {
		own := n - 1
		if i == 0 && n > 1 {
			own--
		}
		code = append(append(code, busy(r, own)...), wait)
	}
	if lengths[0] == 1 {
		return code, place
	}
	return append(code, api.Instr{Op: 22, Imm: int32(place)}), place + len(code)
}

// lengthsOf are lengths of jobs up to a Capacity, just that if all are to take it; of one that takes 1 as many as there are releases.
func lengthsOf(r *rand.Rand, p api.Proc, all bool, ticks int) []int {
	releases := ticks/p.Period + 2
	if p.Capacity == 1 {
		return slices.Repeat([]int{1}, releases)
	}
	if all {
		return []int{p.Capacity}
	}
	lengths := []int{2 + r.IntN(p.Capacity-1)}
	for range r.IntN(5) {
		lengths = append(lengths, 1+r.IntN(p.Capacity))
	}
	return lengths
}

// housed is an image by chance that fits and whose first partition has code for its jobs; with ports, and others that do all that they like.
func housed(t *testing.T, r *rand.Rand, all bool) (api.Image, int) {
	t.Helper()
	mustBeInTime := r.IntN(2) == 0
	for {
		x := anyImage(r)
		span, err := rta.Span(x, 1)
		if err != api.OK || span > 1000 {
			continue
		}
		p := &x.Parts[0]
		p.Code = nil
		for i := range p.Procs {
			q := &p.Procs[i]
			if q.Capacity > 1 && r.IntN(6) == 0 {
				q.Capacity *= 2
			}
			code, entry := program(r, len(p.Code), lengthsOf(r, *q, all, 4*span))
			q.Entry = entry
			p.Code = append(p.Code, code...)
		}
		if len(p.Code) > api.MaxCode {
			continue
		}
		if in, _ := rta.InTime(x, 1); mustBeInTime && !in {
			continue
		}
		p.Words, p.Health = 4, [api.Faults]int{}
		for i := range x.Parts[1:] {
			x.Parts[i+1] = wild(t, r, x.Parts[i+1].Server)
		}
		x.Ports = []api.Port{{Part: 1, Kind: api.Sampling, Out: true, Size: 2}, {Part: 1, Kind: api.Sampling, Size: 1, Refresh: 3}, {Part: len(x.Parts), Kind: api.Sampling, Out: true, Size: 1}, {Part: len(x.Parts), Kind: api.Sampling, Size: 2}}
		x.Channels = []api.Channel{{Kind: api.Sampling, From: 1, To: []int{4}}, {Kind: api.Sampling, From: 3, To: []int{2}}}
		if len(x.Parts) == 1 || r.IntN(2) == 0 {
			x.Channels[1].From = 0
		}
		if err := rta.Fits(x, 1); err != api.OK {
			t.Fatalf("it does not fit: %d\n%+v", err, x)
		}
		return x, span
	}
}

// wild is a partition that does anything: floods, faults, boots anew, idles, locks and loops.
func wild(t *testing.T, r *rand.Rand, s api.Server) api.Part {
	t.Helper()
	text := oneOf(r,
		"top: ldi r1 3\nldi r2 0\nsys 15\naddi r4 r4 1\nst r0 r4 0\njmp top",
		"ldi r1 1\nsys 13",
		"ldi r1 0\nsys 13",
		"ld r5 r0 99\njmp 0",
		"sys 10\ntop: jmp top",
		"ldi r1 3\nsys 2\nldi r1 4\nldi r2 0\nsys 16\nsys 14\njmp 0",
		"sys 27\nsys 27\nsys 99")
	code, err, line := asm.Assemble([]byte(text))
	if err != api.OK {
		t.Fatalf("line %d: %d", line, err)
	}
	p := api.Part{Server: s, Words: 2, Code: code, Procs: []api.Proc{{Auto: true, Priority: r.IntN(256)}, {Auto: true, Limit: 5}}}
	for kind := 1; kind < api.Faults; kind++ {
		p.Health[kind] = oneOf(r, api.ActIgnore, api.ActStop, api.ActRestartProc, api.ActRestart, api.ActIdle)
	}
	return p
}

// visits are inputs that wake others, and messages for the first partition if it is fed from outside.
func visits(r *rand.Rand, x api.Image, ticks int) []api.Input {
	var list []api.Input
	for tick := r.IntN(9); tick < ticks; tick += 1 + r.IntN(40) {
		if x.Channels[1].From == 0 && r.IntN(2) == 0 {
			list = append(list, api.Input{Tick: tick, Kind: api.InputMessage, Target: 2, Data: []int64{int64(tick)}})
		} else if len(x.Parts) > 1 {
			list = append(list, api.Input{Tick: tick, Kind: api.InputWake, Target: 2 + r.IntN(len(x.Parts)-1)})
		}
	}
	return list
}

// booted is a kernel of an image and inputs.
func booted(t *testing.T, x api.Image, inputs []api.Input, how int) *kernel.Kernel {
	t.Helper()
	b, err := imagebytes.Encode(x)
	if err != api.OK {
		t.Fatal(err)
	}
	s, err := scriptbytes.Encode(inputs)
	if err != api.OK {
		t.Fatal(err)
	}
	k, err := kernel.Boot(b, s, how)
	if err != api.OK {
		t.Fatal(err)
	}
	return k
}

// runs lets a kernel go on to a tick.
func runs(t *testing.T, k *kernel.Kernel, until int) {
	t.Helper()
	if err := k.Run(until, 1<<30); err != api.OK {
		t.Fatal(err)
	}
}

// failures counts the missed deadlines and the overruns of partition 1, and its faults, which there must be none of.
func failures(t *testing.T, what string, k *kernel.Kernel) int {
	t.Helper()
	n := 0
	for _, e := range k.Trace() {
		switch {
		case e.Part != 1:
		case e.Kind == api.EventMiss, e.Kind == api.EventOverrun:
			n++
		case e.Kind == api.EventFault:
			t.Fatalf("%s: a fault: %+v", what, e)
		}
	}
	return n
}

// measured lets a kernel go tick by tick, and tells the greatest response of each process of partition 1 that is done ahead of a tick.
func measured(t *testing.T, k *kernel.Kernel, until int) []int {
	t.Helper()
	state, _ := k.Part(1)
	before, greatest := state.Procs, make([]int, len(state.Procs))
	for now := range until {
		runs(t, k, now+1)
		state, _ = k.Part(1)
		for i, p := range state.Procs {
			if p.State == api.InPeriod && (before[i].State != api.InPeriod || before[i].Released != p.Released) {
				greatest[i] = max(greatest[i], now+1-p.Released)
			}
		}
		before = state.Procs
	}
	return greatest
}

// Where InTime is true no process of the kernel misses a deadline or overruns, in the play and beyond, whatever its jobs take up to their Capacity and whatever the others do (W6); nor is any response above Worst.
func TestW6_InTime(t *testing.T) {
	t.Parallel()
	in, late := 0, 0
	for seed := range uint64(250) {
		r := rand.New(rand.NewPCG(6, seed))
		what := fmt.Sprintf("seed %d", seed)
		x, span := housed(t, r, false)
		k := booted(t, x, visits(r, x, span), oneOf(r, api.Online, api.ByTable))
		ok, err := rta.InTime(x, 1)
		if err != api.OK {
			t.Fatal(err)
		}
		worst, _ := rta.Worst(x, 1)
		for i, got := range measured(t, k, span+span/2) {
			if worst[i] != api.Never && got > worst[i] {
				t.Fatalf("W6: %s: process %d takes %d ticks, its Worst is %d\n%+v", what, i+1, got, worst[i], x)
			}
		}
		runs(t, k, 4*span)
		if n := failures(t, what, k); ok && n > 0 {
			t.Fatalf("W6: %s: in time, with %d failures\n%+v", what, n, x)
		}
		if ok {
			in++
		} else {
			late++
		}
	}
	if min(in, late) < 80 {
		t.Errorf("%d in time, %d not", in, late)
	}
}

// Where each job takes just its Capacity the kernel is the play: the greatest responses are Worst, and it misses or overruns just if InTime is false.
func TestW6_TheKernelIsThePlay(t *testing.T) {
	t.Parallel()
	in, late := 0, 0
	for seed := range uint64(250) {
		r := rand.New(rand.NewPCG(66, seed))
		what := fmt.Sprintf("seed %d", seed)
		x, span := housed(t, r, true)
		k := booted(t, x, visits(r, x, span), oneOf(r, api.Online, api.ByTable))
		worst, err := rta.Worst(x, 1)
		if err != api.OK {
			t.Fatal(err)
		}
		for i, got := range measured(t, k, span) {
			if worst[i] != api.Never && got != worst[i] {
				t.Fatalf("W6: %s: process %d takes %d ticks, its Worst is %d\n%+v", what, i+1, got, worst[i], x)
			}
		}
		// The deadline of what is not done at the end of the play is in its next tick at the latest.
		runs(t, k, span+1)
		ok, _ := rta.InTime(x, 1)
		if n := failures(t, what, k); ok != (n == 0) {
			t.Fatalf("W6: %s: in time: %v, with %d failures\n%+v", what, ok, n, x)
		}
		runs(t, k, 4*span)
		if n := failures(t, what, k); ok != (n == 0) {
			t.Fatalf("W6: %s: in time: %v, with %d failures in four turns\n%+v", what, ok, n, x)
		}
		if ok {
			in++
		} else {
			late++
		}
	}
	if min(in, late) < 80 {
		t.Errorf("%d in time, %d not", in, late)
	}
}

// The chapter's example in the kernel, tick by tick.
func TestW6_Example(t *testing.T) {
	for capacity, want := range map[int][]int{3: {1, 6}, 4: {1, api.Never}} {
		x := chapter(capacity)
		p := &x.Parts[0]
		p.Code = slices.Repeat([]api.Instr{wait}, 20)
		p.Procs[1].Entry = len(p.Code) + capacity - 1
		// top: nop .., PERIODIC_WAIT; jmp top, from which on it begins.
		p.Code = append(p.Code, slices.Repeat([]api.Instr{nop}, capacity-2)...)
		p.Code = append(p.Code, wait, api.Instr{Op: 22, Imm: 20})
		tells(t, "the example", x, 1, 16, want[1] != api.Never, want...)
		for _, how := range []int{api.Online, api.ByTable} {
			k := booted(t, x, nil, how)
			got := measured(t, k, 16)
			runs(t, k, 100)
			n := failures(t, "the example", k)
			if capacity == 3 && (!slices.Equal(got, want) || n != 0) {
				t.Errorf("W6: %v with %d failures, want %v", got, n, want)
			}
			// At tick 8 the job of 0 has one instruction left: it misses its deadline there and overruns, has its last one at 9, and its next job at 16; so again at 24, 40, 56, 72, 88.
			if capacity == 4 && (!slices.Equal(got, []int{1, 10}) || n != 12) {
				t.Errorf("W6: %v with %d failures", got, n)
			}
		}
	}
}
