package flow_test

import (
	"fmt"
	"math/rand/v2"
	"slices"
	"testing"

	"bulkhead/api"
	"bulkhead/asm"
	"bulkhead/check"
	"bulkhead/flow"
	imagebytes "bulkhead/image"
	"bulkhead/kernel"
	scriptbytes "bulkhead/script"
	"bulkhead/trace"
)

// deeds are what a process may do again and again; the number in it is a port's.
func deeds() []string {
	return []string{
		"top: ldi r1 %d\nldi r2 0\nldi r3 5\nsys 17\naddi r4 r4 1\nst r0 r4 0\njmp top",       // SEND a count
		"top: ldi r1 %d\nldi r2 0\nldi r3 -1\nsys 18\nld r1 r0 0\nsys 14\njmp top",            // RECEIVE, and LOG what has come
		"top: ldi r1 %d\nldi r2 0\nsys 15\nld r4 r0 0\naddi r4 r4 1\nst r0 r4 0\njmp top",     // WRITE a count
		"top: ldi r1 %d\nldi r2 0\nsys 16\nld r1 r0 0\nsys 14\nldi r1 3\nsys 2\njmp top",      // READ, LOG and DELAY
		"top: sys 1\nldi r5 %d\nmov r1 r2\nsys 14\nldi r1 2\nsys 2\njmp top",                  // LOG the time
		"ldi r1 %d\nldi r2 1\nld r3 r2 99\njmp 0",                                             // a fault of the memory
		"top: addi r1 r1 %d\njmp top",                                                         // a loop
		"ldi r1 %d\nldi r1 1\nsys 13",                                                         // boots anew again and again
		"ldi r2 %d\nldi r1 0\nsys 13",                                                         // idles
		"top: ldi r1 %d\nldi r2 0\nldi r3 0\nsys 17\nsys 18\nsys 15\nsys 16\nsys 14\njmp top", // all at once, without waiting
	}
}

// worker is a partition that does something by chance with ports of its own, or with any.
func worker(r *rand.Rand, t *testing.T, number int, x api.Image) api.Part {
	t.Helper()
	p := api.Part{Words: 4, Init: []int64{int64(r.IntN(9))}}
	for kind := 1; kind < api.Faults; kind++ {
		p.Health[kind] = oneOf(r, []int{api.ActIgnore, api.ActStop, api.ActRestartProc, api.ActRestart, api.ActIdle})
	}
	for range 1 + r.IntN(3) {
		port := 1 + r.IntN(len(x.Ports))
		for range 20 {
			if x.Ports[port-1].Part != number {
				port = 1 + r.IntN(len(x.Ports))
			}
		}
		code, err, line := asm.Assemble([]byte(fmt.Sprintf(oneOf(r, deeds()), port)))
		if err != api.OK {
			t.Fatalf("line %d: %d", line, err)
		}
		// Places in code are counted from 0: what jumps is moved behind what there is.
		for i := range code {
			if code[i].Op == opJmp {
				code[i].Imm += int32(len(p.Code))
			}
		}
		p.Procs = append(p.Procs, api.Proc{Entry: len(p.Code), Priority: r.IntN(3), Auto: true})
		p.Code = append(p.Code, code...)
	}
	return p
}

const opJmp = 22

// workshop is an image that may be booted, whose partitions do something by chance.
func workshop(r *rand.Rand, t *testing.T) api.Image {
	t.Helper()
	n := 2 + r.IntN(4)
	x := api.Image{Parts: make([]api.Part, n)}
	for range 3 + r.IntN(5) {
		kind := oneOf(r, []int{api.Sampling, api.Queuing, api.Queuing})
		port := func(out bool) int {
			p := api.Port{Part: 1 + r.IntN(n), Kind: kind, Out: out, Size: 1}
			if kind == api.Queuing {
				p.Depth = 1 + r.IntN(2)
			}
			x.Ports = append(x.Ports, p)
			return len(x.Ports)
		}
		c := api.Channel{Kind: kind}
		if r.IntN(4) > 0 {
			c.From = port(true)
			if kind == api.Queuing {
				c.Period = 1 + r.IntN(9)
			}
		}
		for range 1 + r.IntN(2) {
			c.To = append(c.To, port(false))
		}
		x.Channels = append(x.Channels, c)
	}
	for i := range x.Parts {
		x.Parts[i] = worker(r, t, i+1, x)
		x.Parts[i].Server = api.Server{Period: 10, Budget: 1 + r.IntN(4), Offset: r.IntN(10), Priority: i}
	}
	if err, number := check.Check(x); err != api.OK {
		t.Fatalf("it may not be: %d, %d", err, number)
	}
	return x
}

// visits are inputs for an image.
func visits(r *rand.Rand, x api.Image, ticks int) []api.Input {
	var list []api.Input
	for tick := r.IntN(9); tick < ticks; tick += r.IntN(25) {
		c := 1 + r.IntN(len(x.Channels))
		if x.Channels[c-1].From == 0 {
			list = append(list, message(tick, c, int64(r.IntN(90))))
		} else if r.IntN(6) == 0 {
			list = append(list, wake(tick, 1+r.IntN(len(x.Parts))))
		}
	}
	return list
}

// runOf is a kernel of an image and its inputs, run to a tick.
func runOf(t *testing.T, x api.Image, inputs []api.Input, mode, ticks int) *kernel.Kernel {
	t.Helper()
	b, err := imagebytes.Encode(x)
	if err != api.OK {
		t.Fatal(err)
	}
	s, err := scriptbytes.Encode(inputs)
	if err != api.OK {
		t.Fatal(err)
	}
	k, err := kernel.Boot(b, s, mode)
	if err != api.OK {
		t.Fatal(err)
	}
	if err := k.Run(ticks, 1<<30); err != api.OK {
		t.Fatal(err)
	}
	return k
}

// sees is all that a partition sees of a run: its events, its state, and the ticks that it occupies.
func sees(t *testing.T, k *kernel.Kernel, part, ticks int) string {
	t.Helper()
	state, err := k.Part(part)
	if err != api.OK {
		t.Fatal(err)
	}
	var own []int
	for tick := range ticks {
		if who, _ := k.Occupant(tick); who == part {
			own = append(own, tick)
		}
	}
	return told(trace.Project(k.Trace(), part)) + told(state) + told(own)
}

// Where two images and their inputs are alike for a partition, it sees the same in both runs, whatever the others are and do (W4); and it is not for want of differences.
func TestW4_WhatIsAlikeIsSeenAlike(t *testing.T) {
	t.Parallel()
	const ticks = 300
	alike, unlike := 0, 0
	for seed := range uint64(150) {
		r := rand.New(rand.NewPCG(424, seed))
		x := workshop(r, t)
		y := copyOf(x)
		for i := range y.Parts {
			if r.IntN(3) == 0 {
				y.Parts[i] = worker(r, t, i+1, x)
				y.Parts[i].Server = x.Parts[i].Server
			}
		}
		a := visits(r, x, ticks)
		b := slices.DeleteFunc(copyOf(a), func(api.Input) bool { return r.IntN(9) == 0 })
		k, l := runOf(t, x, a, api.Online, ticks), runOf(t, y, b, api.ByTable, ticks)
		for part := 1; part <= len(x.Parts); part++ {
			images, err := flow.Alike(x, y, part)
			inputs, inputsErr := flow.AlikeInputs(x, a, b, part)
			if err != api.OK || inputsErr != api.OK {
				t.Fatal(err, inputsErr)
			}
			first, second := sees(t, k, part, ticks), sees(t, l, part, ticks)
			if images && inputs && first != second {
				t.Fatalf("seed %d: partition %d sees\n%s\nand\n%s", seed, part, first, second)
			}
			if images && inputs && told(x)+told(a) != told(y)+told(b) {
				alike++
			}
			if first != second {
				unlike++
			}
		}
	}
	if alike < 50 || unlike < 50 {
		t.Errorf("%d alike beside others, %d that see something else", alike, unlike)
	}
}
