package rta_test

import (
	"fmt"
	"math/rand/v2"
	"slices"
	"testing"

	"bulkhead/api"
	"bulkhead/rta"
)

// order holds two answers for a process against each other; Never is the greatest.
func order(a, b int) int {
	if a == api.Never {
		a = top
	}
	if b == api.Never {
		b = top
	}
	return a - b
}

// worstOK is Worst of a partition that fits.
func worstOK(t *testing.T, what string, x api.Image, part int) []int {
	t.Helper()
	worst, err := rta.Worst(x, part)
	if err != api.OK {
		t.Fatalf("%s: %d\n%+v", what, err, x)
	}
	return worst
}

// fitting is an image by chance of which the first partition fits.
func fitting(t *testing.T, seed, stream uint64) (*rand.Rand, api.Image) {
	t.Helper()
	for r := rand.New(rand.NewPCG(seed, stream)); ; {
		x := anyImage(r)
		if rta.Fits(x, 1) == api.OK {
			return r, x
		}
	}
}

// responses plays so many ticks with jobs of as many instructions as takes says, and wants no response above the worst; it answers the greatest ones.
func responses(t *testing.T, what string, x api.Image, ticks int, worst []int, takes func(i int) int) []int {
	t.Helper()
	procs := x.Parts[0].Procs
	records, greatest := make([]record, len(procs)), make([]int, len(procs))
	c := clockOf(x)
	for now := range ticks {
		playTick(procs, records, now, c.tick() == 1, takes)
		for i := range records {
			j := *records[i].last()
			response := j.end - j.released
			if j.left > 0 {
				response = now + 1 - j.released + 1 // it goes on behind this tick
			} else {
				greatest[i] = max(greatest[i], response)
			}
			if worst[i] != api.Never && response > worst[i] {
				t.Fatalf("P25.5: %s: the job of process %d that is released at %d takes %d ticks, its Worst is %d\n%+v", what, i+1, j.released, response, worst[i], x)
			}
			// Nothing of older jobs counts any more.
			records[i].jobs = records[i].jobs[len(records[i].jobs)-1:]
		}
	}
	return greatest
}

// Whatever the jobs take, up to their Capacity, none is longer than Worst, in the play and far beyond; with just their Capacity they are so long in the play.
func TestP25_5_NoneIsLonger(t *testing.T) {
	t.Parallel()
	never, reached := 0, 0
	for seed := range uint64(400) {
		r, x := fitting(t, 255, seed)
		what := fmt.Sprintf("seed %d", seed)
		procs := x.Parts[0].Procs
		worst := worstOK(t, what, x, 1)
		span, _ := rta.Span(x, 1)
		full := func(i int) int { return procs[i].Capacity }
		for i, got := range responses(t, what+", all", x, span, worst, full) {
			if worst[i] == api.Never {
				never++
			} else if got != worst[i] {
				t.Fatalf("%s: process %d takes %d ticks at most, its Worst is %d", what, i+1, got, worst[i])
			} else {
				reached++
			}
		}
		responses(t, what+", all, beyond", x, 2*span+span/2, worst, full)
		responses(t, what+", any", x, 3*span, worst, func(i int) int { return 1 + r.IntN(procs[i].Capacity) })
		responses(t, what+", one", x, 2*span, worst, func(int) int { return 1 })
		responses(t, what+", one or all", x, 3*span, worst, func(i int) int { return oneOf(r, 1, procs[i].Capacity) })
		one := r.IntN(len(procs))
		responses(t, what+", all but one", x, 2*span, worst, func(i int) int {
			if i == one {
				return 1 + r.IntN(procs[i].Capacity)
			}
			return procs[i].Capacity
		})
	}
	if min(never, reached) < 200 {
		t.Errorf("%d processes are Never, %d are not", never, reached)
	}
}

// Worst of a process hangs on those alone whose Priority is not below its own: the others may be any, more, less, or none.
func TestP25_5_OnlyThoseAboveCount(t *testing.T) {
	t.Parallel()
	turned := 0
	for seed := range uint64(700) {
		r, x := fitting(t, 552, seed)
		what := fmt.Sprintf("seed %d", seed)
		procs := x.Parts[0].Procs
		worst := worstOK(t, what, x, 1)
		for _, p := range procs {
			var kept []api.Proc
			var places []int
			for k, q := range procs {
				if q.Priority >= p.Priority {
					kept, places = append(kept, q), append(places, k)
				}
			}
			y := x
			y.Parts = slices.Clone(x.Parts)
			y.Parts[0].Procs = kept
			for n, w := range worstOK(t, what, y, 1) {
				if w != worst[places[n]] {
					t.Fatalf("P25.5: %s: alone, process %d has %d, else %d\n%+v", what, places[n]+1, w, worst[places[n]], x)
				}
			}
			// Others below, at any place in the list.
			all := slices.Clone(kept)
			for n := range min(p.Priority, r.IntN(5)) {
				low := oneOf(r, anyProcs(r)...)
				low.Priority, low.Capacity = n, oneOf(r, 1, 7, 900, 1<<31-1)
				all = slices.Insert(all, r.IntN(len(all)+1), low)
			}
			y.Parts[0].Procs = all
			if rta.Fits(y, 1) != api.OK {
				continue
			}
			turned++
			got := worstOK(t, what, y, 1)
			for n, q := range kept {
				if at := slices.Index(all, q); got[at] != worst[places[n]] {
					t.Fatalf("P25.5: %s: with others below, process %d has %d, else %d\n%+v\n%+v", what, places[n]+1, got[at], worst[places[n]], x, y)
				}
			}
		}
	}
	if turned < 1000 {
		t.Errorf("%d times others below", turned)
	}
}

// A greater Capacity, anywhere, makes no Worst less, and is nothing to those above.
func TestP25_5_MoreIsNoSooner(t *testing.T) {
	t.Parallel()
	greater, same := 0, 0
	for seed := range uint64(700) {
		r, x := fitting(t, 525, seed)
		what := fmt.Sprintf("seed %d", seed)
		worst := worstOK(t, what, x, 1)
		for range 8 {
			y := x
			y.Parts = slices.Clone(x.Parts)
			y.Parts[0].Procs = slices.Clone(x.Parts[0].Procs)
			at := r.IntN(len(y.Parts[0].Procs))
			p := &y.Parts[0].Procs[at]
			p.Capacity = min(oneOf(r, p.Capacity+1, p.Capacity+1, p.Capacity+2, p.Capacity+1+r.IntN(20), 1<<31-1), 1<<31-1)
			got := worstOK(t, what, y, 1)
			for i, q := range y.Parts[0].Procs {
				switch {
				case order(got[i], worst[i]) < 0:
					t.Fatalf("P25.5: %s: with more for process %d, %d has %d, else %d\n%+v", what, at+1, i+1, got[i], worst[i], x)
				case q.Priority > p.Priority && got[i] != worst[i]:
					t.Fatalf("P25.5: %s: with more for process %d, %d above it has %d, else %d\n%+v", what, at+1, i+1, got[i], worst[i], x)
				case got[i] == worst[i]:
					same++
				default:
					greater++
				}
			}
			if in, _ := rta.InTime(x, 1); !in {
				if more, _ := rta.InTime(y, 1); more {
					t.Fatalf("P25.5: %s: in time, with more to do", what)
				}
			}
			if r.IntN(2) == 0 {
				x, worst = y, got
			}
		}
	}
	if min(greater, same) < 500 {
		t.Errorf("%d have grown, %d not", greater, same)
	}
}

// Processes in another order have the same answers in that order; memory, objects, entries, health, other partitions' processes and servers of a lower Priority count for nothing.
func TestP25_2_WhatCountsForNothing(t *testing.T) {
	t.Parallel()
	for seed := range uint64(400) {
		r, x := fitting(t, 522, seed)
		what := fmt.Sprintf("seed %d", seed)
		worst := worstOK(t, what, x, 1)
		y := x
		y.Parts = slices.Clone(x.Parts)
		p := &y.Parts[0]
		turn := r.Perm(len(worst))
		p.Procs = nil
		for _, i := range turn {
			p.Procs = append(p.Procs, x.Parts[0].Procs[i])
		}
		p.Code = []api.Instr{{Op: 27, Imm: 3}, {Op: 22, Imm: 0}, {Op: 5, A: 1, Imm: 99}}
		for i := range p.Procs {
			p.Procs[i].Entry = r.IntN(3)
			p.Procs[i].Limit = 1 + r.IntN(p.Procs[i].Period)
		}
		p.Words, p.Init, p.Sems, p.Events = 7, []int64{1}, []api.Sem{{Max: 1}}, []bool{true}
		p.Health = [api.Faults]int{0, 5, 4, 3, 2, 1, 0, 5}
		y.Ports = []api.Port{{Part: 1, Kind: api.Sampling, Size: 1}}
		for i := range y.Parts[1:] {
			y.Parts[i+1].Code, y.Parts[i+1].Procs = []api.Instr{{}}, []api.Proc{{}}
			if s := &y.Parts[i+1].Server; s.Priority < p.Server.Priority {
				s.Budget, s.Offset = 1+r.IntN(s.Period), r.IntN(s.Period)
			}
		}
		got := worstOK(t, what, y, 1)
		for n, i := range turn {
			if got[n] != worst[i] {
				t.Fatalf("%s: process %d has %d, at another place %d\n%+v\n%+v", what, i+1, worst[i], got[n], x, y)
			}
		}
	}
}
