package health_test

import (
	"math/rand/v2"
	"reflect"
	"testing"

	"bulkhead/api"
	"bulkhead/health"
)

// piece is a list cut out of a longer one, with room behind it; and the longer one.
func piece[T any](list []T, around T) ([]T, []T) {
	whole := append([]T{around, around}, list...)
	whole = append(whole, around, around, around)
	return whole[2 : 2+len(list)], whole
}

// handed is a partition, each list of which is cut out of a longer one; and the longer ones.
type handed struct {
	p       api.Part
	words   []int64
	code    []api.Instr
	procs   []api.Proc
	sems    []api.Sem
	events  []bool
	buffers []api.Buffer
}

func handIn(p api.Part) *handed {
	h := &handed{p: p}
	h.p.Init, h.words = piece(p.Init, 77)
	h.p.Code, h.code = piece(p.Code, api.Instr{Op: 7, Imm: 77})
	h.p.Procs, h.procs = piece(p.Procs, api.Proc{Entry: 7, Priority: 77, Auto: true})
	h.p.Sems, h.sems = piece(p.Sems, api.Sem{Start: 7, Max: 77})
	h.p.Events, h.events = piece(p.Events, true)
	h.p.Buffers, h.buffers = piece(p.Buffers, api.Buffer{Size: 7, Depth: 77})
	return h
}

// TestArgumentsAreLeft (P19.1): the partition that is handed in is left as it is, its lists' spare room too; and what stands in the spare room counts for nothing.
func TestArgumentsAreLeft(t *testing.T) {
	r := rand.New(rand.NewPCG(19, 7))
	for i := range 1000 {
		p := anyPart(r, i%2 == 0)
		h := handIn(p)
		for _, kind := range append(both(kinds, noKinds), anyNumber(r)) {
			for _, proc := range append(procsOf(len(p.Procs)), p.Handler, anyNumber(r)) {
				for _, busy := range workings {
					holds(t, "handed in", h.p, kind, proc, busy)
				}
			}
		}
		if !reflect.DeepEqual(h, handIn(p)) {
			t.Fatalf("what was handed in has changed: %v", h)
		}
	}
}

// TestTableIsLeft (P19.1): the table that is handed in is left as it is.
func TestTableIsLeft(t *testing.T) {
	r := rand.New(rand.NewPCG(19, 8))
	for i := range 1000 {
		p := anyPart(r, i%2 == 0)
		was := p.Health
		health.Valid(p.Health)
		health.Judge(p, api.FaultCode, p.Handler, true)
		if p.Health != was {
			t.Fatalf("the table has changed: %v, was %v", p.Health, was)
		}
	}
}

// TestNothingIsKept (P19.1): what is told hangs on what is handed in alone: not on what was asked before, nor on what is done to an answer.
func TestNothingIsKept(t *testing.T) {
	r := rand.New(rand.NewPCG(19, 9))
	for range 2000 {
		p, q := anyPart(r, true), anyPart(r, true)
		kind, proc := oneOf(r, kinds), 1+r.IntN(len(p.Procs)+1)
		first := health.Judge(p, kind, proc, false)
		kept := first
		args := health.Args(kind, proc, 5)
		args[2] = 99
		health.Judge(q, kind, proc, true)
		health.Judge(p, kind, proc, true)
		for i := range p.Procs {
			p.Procs[i].Auto = !p.Procs[i].Auto
		}
		if again := health.Judge(p, kind, proc, false); again != kept || first != kept {
			t.Fatalf("fault %d of %d: %v, and then %v", kind, proc, kept, again)
		}
		if got := health.Args(kind, proc, 5); got == args {
			t.Fatalf("Args(%d, %d, 5) = %v", kind, proc, got)
		}
	}
}

// TestNilAndEmpty (P19.2): no list of processes and an empty one are the same.
func TestNilAndEmpty(t *testing.T) {
	for _, handler := range []int{bottom, -1, 0, 1, top} {
		for _, kind := range both(kinds, noKinds) {
			for _, proc := range procsOf(0) {
				for _, list := range [][]api.Proc{nil, {}, make([]api.Proc, 0, 5)} {
					p := partition(0, handler, api.ActHandler)
					p.Procs = list
					judgesAlways(t, p, kind, proc, 0, 0)
				}
			}
		}
	}
}
