package health_test

import (
	"math"
	"math/rand/v2"
	"testing"

	"bulkhead/api"
	"bulkhead/health"
)

const (
	top    = math.MaxInt
	bottom = math.MinInt
)

// kinds are the kinds of faults.
var kinds = []int{1, 2, 3, 4, 5, 6, 7}

// noKinds are numbers that are no kind of fault.
var noKinds = []int{bottom, bottom + 1, -8, -2, -1, 0, 8, 9, 16, 256 + 1, 1<<32 + 1, top - 1, top}

// actions are the actions.
var actions = []int{0, 1, 2, 3, 4, 5}

// noActions are numbers that are none of the actions.
var noActions = []int{bottom, bottom + 1, -6, -3, -2, -1, 6, 7, 8, 256, 256 + 3, 1 << 32, 1<<32 + 3, top - 1, top}

// both are all numbers of two lists.
func both(a, b []int) []int {
	return append(append([]int{}, a...), b...)
}

// The verdicts that an entry of the table leads to, written out: one letter for each of the entries 0 to 5, and a last one for what is none of them. I: ignore, S: stop, R: restart of the process, H: the handler, B: the partition boots anew, D: it idles.
const (
	alone     = "ISRSBDS" // there is no handler
	free      = "ISRHBDS" // it is not at work
	busily    = "ISRIBDS" // it is
	aloneCode = "SSRSBDS" // the same at FaultCode
	freeCode  = "SSRHBDS"
	busyCode  = "SSRSBDS"
)

// letters are the row of a kind of fault.
func letters(code, has, busy bool) string {
	switch {
	case code && !has:
		return aloneCode
	case code && busy:
		return busyCode
	case code:
		return freeCode
	case !has:
		return alone
	case busy:
		return busily
	}
	return free
}

// judge is a second reading of Judge, by the rows of letters; who is there is counted one by one.
func judge(p api.Part, kind, proc int, busy bool) health.Verdict {
	there, has := false, false
	for i := range p.Procs {
		there = there || i+1 == proc
		has = has || i+1 == p.Handler
	}
	entry, known := 6, false
	for _, k := range kinds {
		if k == kind {
			known = true
			for _, a := range actions {
				if p.Health[k] == a {
					entry = a
				}
			}
		}
	}
	if !there || !known {
		return health.Verdict{}
	}
	if has && proc == p.Handler {
		return health.Verdict{Action: 4, Proc: 0}
	}
	return map[byte]health.Verdict{
		'I': {Action: 0, Proc: proc},
		'S': {Action: 1, Proc: proc},
		'R': {Action: 2, Proc: proc},
		'H': {Action: 3, Proc: p.Handler},
		'B': {Action: 4, Proc: 0},
		'D': {Action: 5, Proc: 0},
	}[letters(kind == 4, has, busy)[entry]]
}

// goes is a second reading of Goes: what is told of each action of one's own, and of another process's.
func goes(v health.Verdict, proc int) (bool, bool) {
	row, ok := map[int]struct{ own, other, ends bool }{
		0: {true, true, false},
		1: {false, true, false},
		2: {false, true, false},
		3: {true, true, false},
		4: {false, false, true},
		5: {false, false, true},
	}[v.Action]
	switch {
	case !ok:
		return false, false
	case v.Proc == proc:
		return row.own, row.ends
	}
	return row.other, row.ends
}

// valid is a second reading of Valid.
func valid(table [api.Faults]int) bool {
	good := 0
	for k, entry := range table {
		for _, a := range actions {
			if entry == a && (k != 0 || a == 0) {
				good++
			}
		}
	}
	return good == api.Faults
}

// holds wants Judge to tell what the second reading tells.
func holds(t *testing.T, what string, p api.Part, kind, proc int, busy bool) {
	t.Helper()
	if got, want := health.Judge(p, kind, proc, busy), judge(p, kind, proc, busy); got != want {
		t.Fatalf("%s: %d processes, handler %d, table %v: Judge(%d, %d, %v) = %v, want %v", what, len(p.Procs), p.Handler, p.Health, kind, proc, busy, got, want)
	}
}

// holdsGoes wants Goes to tell what the second reading tells.
func holdsGoes(t *testing.T, v health.Verdict, proc int) {
	t.Helper()
	on, ends := health.Goes(v, proc)
	if wantOn, wantEnds := goes(v, proc); on != wantOn || ends != wantEnds {
		t.Fatalf("Goes(%v, %d) = %v, %v, want %v, %v", v, proc, on, ends, wantOn, wantEnds)
	}
}

// procsOf are the numbers around those of the processes that a partition has: the first, the last and some that are not there.
func procsOf(count int) []int {
	return []int{bottom, bottom + 1, -count - 1, -count, -2, -1, 0, 1, 2, 3, count - 1, count, count + 1, count + 2, 256 + 1, 1<<32 + 1, top - 1, top}
}

// partition is one with so many processes, a handler, and the same action for each kind of fault.
func partition(count, handler, action int) api.Part {
	p := api.Part{Procs: make([]api.Proc, count), Handler: handler}
	for _, kind := range kinds {
		p.Health[kind] = action
	}
	return p
}

func oneOf[T any](r *rand.Rand, list []T) T { return list[r.IntN(len(list))] }

// anyNumber is a number of any length, small ones more often.
func anyNumber(r *rand.Rand) int {
	n := int(r.Uint64() >> r.IntN(64))
	return oneOf(r, []int{n, n & 15, n & 7, -n, bottom + n&7, top - n&7})
}

// anyTable is a health table, with entries that are none of the actions only where it is to be wild.
func anyTable(r *rand.Rand, wild bool) [api.Faults]int {
	var table [api.Faults]int
	for kind := range table {
		if kind > 0 {
			table[kind] = oneOf(r, actions)
		}
		if wild && r.IntN(3) == 0 {
			table[kind] = oneOf(r, both(noActions, []int{1, 3, anyNumber(r)}))
		}
	}
	return table
}

// anyPart is a partition of any sort: what else it has may be ill-made, too much or too little.
func anyPart(r *rand.Rand, wild bool) api.Part {
	count := oneOf(r, []int{0, 1, 2, 3, 5, 15, 16, 17, 40})
	p := api.Part{Server: api.Server{Period: anyNumber(r), Budget: anyNumber(r), Offset: anyNumber(r), Priority: anyNumber(r)}, Words: anyNumber(r), Fixed: anyNumber(r)}
	for range count {
		p.Procs = append(p.Procs, api.Proc{Entry: anyNumber(r), Priority: anyNumber(r), Period: anyNumber(r), Limit: anyNumber(r), Capacity: anyNumber(r), Auto: r.IntN(2) == 0})
	}
	for range r.IntN(4) {
		p.Init = append(p.Init, int64(anyNumber(r)))
		p.Code = append(p.Code, api.Instr{Op: byte(r.Uint32()), Imm: int32(r.Uint32())})
		p.Sems = append(p.Sems, api.Sem{Start: anyNumber(r), Max: anyNumber(r)})
		p.Events = append(p.Events, r.IntN(2) == 0)
		p.Buffers = append(p.Buffers, api.Buffer{Size: anyNumber(r), Depth: anyNumber(r)})
	}
	p.Handler = oneOf(r, []int{0, 1, 1 + r.IntN(count+1), 1 + r.IntN(count+1), count, count, count + 1, -count, anyNumber(r)})
	p.Health = anyTable(r, wild)
	return p
}
