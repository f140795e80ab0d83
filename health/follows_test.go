package health_test

import (
	"math/rand/v2"
	"testing"

	"bulkhead/api"
	"bulkhead/health"
)

// isHandler tells whether a number is that of a partition's handler.
func isHandler(p api.Part, proc int) bool {
	return proc == p.Handler && proc >= 1 && proc <= len(p.Procs)
}

// known tells whether a fault is one: its kind and its process are there.
func known(p api.Part, kind, proc int) bool {
	return kind >= 1 && kind <= 7 && proc >= 1 && proc <= len(p.Procs)
}

// follows wants of a verdict what P19.7 says, and tells whether it had to be the table's own action.
func follows(t *testing.T, p api.Part, kind, proc int, busy bool) bool {
	t.Helper()
	v := health.Judge(p, kind, proc, busy)
	if v.Proc != 0 && v.Proc != proc && !isHandler(p, v.Proc) {
		t.Fatalf("%v: fault %d of %d: %v names another process", p, kind, proc, v)
	}
	if v.Proc < 0 || v.Proc > len(p.Procs) {
		t.Fatalf("%v: fault %d of %d: %v names nobody", p, kind, proc, v)
	}
	if v.Action == api.ActHandler && (busy || isHandler(p, proc) || !isHandler(p, v.Proc)) {
		t.Fatalf("%v: fault %d of %d, %v: %v starts the handler", p, kind, proc, busy, v)
	}
	if !known(p, kind, proc) {
		if v != (health.Verdict{}) {
			t.Fatalf("%v: fault %d of %d: %v", p, kind, proc, v)
		}
		return false
	}
	if kind == api.FaultCode && v.Action == api.ActIgnore {
		t.Fatalf("%v: fault %d of %d: %v", p, kind, proc, v)
	}
	on, ends := health.Goes(v, proc)
	if whole := v.Action == api.ActRestart || v.Action == api.ActIdle; ends != whole || whole != (v.Proc == 0) || on && ends {
		t.Fatalf("%v: fault %d of %d: %v: Goes = %v, %v", p, kind, proc, v, on, ends)
	}
	if !plain(p.Health) || isHandler(p, proc) {
		return false
	}
	if v.Action != p.Health[kind] {
		t.Fatalf("%v: fault %d of %d: %v is not the table's own action", p, kind, proc, v)
	}
	return true
}

// plain tells whether a table is Valid and has neither ActHandler nor, for FaultCode, ActIgnore.
func plain(table [api.Faults]int) bool {
	for _, kind := range kinds {
		if table[kind] == api.ActHandler {
			return false
		}
	}
	return health.Valid(table) && table[api.FaultCode] != api.ActIgnore
}

// workings: the handler is not at work, or it is.
var workings = []bool{false, true}

// TestEveryOne (P19.2, P19.7): every kind with every entry, every handler, every process and at both sides of busy, beside the second reading.
func TestEveryOne(t *testing.T) {
	for _, count := range []int{0, 1, 2, 3, api.MaxProcs, api.MaxProcs + 1, 50} {
		for _, handler := range procsOf(count) {
			for _, action := range both(actions, noActions) {
				p := partition(count, handler, action)
				for _, kind := range both(kinds, noKinds) {
					for _, proc := range procsOf(count) {
						for _, busy := range workings {
							holds(t, "every one", p, kind, proc, busy)
							follows(t, p, kind, proc, busy)
						}
					}
				}
			}
		}
	}
}

// TestManyParts (P19.1, P19.2, P19.7): partitions by chance, well-made tables and others, beside the second reading. None panics.
func TestManyParts(t *testing.T) {
	r := rand.New(rand.NewPCG(19, 1))
	started, own := 0, 0
	for i := range 20000 {
		p := anyPart(r, i%2 == 0)
		if i%4 == 1 {
			tame(r, &p.Health)
		}
		for _, kind := range append(both(kinds, nil), 0, 8, anyNumber(r)) {
			for _, proc := range []int{p.Handler, 1, 1 + r.IntN(len(p.Procs)+1), len(p.Procs), len(p.Procs) + 1, anyNumber(r)} {
				for _, busy := range workings {
					holds(t, "by chance", p, kind, proc, busy)
					if follows(t, p, kind, proc, busy) {
						own++
					}
					if health.Judge(p, kind, proc, busy).Action == api.ActHandler {
						started++
					}
				}
			}
		}
	}
	if started < 10000 || own < 50000 {
		t.Errorf("the handler is started %d times, the table's own action told %d times", started, own)
	}
}

// tame makes a well-made table one that P19.7 speaks of last.
func tame(r *rand.Rand, table *[api.Faults]int) {
	for _, kind := range kinds {
		for table[kind] == api.ActHandler || kind == api.FaultCode && table[kind] == api.ActIgnore {
			table[kind] = oneOf(r, actions)
		}
	}
}

// TestManyNumbers (P19.3 to P19.6): the other calls beside a second reading, with numbers by chance. None panics.
func TestManyNumbers(t *testing.T) {
	r := rand.New(rand.NewPCG(19, 2))
	for range 50000 {
		v := health.Verdict{Action: anyNumber(r), Proc: anyNumber(r)}
		holdsGoes(t, v, anyNumber(r))
		holdsGoes(t, v, v.Proc)
		v.Action = oneOf(r, actions)
		holdsGoes(t, v, anyNumber(r))
		holdsGoes(t, v, v.Proc)
		kind, proc, pc := anyNumber(r), anyNumber(r), anyNumber(r)
		if name, ok := health.Name(kind); ok != (kind >= 1 && kind <= 7) || ok != (name != "") {
			t.Fatalf("Name(%d) = %q, %v", kind, name, ok)
		}
		if got, want := health.Args(kind, proc, pc), ([3]int64{int64(kind), int64(proc), int64(pc)}); kind != 7 && got != want {
			t.Fatalf("Args(%d, %d, %d) = %v", kind, proc, pc, got)
		}
		if got := health.Args(7, proc, pc); got != [3]int64{7, int64(proc), -1} {
			t.Fatalf("Args(7, %d, %d) = %v", proc, pc, got)
		}
	}
}

// TestManyTables (P19.5): Valid beside the second reading, with tables by chance.
func TestManyTables(t *testing.T) {
	r := rand.New(rand.NewPCG(19, 3))
	good, bad := 0, 0
	for i := range 50000 {
		table := anyTable(r, i%2 == 0)
		if i%5 == 0 {
			table[r.IntN(api.Faults)] = anyNumber(r)
		}
		want := valid(table)
		if got := health.Valid(table); got != want {
			t.Fatalf("Valid(%v) = %v", table, got)
		}
		if want {
			good++
		} else {
			bad++
		}
	}
	if good < 10000 || bad < 10000 {
		t.Errorf("%d tables may be, %d may not", good, bad)
	}
}

// TestVerdictsAreActions (P19.7): whatever stands in the table, a verdict's action is one of the six, and each of them is told.
func TestVerdictsAreActions(t *testing.T) {
	r := rand.New(rand.NewPCG(19, 4))
	seen := map[int]int{}
	for i := range 20000 {
		p := anyPart(r, i%2 == 0)
		for _, kind := range kinds {
			for proc := range len(p.Procs) + 2 {
				v := health.Judge(p, kind, proc, i%3 == 0)
				if v.Action < api.ActIgnore || v.Action > api.ActIdle {
					t.Fatalf("%v: fault %d of %d: %v", p, kind, proc, v)
				}
				seen[v.Action]++
			}
		}
	}
	for _, action := range actions {
		if seen[action] < 1000 {
			t.Errorf("action %d was told %d times", action, seen[action])
		}
	}
}

// TestNothingElseCounts (P19.2): a verdict goes by the number of processes, the handler and the fault's own entry alone: what else the partition has, its processes' own fields and the other entries may be any.
func TestNothingElseCounts(t *testing.T) {
	r := rand.New(rand.NewPCG(19, 5))
	for range 5000 {
		p := anyPart(r, true)
		for _, kind := range kinds {
			bare := api.Part{Procs: make([]api.Proc, len(p.Procs)), Handler: p.Handler}
			bare.Health[kind] = p.Health[kind]
			for _, proc := range []int{p.Handler, 1, len(p.Procs), 1 + r.IntN(len(p.Procs)+1)} {
				for _, busy := range workings {
					if got, want := health.Judge(p, kind, proc, busy), health.Judge(bare, kind, proc, busy); got != want {
						t.Fatalf("%v: fault %d of %d, %v: %v, of a bare one %v", p, kind, proc, busy, got, want)
					}
				}
			}
		}
	}
}

// TestOthersGoOn (W8, P19.7): where the partition's life does not end, a fault halts no process but the one that failed.
func TestOthersGoOn(t *testing.T) {
	r := rand.New(rand.NewPCG(19, 6))
	for i := range 5000 {
		p := anyPart(r, i%2 == 0)
		for _, kind := range kinds {
			for proc := 1; proc <= len(p.Procs); proc++ {
				v := health.Judge(p, kind, proc, i%3 == 0)
				for other := 1; other <= len(p.Procs); other++ {
					on, ends := health.Goes(v, other)
					if other != proc && on == ends {
						t.Fatalf("%v: fault %d of %d: %v: Goes of %d = %v, %v", p, kind, proc, v, other, on, ends)
					}
				}
			}
		}
	}
}
