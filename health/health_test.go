package health_test

import (
	"testing"

	"bulkhead/api"
	"bulkhead/check"
	"bulkhead/health"
)

// chapter is the partition of the chapter's examples.
func chapter() api.Part {
	return api.Part{Procs: make([]api.Proc, 3), Handler: 3, Health: [api.Faults]int{
		api.FaultIllegal: api.ActIgnore,
		api.FaultMemory:  api.ActStop,
		api.FaultDivide:  api.ActRestartProc,
		api.FaultCode:    api.ActIgnore,
		api.FaultService: api.ActIdle,
		api.FaultRaised:  api.ActHandler,
		api.FaultMiss:    api.ActHandler,
	}}
}

// judges wants this verdict.
func judges(t *testing.T, p api.Part, kind, proc int, busy bool, action, whom int) {
	t.Helper()
	want := health.Verdict{Action: action, Proc: whom}
	if got := health.Judge(p, kind, proc, busy); got != want {
		t.Errorf("%d processes, handler %d, table %v: Judge(%d, %d, %v) = %v, want %v", len(p.Procs), p.Handler, p.Health, kind, proc, busy, got, want)
	}
}

// judgesAlways wants this verdict, be the handler at work or not.
func judgesAlways(t *testing.T, p api.Part, kind, proc, action, whom int) {
	t.Helper()
	judges(t, p, kind, proc, false, action, whom)
	judges(t, p, kind, proc, true, action, whom)
}

// leaves wants Goes to tell this.
func leaves(t *testing.T, action, whom, proc int, on, ends bool) {
	t.Helper()
	v := health.Verdict{Action: action, Proc: whom}
	if gotOn, gotEnds := health.Goes(v, proc); gotOn != on || gotEnds != ends {
		t.Errorf("Goes(%v, %d) = %v, %v, want %v, %v", v, proc, gotOn, gotEnds, on, ends)
	}
}

// TestExamples: the chapter's table.
func TestExamples(t *testing.T) {
	p := chapter()
	judgesAlways(t, p, api.FaultIllegal, 1, api.ActIgnore, 1)
	judgesAlways(t, p, api.FaultMemory, 1, api.ActStop, 1)
	judgesAlways(t, p, api.FaultDivide, 2, api.ActRestartProc, 2)
	judgesAlways(t, p, api.FaultCode, 1, api.ActStop, 1)
	judgesAlways(t, p, api.FaultService, 1, api.ActIdle, 0)
	judges(t, p, api.FaultMiss, 2, false, api.ActHandler, 3)
	judges(t, p, api.FaultMiss, 2, true, api.ActIgnore, 2)
	judgesAlways(t, p, api.FaultRaised, 3, api.ActRestart, 0)
	judgesAlways(t, p, 0, 1, 0, 0)
	judgesAlways(t, p, 8, 1, 0, 0)
	judgesAlways(t, p, api.FaultMemory, 4, 0, 0)
	judgesAlways(t, p, api.FaultMemory, 0, 0, 0)
	p.Handler = 0
	judgesAlways(t, p, api.FaultMiss, 2, api.ActStop, 2)
	leaves(t, api.ActHandler, 3, 2, true, false)
	leaves(t, api.ActStop, 1, 1, false, false)
	leaves(t, api.ActStop, 1, 2, true, false)
	leaves(t, api.ActIdle, 0, 1, false, true)
	if got := health.Args(api.FaultDivide, 2, 17); got != [3]int64{3, 2, 17} {
		t.Errorf("Args(Divide, 2, 17) = %v", got)
	}
	if got := health.Args(api.FaultMiss, 2, 17); got != [3]int64{7, 2, -1} {
		t.Errorf("Args(Miss, 2, 17) = %v", got)
	}
}

// TestJudgeWithoutHandler (P19.2): each kind of fault with each action, where there is no handler: none is named, or a process that is not there.
func TestJudgeWithoutHandler(t *testing.T) {
	for _, handler := range []int{0, 4, 5, -1, -3, bottom, bottom + 3, top, 1<<32 + 1, 256 + 1} {
		for _, kind := range kinds {
			first := api.ActIgnore
			if kind == api.FaultCode {
				first = api.ActStop
			}
			for _, proc := range []int{1, 2, 3} {
				judgesAlways(t, partition(3, handler, api.ActIgnore), kind, proc, first, proc)
				judgesAlways(t, partition(3, handler, api.ActStop), kind, proc, api.ActStop, proc)
				judgesAlways(t, partition(3, handler, api.ActRestartProc), kind, proc, api.ActRestartProc, proc)
				judgesAlways(t, partition(3, handler, api.ActHandler), kind, proc, api.ActStop, proc)
				judgesAlways(t, partition(3, handler, api.ActRestart), kind, proc, api.ActRestart, 0)
				judgesAlways(t, partition(3, handler, api.ActIdle), kind, proc, api.ActIdle, 0)
			}
		}
	}
}

// TestJudgeWithHandler (P19.2): each kind of fault with each action, of a process beside a handler: the first, one within, and the last.
func TestJudgeWithHandler(t *testing.T) {
	for _, handler := range []int{1, 2, 3} {
		for _, kind := range kinds {
			passed := api.ActIgnore
			if kind == api.FaultCode {
				passed = api.ActStop
			}
			for _, proc := range []int{1, 2, 3} {
				if proc == handler {
					continue
				}
				judgesAlways(t, partition(3, handler, api.ActIgnore), kind, proc, passed, proc)
				judgesAlways(t, partition(3, handler, api.ActStop), kind, proc, api.ActStop, proc)
				judgesAlways(t, partition(3, handler, api.ActRestartProc), kind, proc, api.ActRestartProc, proc)
				judges(t, partition(3, handler, api.ActHandler), kind, proc, false, api.ActHandler, handler)
				judges(t, partition(3, handler, api.ActHandler), kind, proc, true, passed, proc)
				judgesAlways(t, partition(3, handler, api.ActRestart), kind, proc, api.ActRestart, 0)
				judgesAlways(t, partition(3, handler, api.ActIdle), kind, proc, api.ActIdle, 0)
			}
		}
	}
}

// TestJudgeHandlersOwn (P19.2): the handler's own fault of each kind boots the partition anew, whatever stands in the table.
func TestJudgeHandlersOwn(t *testing.T) {
	for _, count := range []int{1, 2, 3, api.MaxProcs, api.MaxProcs + 1, 100} {
		for _, handler := range []int{1, count} {
			for _, action := range both(actions, noActions) {
				for _, kind := range kinds {
					judgesAlways(t, partition(count, handler, action), kind, handler, api.ActRestart, 0)
				}
			}
		}
	}
}

// TestJudgeCode (P19.2): a process without an instruction has nothing to go on with: ActIgnore counts as ActStop, be it the table's own or a busy handler's.
func TestJudgeCode(t *testing.T) {
	p := chapter()
	judgesAlways(t, p, api.FaultCode, 2, api.ActStop, 2)
	p.Health[api.FaultCode] = api.ActHandler
	judges(t, p, api.FaultCode, 2, false, api.ActHandler, 3)
	judges(t, p, api.FaultCode, 2, true, api.ActStop, 2)
	p.Handler = 0
	judgesAlways(t, p, api.FaultCode, 2, api.ActStop, 2)
	p.Health[api.FaultCode] = api.ActIgnore
	judgesAlways(t, p, api.FaultCode, 2, api.ActStop, 2)
	// That there is nothing to go on with is so at this kind alone.
	for _, kind := range kinds {
		p.Health[kind] = api.ActIgnore
		if kind != api.FaultCode {
			judgesAlways(t, p, kind, 2, api.ActIgnore, 2)
		}
	}
}

// TestJudgeNoAction (P19.2): an entry that is none of the actions counts as ActStop, with a handler and without one.
func TestJudgeNoAction(t *testing.T) {
	for _, action := range noActions {
		for _, kind := range kinds {
			judgesAlways(t, partition(3, 3, action), kind, 1, api.ActStop, 1)
			judgesAlways(t, partition(3, 1, action), kind, 2, api.ActStop, 2)
			judgesAlways(t, partition(3, 0, action), kind, 3, api.ActStop, 3)
			judgesAlways(t, partition(1, 0, action), kind, 1, api.ActStop, 1)
		}
	}
}

// TestJudgeNobody (P19.2): of what is no kind of fault, or no process, the verdict is of zeros, the handler's number or not.
func TestJudgeNobody(t *testing.T) {
	for _, action := range both(actions, noActions) {
		for _, handler := range []int{0, 1, 3, 4, -1, bottom, top} {
			p := partition(3, handler, action)
			p.Health[0] = action
			for _, kind := range noKinds {
				for _, proc := range []int{1, 2, 3} {
					judgesAlways(t, p, kind, proc, 0, 0)
				}
			}
			for _, proc := range []int{bottom, bottom + 1, -3, -1, 0, 4, 5, 256 + 1, 1<<32 + 1, top - 1, top} {
				for _, kind := range kinds {
					judgesAlways(t, p, kind, proc, 0, 0)
				}
				judgesAlways(t, p, 0, proc, 0, 0)
				judgesAlways(t, p, 8, proc, 0, 0)
			}
		}
	}
}

// TestJudgeCounts (P19.2): without processes nobody can fail; with many of them all can, also where there are more than a partition may have.
func TestJudgeCounts(t *testing.T) {
	for _, handler := range []int{0, 1, -1, bottom, top} {
		for _, kind := range kinds {
			for _, proc := range procsOf(0) {
				judgesAlways(t, partition(0, handler, api.ActHandler), kind, proc, 0, 0)
				judgesAlways(t, partition(0, handler, api.ActIdle), kind, proc, 0, 0)
			}
		}
	}
	for _, count := range []int{1, 2, api.MaxProcs, api.MaxProcs + 1, 1000} {
		for _, kind := range kinds {
			judgesAlways(t, partition(count, count+1, api.ActHandler), kind, count, api.ActStop, count)
			judgesAlways(t, partition(count, count+1, api.ActHandler), kind, count+1, 0, 0)
			judgesAlways(t, partition(count, count, api.ActHandler), kind, count, api.ActRestart, 0)
			judgesAlways(t, partition(count, 0, api.ActRestartProc), kind, count, api.ActRestartProc, count)
			if count > 1 {
				judges(t, partition(count, count, api.ActHandler), kind, 1, false, api.ActHandler, count)
				judges(t, partition(count, 1, api.ActHandler), kind, count, false, api.ActHandler, 1)
			}
		}
	}
}

// TestJudgeByItsKind (P19.2): the entry of the fault's own kind counts, and no other one.
func TestJudgeByItsKind(t *testing.T) {
	for _, kind := range kinds {
		for _, others := range []int{api.ActStop, api.ActRestart, api.ActHandler, 6} {
			p := partition(2, 2, others)
			p.Health[0] = others
			p.Health[kind] = api.ActRestartProc
			judgesAlways(t, p, kind, 1, api.ActRestartProc, 1)
			p.Health[kind] = api.ActIdle
			judgesAlways(t, p, kind, 1, api.ActIdle, 0)
		}
	}
}

// TestGoes (P19.3): each action, of the process itself, of another one and of none.
func TestGoes(t *testing.T) {
	numbers := []int{bottom, bottom + 1, -2, -1, 0, 1, 2, 3, 16, 17, top - 1, top}
	for _, whom := range numbers {
		for _, proc := range numbers {
			leaves(t, api.ActIgnore, whom, proc, true, false)
			leaves(t, api.ActHandler, whom, proc, true, false)
			leaves(t, api.ActStop, whom, proc, whom != proc, false)
			leaves(t, api.ActRestartProc, whom, proc, whom != proc, false)
			leaves(t, api.ActRestart, whom, proc, false, true)
			leaves(t, api.ActIdle, whom, proc, false, true)
			for _, action := range noActions {
				leaves(t, action, whom, proc, false, false)
			}
		}
	}
}

// TestGoesOfNobody (P19.3): 0 is a number as any other is: who has another one goes on, who has this one does not.
func TestGoesOfNobody(t *testing.T) {
	for _, action := range []int{api.ActStop, api.ActRestartProc} {
		leaves(t, action, 0, 1, true, false)
		leaves(t, action, 1, 0, true, false)
		leaves(t, action, 0, 0, false, false)
		leaves(t, action, -1, 1, true, false)
		leaves(t, action, -1, -1, false, false)
		leaves(t, action, bottom, top, true, false)
		leaves(t, action, bottom, bottom, false, false)
		leaves(t, action, top, top, false, false)
		leaves(t, action, 1<<32+1, 1, true, false)
	}
}

// TestName (P19.4): the seven names, and none for what is no kind.
func TestName(t *testing.T) {
	for kind, want := range map[int]string{
		api.FaultIllegal: "illegal",
		api.FaultMemory:  "memory",
		api.FaultDivide:  "divide",
		api.FaultCode:    "code",
		api.FaultService: "service",
		api.FaultRaised:  "raised",
		api.FaultMiss:    "miss",
	} {
		if name, ok := health.Name(kind); name != want || !ok {
			t.Errorf("Name(%d) = %q, %v, want %q", kind, name, ok, want)
		}
	}
	for _, kind := range noKinds {
		if name, ok := health.Name(kind); name != "" || ok {
			t.Errorf("Name(%d) = %q, %v", kind, name, ok)
		}
	}
}

// validIs wants Valid to tell this.
func validIs(t *testing.T, table [api.Faults]int, want bool) {
	t.Helper()
	if got := health.Valid(table); got != want {
		t.Errorf("Valid(%v) = %v", table, got)
	}
}

// TestValid (P19.5): every place is 0 or an action, and the place 0 is 0.
func TestValid(t *testing.T) {
	validIs(t, [api.Faults]int{}, true)
	validIs(t, chapter().Health, true)
	for _, action := range actions {
		validIs(t, partition(0, 0, action).Health, true)
		for _, kind := range kinds {
			table := chapter().Health
			table[kind] = action
			validIs(t, table, true)
		}
	}
	for _, action := range noActions {
		validIs(t, partition(0, 0, action).Health, false)
		for _, kind := range kinds {
			table := chapter().Health
			table[kind] = action
			validIs(t, table, false)
			table = [api.Faults]int{}
			table[kind] = action
			validIs(t, table, false)
		}
	}
}

// TestValidPlaceZero (P19.5): the place 0 belongs to no kind: no action may stand there but 0.
func TestValidPlaceZero(t *testing.T) {
	for _, entry := range both(actions, noActions) {
		table := chapter().Health
		table[0] = entry
		validIs(t, table, entry == 0)
		validIs(t, [api.Faults]int{entry}, entry == 0)
	}
}

// TestValidIsTaken (P19.5): the tables that may be are those that an image may be booted with.
func TestValidIsTaken(t *testing.T) {
	for place := range api.Faults {
		for _, entry := range both(actions, noActions) {
			p := chapter()
			p.Server = api.Server{Period: 1, Budget: 1}
			p.Code = make([]api.Instr, 1)
			p.Health[place] = entry
			err, _ := check.Check(api.Image{Parts: []api.Part{p}})
			if got := health.Valid(p.Health); got != (err == api.OK) || !got && err != api.ErrHealth {
				t.Errorf("Valid(%v) = %v, an image with it is answered %d", p.Health, got, err)
			}
		}
	}
}

// TestArgs (P19.6): the kind, the process and the pc as they are, whatever they are; but -1 for the pc at FaultMiss alone.
func TestArgs(t *testing.T) {
	numbers := []int{bottom, bottom + 1, -7, -1, 0, 1, 2, 3, 7, 17, 1<<32 + 7, top - 1, top}
	for _, kind := range both(kinds, noKinds) {
		for _, proc := range numbers {
			for _, pc := range numbers {
				want := [3]int64{int64(kind), int64(proc), int64(pc)}
				if kind == api.FaultMiss {
					want[2] = -1
				}
				if got := health.Args(kind, proc, pc); got != want {
					t.Errorf("Args(%d, %d, %d) = %v, want %v", kind, proc, pc, got, want)
				}
			}
		}
	}
}
