package part_test

import (
	"fmt"
	"slices"
	"strings"
	"testing"

	"bulkhead/api"
)

// failing is a partition whose process 1 has a fault of a kind in the instruction at place 2; process 2 is its handler, if it has one.
func failing(kind, action int, hasHandler bool) api.Image {
	lines := map[int]string{
		api.FaultIllegal: "nop; nop; nop; nop; sys 4",
		api.FaultMemory:  "nop; ldi r1 -1; ld r2 r1 0; nop; sys 4",
		api.FaultDivide:  "nop; nop; div r1 r2 r3; nop; sys 4",
		api.FaultService: "nop; nop; sys 28; nop; sys 4",
		api.FaultRaised:  "nop; ldi r1 7; sys 27; nop; sys 4",
	}[kind]
	p := api.Part{Words: 1, Health: all((action + 1) % 6)}
	p.Health[kind] = action
	p = with(p, plain(5, lines), sleeper(1, "sys 4"), plain(3, "nop"))
	if hasHandler {
		p.Handler = 2
	}
	if kind == api.FaultIllegal {
		p.Code[2] = api.Instr{Op: 99, A: 200}
	}
	return alone(p)
}

// TestFaults (P20.7): what each action does with each fault of an instruction, with a handler and without one.
func TestFaults(t *testing.T) {
	for _, kind := range []int{api.FaultIllegal, api.FaultMemory, api.FaultDivide, api.FaultService, api.FaultRaised} {
		for _, hasHandler := range []bool{false, true} {
			for action, then := range []string{"", "", "; Start 1", "", "; Restart; Start 1; Start 3", "; Idle"} {
				handled := action == api.ActHandler && hasHandler
				if handled {
					then = "; Start 2"
				}
				y := newPair(t, failing(kind, action, hasHandler), 1, 0)
				y.runs(2, 4, "")
				before := y.p.State().Procs[0]
				y.tells(run(5), fmt.Sprintf("Fault 1 %s 2", faultName(int64(kind)))+then)
				s := y.p.State()
				switch {
				case action == api.ActIgnore || handled:
					// It goes on behind the instruction, with the registers that it had.
					if got := s.Procs[0]; got.State != api.Ready || got.PC != 3 || got.Regs != before.Regs || got.Place != before.Place {
						t.Errorf("kind %d, action %d: %+v, it was %+v", kind, action, got, before)
					}
				case action == api.ActStop || action == api.ActHandler || action == api.ActIdle:
					y.state(1, api.Dormant)
				default:
					if got := s.Procs[0]; got.State != api.Ready || got.PC != 0 || got.Released != 5 || got.Regs != [api.Regs]int64{} {
						t.Errorf("kind %d, action %d: %+v", kind, action, got)
					}
				}
				if handled {
					y.regs(2, 0, int64(kind), 1, 2)
				}
				idle, restarted := action == api.ActIdle, action == api.ActRestart
				if (s.Mode == api.Idle) != idle || (s.Restarts == 1) != restarted || (s.Procs[2].State == api.Dormant) != idle {
					t.Errorf("kind %d, action %d: %+v", kind, action, s)
				}
			}
		}
	}
}

// TestFaultCode (P20.7): behind the code's end: who ignores it stops all the same, also where the handler is started.
func TestFaultCode(t *testing.T) {
	for _, hasHandler := range []bool{false, true} {
		for action, then := range []string{"", "", "; Start 1", "", "; Restart; Start 1", "; Idle"} {
			if action == api.ActHandler && hasHandler {
				then = "; Start 2"
			}
			p := api.Part{Words: 1, Health: all((action + 1) % 6)}
			p.Health[api.FaultCode] = action
			p = with(p, plain(5, "ldi r4 3; jmp 9"), sleeper(1, "nop"))
			if hasHandler {
				p.Handler = 2
			}
			y := newPair(t, alone(p), 1, 0)
			y.runs(2, 1, "")
			if got := y.p.State().Procs[0].PC; got != 3 {
				t.Errorf("it is at %d", got)
			}
			y.tells(run(2), "Fault 1 code 3"+then)
			want := api.Dormant
			if action == api.ActRestartProc || action == api.ActRestart {
				want = api.Ready
			}
			y.state(1, want)
			if then == "; Start 2" {
				y.regs(2, 0, api.FaultCode, 1, 3)
				// The handler comes to the end too: its own fault.
				y.runs(2, 2, "Fault 2 code 3; Restart; Start 1")
			}
		}
	}
}

// TestLastInstruction (P20.7): a fault in the last instruction, and the one behind it.
func TestLastInstruction(t *testing.T) {
	for last, want := range map[string]string{
		"ld r1 r0 1":   "Fault 1 memory 1",
		"st r1 r0 0":   "Fault 1 memory 1",
		"div r1 r1 r1": "Fault 1 divide 1",
		"sys 0":        "Fault 1 service 1",
		"sys 27":       "Fault 1 raised 1",
		"sys 1":        "Call 1 NOW 0",
		"nop":          "",
		"jmp 2":        "",
	} {
		p := with(api.Part{Words: 1, Fixed: 1, Health: all(api.ActIgnore)}, plain(1, "nop; "+last))
		y := newPair(t, alone(p), 1, 0)
		y.runs(2, 0, want)
		if got := y.p.State().Procs[0]; got.PC != 2 || got.State != api.Ready {
			t.Errorf("%s: %+v", last, got)
		}
		y.tells(run(1), "Fault 1 code 2")
		y.state(1, api.Dormant)
		y.tells(run(2), "")
	}
}

// TestHandlersOwnFault (P20.7): a fault of the handler restarts the partition, whatever its action is.
func TestHandlersOwnFault(t *testing.T) {
	for action := range 6 {
		for last, want := range map[string]string{
			"ld r1 r0 9":   "Fault 2 memory 3",
			"div r1 r5 r5": "Fault 2 divide 3",
			"sys 99":       "Fault 2 service 3",
			"sys 27":       "Fault 2 raised 3",
			"jmp 9":        "Fault 2 code 4",
		} {
			p := api.Part{Words: 1, Handler: 2, Health: all(action)}
			p.Health[api.FaultRaised] = api.ActHandler
			p = with(p, plain(5, "sys 10; sys 27"), sleeper(1, "nop; "+last))
			y := newPair(t, alone(p), 1, 0)
			y.runs(2, 1, "Call 1 LOCK OK; Fault 1 raised 1; Start 2")
			y.runs(1, 1, "")
			if last == "jmp 9" {
				y.runs(1, 2, "")
			}
			y.tells(run(2), want+"; Restart; Start 1")
			y.isFresh(2, 1)
		}
	}
}

// lasting is a periodic process that is Delayed until its deadline, its next release and the end of its delay fall on tick 10.
func lasting() act { return periodic(5, 10, 10, "ldi r1 10; sys 2; jmp 0") }

// TestTimersOfOne (P20.6): a deadline, a release and a waking of one tick: in this order, and only those that are still due.
func TestTimersOfOne(t *testing.T) {
	for _, hasHandler := range []bool{false, true} {
		for action, want := range []string{
			"Miss 1 10; Overrun 1 0; Call 1 DELAY OK",
			"Miss 1 10",
			"Miss 1 10; Start 1",
			"Miss 1 10",
			"Miss 1 10; Restart; Start 1",
			"Miss 1 10; Idle",
		} {
			p := with(api.Part{Health: all((action + 1) % 6)}, lasting(), sleeper(1, "sys 4"))
			p.Health[api.FaultMiss] = action
			if hasHandler {
				p.Handler = 2
			}
			if hasHandler && action == api.ActHandler {
				want = "Miss 1 10; Start 2; Overrun 1 0; Call 1 DELAY OK"
			}
			y := newPair(t, alone(p), 1, 0)
			y.runs(2, 0, "")
			y.tells(timers(9), "")
			y.tells(timers(10), want)
			y.tells(timers(10), "")
			if s := y.p.State().Procs[0]; action != api.ActRestart && s.Misses != 1 {
				t.Errorf("action %d: %+v", action, s)
			}
			if strings.Contains(want, "Start 2") {
				y.regs(2, 0, api.FaultMiss, 1, -1)
			}
			if strings.Contains(want, "Overrun") && !y.p.State().Procs[0].Late {
				t.Errorf("it is not late: %+v", y.p.State().Procs[0])
			}
		}
	}
}

// TestTimersOfSeveral (P20.6): kind by kind, and of each kind by the processes' numbers, not by their priorities; whether one is due is asked when its turn comes.
func TestTimersOfSeveral(t *testing.T) {
	three := func(head string) string {
		text := head
		for _, form := range []string{"; Overrun %d 0", "; Call %d DELAY OK"} {
			for q := 1; q <= 3; q++ {
				text += fmt.Sprintf(form, q)
			}
		}
		return text
	}
	for action, want := range []string{
		three("Miss 1 10; Miss 2 10; Miss 3 10"),
		"Miss 1 10; Miss 2 10; Miss 3 10",
		"Miss 1 10; Start 1; Miss 2 10; Start 2; Miss 3 10; Start 3",
		three("Miss 1 10; Start 4; Miss 2 10; Miss 3 10"), // at the second one the handler is at work
		"Miss 1 10; Restart; Start 1; Start 2; Start 3",
		"Miss 1 10; Idle",
	} {
		p := with(api.Part{Health: all(action), Handler: 4}, lasting(), periodic(7, 10, 10, "ldi r1 10; sys 2"), periodic(6, 10, 10, "ldi r1 10; sys 2"), sleeper(1, "nop"))
		y := newPair(t, alone(p), 1, 0)
		y.runs(6, 0, "")
		y.tells(timers(10), want)
		y.tells(timers(10), "")
		if action == api.ActHandler {
			y.regs(4, 0, api.FaultMiss, 1, -1)
		}
	}
}

// TestTimersInTheMidst (P20.6): a deadline of process 2 ends the partition's life, behind that of 1 and ahead of all else that is due.
func TestTimersInTheMidst(t *testing.T) {
	for action, want := range map[int]string{api.ActRestart: "Restart; Start 1; Start 2; Start 3; Start 4", api.ActIdle: "Idle"} {
		p := with(api.Part{Health: all(action)},
			plain(9, "ldi r1 10; sys 2"),
			act{api.Proc{Priority: 5, Limit: 10, Auto: true}, "jmp 2"},
			act{api.Proc{Priority: 4, Limit: 10, Auto: true}, "jmp 3"},
			periodic(8, 10, 0, "sys 3"))
		y := newPair(t, alone(p), 1, 0)
		y.runs(3, 0, "")
		y.state(4, api.InPeriod)
		y.tells(timers(10), "Miss 2 10; "+want)
		for q := 1; q <= 4; q++ {
			if s := y.p.State().Procs[q-1]; s.Misses != 0 && action == api.ActRestart {
				t.Errorf("process %d: %+v", q, s)
			}
		}
		y.tells(timers(10), "")
	}
	// The verdict on one process leaves the others' timers.
	for action, want := range map[int]string{api.ActStop: "Miss 2 10", api.ActRestartProc: "Miss 2 10; Start 2"} {
		p := with(api.Part{Health: all(action)}, plain(9, "ldi r1 10; sys 2"), lasting(), periodic(8, 10, 0, "sys 3"), periodic(1, 10, 0, "nop"))
		y := newPair(t, alone(p), 1, 0)
		y.runs(5, 0, "")
		y.tells(timers(10), want+"; Call 3 PERIODIC_WAIT OK; Overrun 4 0; Call 1 DELAY OK")
	}
}

// TestReleases (P20.6): releases of jobs that are done and of such that are not.
func TestReleases(t *testing.T) {
	p := with(api.Part{Health: all(api.ActIgnore)}, periodic(5, 10, 4, "sys 3; jmp 0"), periodic(3, 7, 0, "jmp 2"))
	y := newPair(t, alone(p), 1, 100)
	y.tells(run(102), "")
	y.tells(timers(104), "")
	y.tells(timers(107), "Overrun 2 100")
	y.tells(timers(110), "Call 1 PERIODIC_WAIT OK")
	y.regs(1, 0)
	if s := y.p.State().Procs[0]; s.Released != 110 || s.Deadline != 114 || s.State != api.Ready {
		t.Errorf("the second job: %+v", s)
	}
	y.tells(timers(114), "Miss 1 114")
	y.tells(timers(114), "")
	y.tells(timers(120), "Overrun 1 110")
	y.tells(timers(130), "")
	y.runs(2, 131, "")
	y.tells(timers(140), "Call 1 PERIODIC_WAIT OK")
	if y.p.Next(140) != 144 {
		t.Errorf("Next: %d", y.p.Next(140))
	}
}

// TestRestartOfTheHolder (P20.6, P20.7): a process that is stopped or restarted while it holds the lock holds it no more.
func TestRestartOfTheHolder(t *testing.T) {
	for action, want := range map[int]string{api.ActStop: "", api.ActRestartProc: "; Start 1"} {
		p := with(api.Part{Health: all(action)}, act{api.Proc{Priority: 1, Limit: 10, Auto: true}, "sys 10; sys 27"}, plain(9, "ldi r1 2; sys 2; sys 14"))
		y := newPair(t, alone(p), 1, 0)
		y.runs(3, 0, "Call 1 LOCK OK")
		y.tells(timers(2), "Call 2 DELAY OK")
		y.tells(timers(10), "Miss 1 10"+want)
		if s := y.p.State(); s.Lock != 0 || s.Procs[0].Misses != 1 {
			t.Errorf("a miss: %+v", s)
		}
		y.tells(run(10), "Log 2 2; Call 2 LOG OK")

		y = newPair(t, alone(p), 1, 0)
		y.runs(3, 0, "Call 1 LOCK OK")
		y.tells(timers(2), "Call 2 DELAY OK")
		y.tells(run(2), "Fault 1 raised 1"+want)
		if s := y.p.State(); s.Lock != 0 {
			t.Errorf("a fault: %+v", s)
		}
		y.tells(run(2), "Log 2 2; Call 2 LOG OK")
	}
}

// TestRun (P20.7): an instruction that is no call: its registers, its place, its word.
func TestRun(t *testing.T) {
	p := with(api.Part{Words: 4, Fixed: 1, Init: []int64{7}}, plain(1, "ldi r4 9; st r4 r0 1; ld r5 r0 0; add r6 r5 r4; st r6 r0 3; call 0"), plain(2, "sys 4"))
	y := newPair(t, alone(p), 1, 0)
	y.runs(1, 0, "")
	y.state(2, api.Dormant)
	for i, want := range []struct {
		pc     int
		memory []int64
	}{{1, []int64{7, 0, 0, 0}}, {2, []int64{7, 9, 0, 0}}, {3, []int64{7, 9, 0, 0}}, {4, []int64{7, 9, 0, 0}}, {5, []int64{7, 9, 0, 16}}, {0, []int64{7, 9, 0, 16}}} {
		y.tells(run(i), "")
		s := y.p.State()
		if s.Procs[0].PC != want.pc || !slices.Equal(s.Memory, want.memory) {
			t.Errorf("instruction %d: %d, %v, want %v", i, s.Procs[0].PC, s.Memory, want)
		}
	}
	if got := y.p.State().Procs[0].Regs; got != [api.Regs]int64{4: 9, 5: 7, 6: 16, 14: 6} {
		t.Errorf("the registers: %v", got)
	}
}

// TestRunOfNobody (P20.7): where CanRun is false Run does nothing.
func TestRunOfNobody(t *testing.T) {
	for what, lines := range map[string]string{"it waits": "ldi r1 5; sys 2", "it has stopped": "nop; sys 4", "it is suspended": "ldi r1 1; sys 7", "it idles": "ldi r1 0; sys 13"} {
		y := newPair(t, alone(with(api.Part{}, plain(1, lines), sleeper(3, "nop"))), 1, 0)
		y.do(run(0))
		y.do(run(0))
		if y.p.CanRun() {
			t.Errorf("%s, and it can run", what)
		}
		before := y.p.State()
		if got := y.tells(run(1), ""); got.writes != nil || !sameState(before, y.p.State()) {
			t.Errorf("%s: %+v", what, y.p.State())
		}
	}
}
