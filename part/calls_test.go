package part_test

import (
	"fmt"
	"slices"
	"strings"
	"testing"

	"bulkhead/api"
)

// at is the tick at which the calls of desk's rows are done.
const at = 50

// Who does the calls of a row.
const (
	ordinary       = "an ordinary process"
	holder         = "the holder of the lock"
	handler        = "the handler"
	overHolder     = "the handler, over one that holds the lock"
	releases       = "a periodic process"
	releasesHolder = "a periodic process that holds the lock"
)

// row is what a call is done with, and what is wanted of it.
type row struct {
	who   string // process 1, or the handler 3
	other string // what process 2 has done ahead of it (none: it is DORMANT)
	ahead []call // what has been called ahead of it
	lines string
	want  string
	look  func(s api.PartState) bool
}

// desk is the partition on which the rows are played: process 2 is another one, 3 the handler, 4 periodic, 5 and 6 are others that sleep.
func desk(who, other, lines string) (api.Image, int) {
	p := api.Part{Words: 8, Fixed: 2, Init: []int64{10, 11, 12, 13, 14, 15, 16, 17}, Health: all(api.ActStop), Handler: 3}
	p.Sems, p.Events, p.Buffers = []api.Sem{{Start: 0, Max: 2}, {Start: 1, Max: 1}}, []bool{false, true}, []api.Buffer{{Size: 2, Depth: 1}, {Size: 1, Depth: 2}}
	p.Health[api.FaultRaised] = api.ActHandler
	one, three := plain(5, "nop;"), sleeper(3, "nop; nop;")
	switch who {
	case ordinary:
		one.lines += lines
	case holder:
		one.lines += "sys 10;" + lines
	case handler:
		one.lines, three.lines = "sys 27", three.lines+lines
	case overHolder:
		one.lines, three.lines = "sys 10; sys 27", three.lines+lines
	case releases:
		one.form.Period, one.lines = 70, "nop;"+lines
	case releasesHolder:
		one.form.Period, one.lines = 70, "sys 10;"+lines
	}
	two := sleeper(9, "nop")
	if other != "" {
		two = plain(9, other)
	}
	four := periodic(4, 100, 0, "nop")
	four.form.Auto = false
	p = with(p, one, two, three, four, sleeper(2, "nop; sys 4"), sleeper(6, "nop; sys 4"))
	// What comes ahead of the row's own lines: all of process 2, and what makes process 1 or the handler who it is.
	ahead := len(split(other)) + map[string]int{ordinary: 1, holder: 2, handler: 3, overHolder: 4, releases: 1, releasesHolder: 1}[who]
	return image([]api.Part{p, with(api.Part{}, plain(1, "nop"))}, eightPorts()...), ahead
}

// play plays a row.
func (w row) play(t *testing.T) *pair {
	t.Helper()
	if w.who == "" {
		w.who = ordinary
	}
	x, ahead := desk(w.who, w.other, w.lines)
	y := newPair(t, x, 1, 0)
	for range ahead {
		y.do(run(0))
	}
	for _, c := range w.ahead {
		y.do(c)
	}
	y.runs(len(split(w.lines)), at, w.want)
	if w.look != nil && !w.look(y.p.State()) {
		t.Errorf("%s, %q: it stands so: %+v", w.who, w.lines, y.p.State())
	}
	return y
}

// playAll plays rows.
func playAll(t *testing.T, rows []row) {
	t.Helper()
	for i, w := range rows {
		t.Run(fmt.Sprint(i, " ", w.lines), func(t *testing.T) { w.play(t) })
	}
}

// caller is the process that did the row's lines.
func caller(w string) int {
	if w == handler || w == overHolder {
		return 3
	}
	return 1
}

// load is the lines that lay a number into a register.
func load(register int, n int64) string {
	return fmt.Sprintf("ldi r%d %d; ldh r%d %d;", register, int32(n), register, int32(n>>32))
}

// wrong are numbers that are nothing's number.
func wrong(above int64) []int64 {
	return []int64{-1, 0, above, 1 << 32, 1<<32 + 1, 1<<32 + 2, top, bottom, bottom + 1}
}

// everybody is all who may do a call.
func everybody() []string {
	return []string{ordinary, holder, handler, overHolder, releases, releasesHolder}
}

// TestParam (P20.8): PARAM comes first, whoever calls and whatever else is wrong; nothing else happens.
func TestParam(t *testing.T) {
	const handlersNumber = 3
	for _, c := range []struct {
		call int
		bad  []int64
	}{
		{api.CallDelay, []int64{-1, -2, bottom, -1 << 40}},
		{api.CallStart, append(wrong(7), handlersNumber)},
		{api.CallStop, append(wrong(7), handlersNumber)},
		{api.CallSuspend, append(wrong(7), handlersNumber)},
		{api.CallResume, append(wrong(7), handlersNumber)},
		{api.CallSetPriority, append(wrong(7), handlersNumber)},
		{api.CallStatus, wrong(7)},
		{api.CallSetMode, []int64{-1, 2, 3, 1 << 32, 1<<32 + 1, top, bottom}},
		{api.CallWrite, append(wrong(9), 2, 3, 4, 5, 6, 7, 8)},
		{api.CallRead, append(wrong(9), 1, 3, 4, 5, 6, 7, 8)},
		{api.CallSend, append(wrong(9), 1, 2, 4, 5, 6, 7, 8)},
		{api.CallReceive, append(wrong(9), 1, 2, 3, 5, 6, 7, 8)},
		{api.CallPortStatus, append(wrong(9), 5, 6, 7, 8)},
		{api.CallSemWait, wrong(3)},
		{api.CallSemSignal, wrong(3)},
		{api.CallEventSet, wrong(3)},
		{api.CallEventReset, wrong(3)},
		{api.CallEventWait, wrong(3)},
		{api.CallBufferSend, wrong(3)},
		{api.CallBufferReceive, wrong(3)},
	} {
		for _, a := range c.bad {
			for _, who := range everybody() {
				lines := load(1, a) + fmt.Sprintf("ldi r2 -9; ldi r3 0; sys %d", c.call)
				q := caller(who)
				want := fmt.Sprintf("Call %d %s PARAM", q, callName(int64(c.call)))
				y := row{who: who, lines: lines, want: want}.play(t)
				y.regs(q, api.ResParam, a, -9, 0)
				y.state(q, api.Ready)
			}
		}
	}
	for _, b := range []int64{-1, 256, top, bottom, 1 << 32} {
		// Also of one that is DORMANT, for which NO_ACTION would apply.
		row{lines: "ldi r1 1;" + load(2, b) + "sys 9", want: "Call 1 SET_PRIORITY PARAM"}.play(t)
		row{lines: "ldi r1 5;" + load(2, b) + "sys 9", want: "Call 1 SET_PRIORITY PARAM"}.play(t)
	}
}

// TestNow, and the others below (P20.8): the rows of the chapter's table.
func TestNow(t *testing.T) {
	for _, who := range everybody() {
		q := caller(who)
		y := row{who: who, lines: "sys 1", want: fmt.Sprintf("Call %d NOW 50", q)}.play(t)
		y.regs(q, 50)
	}
	y := newPair(t, alone(with(api.Part{}, plain(1, "sys 1; sys 1"))), 1, 0)
	y.tells(run(0), "Call 1 NOW 0")
	y.tells(run(end-1), fmt.Sprint("Call 1 NOW ", end-1))
	y.regs(1, end-1)
}

// waitsIn tells whether a process waits so, without words.
func waitsIn(q, state, until, object, addr int) func(s api.PartState) bool {
	return func(s api.PartState) bool {
		p := s.Procs[q-1]
		return p.State == state && p.Until == until && p.Object == object && p.Addr == addr && len(p.Data) == 0
	}
}

// waitsWith tells whether a process waits so, with these words.
func waitsWith(q, state, until, object int, data ...int64) func(s api.PartState) bool {
	return func(s api.PartState) bool {
		p := s.Procs[q-1]
		return p.State == state && p.Until == until && p.Object == object && p.Addr == 0 && slices.Equal(p.Data, data)
	}
}

func TestDelay(t *testing.T) {
	isReady := func(s api.PartState) bool { return s.Procs[0].State == api.Ready && s.Procs[0].PC > 0 }
	playAll(t, []row{
		{lines: "ldi r1 0; sys 2", want: "Call 1 DELAY OK", look: func(s api.PartState) bool { return isReady(s) && s.Procs[0].Place == 2 && s.Place == 3 }},
		{who: holder, lines: "ldi r1 0; sys 2", want: "Call 1 DELAY LOCKED", look: func(s api.PartState) bool {
			return isReady(s) && s.Procs[0].Place == 1 && s.Procs[0].Regs[0] == api.ResLocked
		}},
		{who: handler, lines: "ldi r1 0; sys 2", want: "Call 3 DELAY LOCKED", look: func(s api.PartState) bool { return s.Procs[2].Place == 2 && s.Place == 3 }},
		{who: releases, lines: "ldi r1 0; sys 2", want: "Call 1 DELAY OK"},
		{lines: "ldi r1 1; sys 2", look: waitsIn(1, api.Delayed, 51, 0, 0)},
		{lines: "ldi r1 7; ldi r2 3; ldi r3 4; sys 2", look: waitsIn(1, api.Delayed, 57, 0, 0)},
		{who: holder, lines: "ldi r1 7; sys 2", want: "Call 1 DELAY LOCKED", look: isReady},
		{who: handler, lines: "ldi r1 7; sys 2", want: "Call 3 DELAY LOCKED"},
		{who: overHolder, lines: "ldi r1 7; sys 2", want: "Call 3 DELAY LOCKED"},
		{who: releases, lines: "ldi r1 7; sys 2", look: waitsIn(1, api.Delayed, 57, 0, 0)},
		{who: releasesHolder, lines: "ldi r1 7; sys 2", want: "Call 1 DELAY LOCKED"},
		{lines: load(1, end-at-1) + "sys 2", look: waitsIn(1, api.Delayed, end-1, 0, 0)},
		{lines: load(1, end-at) + "sys 2", look: waitsIn(1, api.Delayed, never, 0, 0)},
		{lines: load(1, top) + "sys 2", look: waitsIn(1, api.Delayed, never, 0, 0)},
	})
	// A delay of 0 sends it behind one of its own priority, and no further.
	p := with(api.Part{}, plain(5, "ldi r1 0; sys 2; sys 14; jmp 0"), plain(5, "ldi r1 2; sys 14; jmp 5"), plain(4, "sys 14"))
	y := newPair(t, alone(p), 1, 0)
	y.runs(3, 1, "Call 1 DELAY OK")
	y.runs(1, 1, "Log 2 2; Call 2 LOG OK")
	// Who is told at its waking has ResOK in r0, and goes on behind the call.
	z := row{lines: "ldi r1 7; ldi r0 9; sys 2", want: ""}.play(t)
	z.tells(timers(56), "")
	z.tells(timers(57), "Call 1 DELAY OK")
	z.regs(1, 0, 7)
	z.state(1, api.Ready)
	z.tells(timers(57), "")
}

func TestPeriodicWait(t *testing.T) {
	playAll(t, []row{
		{lines: "sys 3", want: "Call 1 PERIODIC_WAIT NO_ACTION"},
		{who: holder, lines: "sys 3", want: "Call 1 PERIODIC_WAIT NO_ACTION"},
		{who: handler, lines: "sys 3", want: "Call 3 PERIODIC_WAIT NO_ACTION"},
		{who: releases, lines: "sys 3", look: waitsIn(1, api.InPeriod, 70, 0, 0)},
		{who: releasesHolder, lines: "sys 3", want: "Call 1 PERIODIC_WAIT LOCKED", look: func(s api.PartState) bool { return s.Procs[0].State == api.Ready && s.Lock == 1 }},
		{who: releasesHolder, lines: "sys 11; sys 3", want: "Call 1 UNLOCK OK", look: waitsIn(1, api.InPeriod, 70, 0, 0)},
	})
	y := row{who: releases, lines: "sys 3"}.play(t)
	y.tells(timers(70), "Call 1 PERIODIC_WAIT OK")
	if s := y.p.State().Procs[0]; s.State != api.Ready || s.Released != 70 {
		t.Errorf("the next job: %+v", s)
	}
}

func TestStops(t *testing.T) {
	isDormant := func(q, lock int) func(s api.PartState) bool {
		return func(s api.PartState) bool {
			p := s.Procs[q-1]
			return p.State == api.Dormant && p.PC == 0 && p.Regs == [api.Regs]int64{} && p.Released == never && s.Lock == lock
		}
	}
	playAll(t, []row{
		{lines: "ldi r1 5; sys 4", look: isDormant(1, 0)},
		{who: holder, lines: "sys 4", look: isDormant(1, 0)},
		{who: handler, lines: "sys 4", look: isDormant(3, 0)},
		{who: overHolder, lines: "sys 4", look: isDormant(3, 1)},
		{who: releases, lines: "sys 4", look: isDormant(1, 0)},
		// STOP of itself is that too, but not of the handler.
		{lines: "ldi r1 1; sys 6", look: isDormant(1, 0)},
		{who: holder, lines: "ldi r1 1; sys 6", look: isDormant(1, 0)},
		{who: releasesHolder, lines: "ldi r1 1; sys 6", look: isDormant(1, 0)},
		{who: handler, lines: "ldi r1 3; sys 6", want: "Call 3 STOP PARAM"},
		{lines: "ldi r1 5; sys 6", want: "Call 1 STOP NO_ACTION"},
		{lines: "ldi r1 5; sys 5; sys 6; sys 6", want: "Start 5; Call 1 START OK; Call 1 STOP OK; Call 1 STOP NO_ACTION", look: isDormant(5, 0)},
		{other: "ldi r1 40; sys 2", lines: "ldi r1 2; sys 6", want: "Call 1 STOP OK", look: isDormant(2, 0)},
		{other: "ldi r1 2; sys 7", lines: "ldi r1 2; sys 6", want: "Call 1 STOP OK", look: isDormant(2, 0)},
		{who: handler, lines: "ldi r1 1; sys 6", want: "Call 3 STOP OK", look: isDormant(1, 0)},
		{who: overHolder, lines: "ldi r1 1; sys 6", want: "Call 3 STOP OK", look: isDormant(1, 0)},
		{who: overHolder, lines: "ldi r1 5; sys 6", want: "Call 3 STOP NO_ACTION", look: isDormant(5, 1)},
	})
}

func TestStart(t *testing.T) {
	starts := func(q int) func(s api.PartState) bool {
		return func(s api.PartState) bool {
			p := s.Procs[q-1]
			return p.State == api.Ready && p.Regs == [api.Regs]int64{} && p.Released == at && p.Place == s.Place-1
		}
	}
	playAll(t, []row{
		{lines: "ldi r1 5; ldi r2 8; ldi r3 9; sys 5", want: "Start 5; Call 1 START OK", look: starts(5)},
		{lines: "ldi r1 4; sys 5", want: "Start 4; Call 1 START OK", look: starts(4)},
		{lines: "ldi r1 5; sys 5; sys 5", want: "Start 5; Call 1 START OK; Call 1 START NO_ACTION"},
		{lines: "ldi r1 1; sys 5", want: "Call 1 START NO_ACTION"},
		{other: "ldi r1 40; sys 2", lines: "ldi r1 2; sys 5", want: "Call 1 START NO_ACTION", look: waitsIn(2, api.Delayed, 40, 0, 0)},
		{who: holder, lines: "ldi r1 6; sys 5; ldi r4 1", want: "Start 6; Call 1 START OK", look: func(s api.PartState) bool { return s.Procs[0].Regs[4] == 1 }},
		{who: handler, lines: "ldi r1 6; sys 5; ldi r4 1", want: "Start 6; Call 3 START OK", look: func(s api.PartState) bool { return s.Procs[2].Regs[4] == 1 }},
		// The greater priority runs at once.
		{lines: "ldi r1 6; sys 5; nop", want: "Start 6; Call 1 START OK", look: func(s api.PartState) bool { return s.Procs[0].PC == 3 }},
	})
}

func TestSuspend(t *testing.T) {
	isSuspended := func(q int) func(s api.PartState) bool { return waitsIn(q, api.Suspended, never, 0, 0) }
	playAll(t, []row{
		{lines: "ldi r1 5; sys 7", want: "Call 1 SUSPEND NO_ACTION"},
		{other: "ldi r1 60; sys 2", lines: "ldi r1 2; sys 7", want: "Call 1 SUSPEND NO_ACTION", look: waitsIn(2, api.Delayed, 60, 0, 0)},
		{lines: "ldi r1 4; sys 5; sys 7", want: "Start 4; Call 1 START OK; Call 1 SUSPEND NO_ACTION"},
		{who: overHolder, lines: "ldi r1 1; sys 7", want: "Call 3 SUSPEND NO_ACTION", look: func(s api.PartState) bool { return s.Procs[0].State == api.Ready && s.Lock == 1 }},
		{who: handler, lines: "ldi r1 1; sys 7", want: "Call 3 SUSPEND OK", look: isSuspended(1)},
		{lines: "ldi r1 5; sys 5; sys 7", want: "Start 5; Call 1 START OK; Call 1 SUSPEND OK", look: isSuspended(5)},
		{lines: "ldi r1 5; sys 5; sys 7; sys 7", want: "Start 5; Call 1 START OK; Call 1 SUSPEND OK; Call 1 SUSPEND NO_ACTION"},
		{who: holder, lines: "ldi r1 5; sys 5; sys 7", want: "Start 5; Call 1 START OK; Call 1 SUSPEND OK", look: isSuspended(5)},
		{lines: "ldi r1 1; ldi r0 9; sys 7", want: "Call 1 SUSPEND OK", look: isSuspended(1)},
		{who: holder, lines: "ldi r1 1; sys 7", want: "Call 1 SUSPEND LOCKED", look: func(s api.PartState) bool {
			return s.Procs[0].State == api.Ready && s.Lock == 1 && s.Procs[0].Regs[0] == api.ResLocked
		}},
		{who: releases, lines: "ldi r1 1; sys 7", want: "Call 1 SUSPEND NO_ACTION"},
		{who: releasesHolder, lines: "ldi r1 1; sys 7", want: "Call 1 SUSPEND NO_ACTION"},
		{who: handler, lines: "ldi r1 3; sys 7", want: "Call 3 SUSPEND PARAM"},
	})
}

func TestResume(t *testing.T) {
	playAll(t, []row{
		{lines: "ldi r1 5; sys 8", want: "Call 1 RESUME NO_ACTION"},
		{lines: "ldi r1 1; sys 8", want: "Call 1 RESUME NO_ACTION"},
		{other: "ldi r1 60; sys 2", lines: "ldi r1 2; sys 8", want: "Call 1 RESUME NO_ACTION"},
		{lines: "ldi r1 5; sys 5; sys 7; sys 8; sys 8", want: "Start 5; Call 1 START OK; Call 1 SUSPEND OK; Call 1 RESUME OK; Call 1 RESUME NO_ACTION"},
	})
	// One that has suspended itself has nothing more told it.
	x, _ := desk(ordinary, "ldi r1 2; ldi r0 8; ldi r9 4; sys 7; sys 4", "ldi r1 2; sys 8; nop")
	y := newPair(t, x, 1, 0)
	y.runs(4, 1, "Call 2 SUSPEND OK")
	before := y.p.State()
	if s := before.Procs[1]; s.State != api.Suspended || s.Regs[0] != 0 || s.Regs[9] != 4 || s.Place != 3 {
		t.Errorf("it has suspended itself: %+v", s)
	}
	y.runs(3, 2, "Call 1 RESUME OK")
	if s := y.p.State().Procs[1]; s.State != api.Ready || s.Regs != before.Procs[1].Regs || s.PC != before.Procs[1].PC || s.Place != 4 {
		t.Errorf("it is resumed: %+v", s)
	}
	y.runs(1, 3, "")
	y.state(2, api.Dormant)
}

func TestSetPriority(t *testing.T) {
	has := func(q, priority, place, next int) func(s api.PartState) bool {
		return func(s api.PartState) bool {
			p := s.Procs[q-1]
			return p.Priority == priority && p.Place == place && s.Place == next
		}
	}
	playAll(t, []row{
		{lines: "ldi r1 1; ldi r2 0; sys 9", want: "Call 1 SET_PRIORITY OK", look: has(1, 0, 2, 3)},
		{lines: "ldi r1 1; ldi r2 255; sys 9", want: "Call 1 SET_PRIORITY OK", look: has(1, 255, 2, 3)},
		{lines: "ldi r1 5; ldi r2 7; sys 9", want: "Call 1 SET_PRIORITY NO_ACTION", look: has(5, 0, 0, 2)},
		{other: "ldi r1 60; sys 2", lines: "ldi r1 2; ldi r2 3; sys 9", want: "Call 1 SET_PRIORITY OK", look: has(2, 3, 3, 4)},
		{lines: "ldi r1 5; sys 5; ldi r2 4; sys 9", want: "Start 5; Call 1 START OK; Call 1 SET_PRIORITY OK", look: has(5, 4, 3, 4)},
		{who: holder, lines: "ldi r1 1; ldi r2 0; sys 9", want: "Call 1 SET_PRIORITY OK", look: has(1, 0, 2, 3)},
		{who: handler, lines: "ldi r1 1; ldi r2 200; sys 9", want: "Call 3 SET_PRIORITY OK", look: has(1, 200, 3, 4)},
		{who: handler, lines: "ldi r1 3; ldi r2 200; sys 9", want: "Call 3 SET_PRIORITY PARAM", look: has(3, 3, 2, 3)},
	})
}

func TestLock(t *testing.T) {
	holds := func(q int) func(s api.PartState) bool { return func(s api.PartState) bool { return s.Lock == q } }
	playAll(t, []row{
		{lines: "sys 10", want: "Call 1 LOCK OK", look: holds(1)},
		{lines: "sys 10; sys 10", want: "Call 1 LOCK OK; Call 1 LOCK NO_ACTION", look: holds(1)},
		{lines: "sys 10; sys 11; sys 10", want: "Call 1 LOCK OK; Call 1 UNLOCK OK; Call 1 LOCK OK", look: holds(1)},
		{who: handler, lines: "sys 10", want: "Call 3 LOCK NO_ACTION", look: holds(0)},
		{who: overHolder, lines: "sys 10", want: "Call 3 LOCK NO_ACTION", look: holds(1)},
		{who: releases, lines: "sys 10", want: "Call 1 LOCK OK", look: holds(1)},
		{lines: "sys 11", want: "Call 1 UNLOCK NO_ACTION", look: holds(0)},
		{who: holder, lines: "sys 11", want: "Call 1 UNLOCK OK", look: holds(0)},
		{who: holder, lines: "sys 11; sys 11", want: "Call 1 UNLOCK OK; Call 1 UNLOCK NO_ACTION", look: holds(0)},
		{who: handler, lines: "sys 11", want: "Call 3 UNLOCK NO_ACTION", look: holds(0)},
		{who: overHolder, lines: "sys 11", want: "Call 3 UNLOCK NO_ACTION", look: holds(1)},
		// The holder runs, whatever becomes READY beside it.
		{who: holder, lines: "ldi r1 6; sys 5; sys 14", want: "Start 6; Call 1 START OK; Log 1 6; Call 1 LOG OK"},
	})
}

func TestStatus(t *testing.T) {
	tells := func(q int, want ...int64) func(s api.PartState) bool {
		return func(s api.PartState) bool { return slices.Equal(s.Procs[q-1].Regs[:6], want) }
	}
	const args = "; ldi r2 8; ldi r3 8; ldi r4 8; ldi r5 8; ldi r0 8; sys 12"
	playAll(t, []row{
		{lines: "ldi r1 1" + args, want: "Call 1 STATUS OK", look: tells(1, 0, api.Ready, 5, never, 0, 8)},
		{who: holder, lines: "ldi r1 1" + args, want: "Call 1 STATUS OK", look: tells(1, 0, api.Ready, 5, never, 0, 8)},
		{lines: "ldi r1 5" + args, want: "Call 1 STATUS OK", look: tells(1, 0, api.Dormant, 0, never, 0, 8)},
		{lines: "ldi r1 3" + args, want: "Call 1 STATUS OK", look: tells(1, 0, api.Dormant, 0, never, 0, 8)},
		{who: handler, lines: "ldi r1 3" + args, want: "Call 3 STATUS OK", look: tells(3, 0, api.Ready, 3, never, 0, 8)},
		{who: handler, lines: "ldi r1 1" + args, want: "Call 3 STATUS OK", look: tells(3, 0, api.Ready, 5, never, 0, 8)},
		{other: "ldi r1 60; sys 2", lines: "ldi r1 2" + args, want: "Call 1 STATUS OK", look: tells(1, 0, api.Delayed, 9, never, 0, 8)},
		{other: "ldi r1 2; sys 7", lines: "ldi r1 2" + args, want: "Call 1 STATUS OK", look: tells(1, 0, api.Suspended, 9, never, 0, 8)},
	})
	// The deadline and what was missed, of itself and of another one.
	p := api.Part{Health: all(api.ActIgnore)}
	y := newPair(t, alone(with(p, periodic(5, 30, 20, "sys 3; ldi r1 1; sys 12; ldi r1 2; sys 12"), act{api.Proc{Priority: 1, Limit: 90, Auto: true}, "nop"})), 1, 0)
	y.tells(timers(20), "Miss 1 20")
	y.runs(1, 20, "")
	y.tells(timers(30), "Call 1 PERIODIC_WAIT OK")
	y.runs(2, 30, "Call 1 STATUS OK")
	y.regs(1, 0, api.Ready, 5, 50, 1)
	y.runs(2, 30, "Call 1 STATUS OK")
	y.regs(1, 0, api.Ready, 1, 90, 0)
}

func TestSetMode(t *testing.T) {
	isIdle := func(s api.PartState) bool {
		for _, p := range s.Procs {
			if p.State != api.Dormant {
				return false
			}
		}
		return s.Mode == api.Idle && s.Lock == 0 && s.Restarts == 0 && s.Memory[4] == 99 && s.Objects.Sems[1] == 0 && len(s.Ports[2].Queue) == 1
	}
	isNew := func(s api.PartState) bool {
		return s.Mode == api.Normal && s.Restarts == 1 && s.Place == 2 && s.Lock == 0 && s.Memory[4] == 14 && s.Objects.Sems[1] == 1 && len(s.Ports[2].Queue) == 0 && s.Procs[0].Released == at
	}
	const wear = "ldi r1 99; ldi r2 0; st r1 r2 4; ldi r1 2; sys 20; ldi r1 3; sys 17;"
	for _, who := range everybody() {
		q := caller(who)
		want := fmt.Sprintf("Call %d SEM_WAIT OK; Call %d SEND OK; ", q, q)
		row{who: who, lines: wear + "ldi r1 0; sys 13", want: want + "Idle", look: isIdle}.play(t)
		row{who: who, lines: wear + "ldi r1 1; sys 13", want: want + "Restart; Start 1", look: isNew}.play(t)
	}
	// Who waits is stopped too, and starts if it is Auto.
	row{other: "ldi r1 60; sys 2", lines: "ldi r1 0; sys 13", want: "Idle", look: func(s api.PartState) bool { return s.Procs[1].State == api.Dormant }}.play(t)
	row{other: "ldi r1 60; sys 2", lines: "ldi r1 1; sys 13", want: "Restart; Start 1; Start 2", look: func(s api.PartState) bool { return s.Procs[1].State == api.Ready && s.Procs[1].Place == 2 }}.play(t)
}

func TestLog(t *testing.T) {
	for _, a := range []int64{0, 1, -1, top, bottom} {
		for _, who := range everybody() {
			q := caller(who)
			row{who: who, lines: load(1, a) + "sys 14", want: fmt.Sprintf("Log %d %d; Call %d LOG OK", q, a, q)}.play(t)
		}
	}
}

// beside are addresses at which no two words of desk's memory begin.
func beside() []int64 { return []int64{7, 8, 9, -1, -2, top, top - 1, bottom, 1 << 32} }

// fixed are addresses at which two words begin that may not both be written.
func fixed() []int64 { return []int64{0, 1} }

// TestWords (P20.8): the fault FaultMemory of the calls that name words: at the call's own place, with the registers as they were and the place behind it.
func TestWords(t *testing.T) {
	for _, c := range []struct {
		call, about int
		bad         []int64
		good        []int64
	}{
		{api.CallWrite, 1, beside(), []int64{0, 1, 2, 6}},
		{api.CallRead, 2, append(beside(), fixed()...), []int64{2, 6}},
		{api.CallSend, 3, beside(), []int64{0, 1, 2, 6}},
		{api.CallReceive, 4, append(beside(), fixed()...), []int64{2, 6}},
		{api.CallBufferSend, 1, beside(), []int64{0, 1, 2, 6}},
		{api.CallBufferReceive, 1, append(beside(), fixed()...), []int64{2, 6}},
		{api.CallBufferSend, 2, []int64{8, -1, top, bottom}, []int64{0, 1, 7}},
		{api.CallBufferReceive, 2, []int64{8, -1, 0, 1, top, bottom}, []int64{2, 7}},
	} {
		for _, b := range c.bad {
			for _, timeOut := range []int{-1, 0, 5} {
				lines := fmt.Sprintf("ldi r1 %d;", c.about) + load(2, b) + fmt.Sprintf("ldi r3 %d; ldi r0 33; sys %d", timeOut, c.call)
				// The words are asked for ahead of what can be done at once, and of who may wait.
				row{lines: lines, want: "Fault 1 memory 6"}.play(t).state(1, api.Dormant)
				row{who: handler, lines: lines, want: "Fault 3 memory 9; Restart; Start 1"}.play(t)
			}
			// An ignored fault leaves all as it was, but the place.
			x, _ := desk(ordinary, "", fmt.Sprintf("ldi r1 %d;", c.about)+load(2, b)+fmt.Sprintf("ldi r3 -1; ldi r0 33; sys %d", c.call))
			x.Parts[0].Health = all(api.ActIgnore)
			y := newPair(t, x, 1, 0)
			y.runs(6, 1, "")
			before := y.p.State()
			y.runs(1, 1, "Fault 1 memory 6")
			y.regs(1, 33, int64(c.about), b, -1)
			after := y.p.State()
			if after.Procs[0].PC != 7 {
				t.Errorf("call %d of %d, %d: it goes on at %d", c.call, c.about, b, after.Procs[0].PC)
			}
			after.Procs[0].PC = before.Procs[0].PC
			if !sameState(before, after) {
				t.Errorf("call %d of %d, %d: %+v, it was %+v", c.call, c.about, b, after, before)
			}
		}
		for _, b := range c.good {
			y := row{lines: fmt.Sprintf("ldi r1 %d; ldi r2 %d; ldi r3 0; sys %d", c.about, b, c.call)}
			x, ahead := desk(ordinary, "", y.lines)
			z := newPair(t, x, 1, 0)
			for range ahead + 4 {
				if got := show(z.do(run(1)).events); strings.HasPrefix(got, "Fault") {
					t.Errorf("call %d of %d, %d: %s", c.call, c.about, b, got)
				}
			}
		}
	}
}

func TestWriteSample(t *testing.T) {
	for b, want := range map[int][]int64{0: {10, 11}, 1: {11, 12}, 2: {12, 13}, 6: {16, 17}} {
		for _, who := range everybody() {
			lines := fmt.Sprintf("ldi r1 1; ldi r2 %d; sys 15", b)
			x, ahead := desk(who, "", lines)
			y := newPair(t, x, 1, 0)
			for range ahead {
				y.do(run(0))
			}
			writes := y.runs(3, at, fmt.Sprintf("Call %d WRITE OK", caller(who)))
			if !sameWrites(writes, []api.Write{{Port: 1, Data: want}}) {
				t.Errorf("%s, WRITE from %d: %v", who, b, writes)
			}
		}
	}
	// No instruction but that one writes.
	y := newPair(t, alone(with(api.Part{Words: 1, Init: []int64{4}}, plain(1, "ldi r1 1; sys 15; st r1 r0 0; sys 15; sys 14")), api.Port{Part: 1, Kind: api.Sampling, Out: true, Size: 1}), 1, 0)
	for i, want := range [][]api.Write{nil, {{Port: 1, Data: []int64{4}}}, nil, {{Port: 1, Data: []int64{1}}}, nil} {
		if got := y.do(run(i)); !sameWrites(got.writes, want) {
			t.Errorf("instruction %d: %v", i, got.writes)
		}
	}
}

func TestReadSample(t *testing.T) {
	reads := func(result, age int64, words ...int64) func(s api.PartState) bool {
		return func(s api.PartState) bool {
			return s.Procs[0].Regs[0] == result && s.Procs[0].Regs[1] == age && s.Procs[0].Regs[2] == 5 && slices.Equal(s.Memory[5:7], words)
		}
	}
	const lines = "ldi r1 2; ldi r2 5; ldi r0 9; sys 16"
	playAll(t, []row{
		{lines: lines, want: "Call 1 READ EMPTY", look: reads(api.ResEmpty, 2, 15, 16)},
		{lines: lines, ahead: []call{sample(2, 50, 1, 2)}, want: "Call 1 READ OK", look: reads(api.ResOK, 0, 1, 2)},
		{lines: lines, ahead: []call{sample(2, 47, 1, 2)}, want: "Call 1 READ OK", look: reads(api.ResOK, 3, 1, 2)},
		{lines: lines, ahead: []call{sample(2, 46, 1, 2)}, want: "Call 1 READ STALE", look: reads(api.ResStale, 4, 1, 2)},
		{lines: lines, ahead: []call{sample(2, 0, 1, 2)}, want: "Call 1 READ STALE", look: reads(api.ResStale, 50, 1, 2)},
		{lines: lines, ahead: []call{sample(2, 46, 1, 2), sample(2, 49, 0, 0)}, want: "Call 1 READ OK", look: reads(api.ResOK, 1, 0, 0)},
		{who: holder, lines: lines, want: "Call 1 READ EMPTY"},
		{who: handler, lines: lines, want: "Call 3 READ EMPTY"},
		{who: handler, lines: lines, ahead: []call{sample(2, 50, 1, 2)}, want: "Call 3 READ OK"},
	})
}

func TestSend(t *testing.T) {
	const one = "ldi r1 3; ldi r2 2; sys 17;"
	const ok = "Call 1 SEND OK"
	queue := func(messages ...[]int64) func(s api.PartState) bool {
		return func(s api.PartState) bool { return sameMessages(s.Ports[2].Queue, messages) }
	}
	playAll(t, []row{
		{lines: one, want: ok, look: queue([]int64{12, 13})},
		{lines: "ldi r3 -1;" + one, want: ok, look: queue([]int64{12, 13})},
		{who: holder, lines: "ldi r3 -1;" + one, want: ok, look: queue([]int64{12, 13})},
		{who: handler, lines: "ldi r3 -1;" + one, want: "Call 3 SEND OK", look: queue([]int64{12, 13})},
		{lines: one + "sys 17", want: ok + "; Call 1 SEND NOT_NOW", look: queue([]int64{12, 13})},
		{who: holder, lines: one + "sys 17", want: ok + "; Call 1 SEND NOT_NOW"},
		{who: handler, lines: one + "sys 17", want: "Call 3 SEND OK; Call 3 SEND NOT_NOW"},
		{who: holder, lines: one + "ldi r3 5; sys 17", want: ok + "; Call 1 SEND LOCKED"},
		{who: handler, lines: one + "ldi r3 -1; sys 17", want: "Call 3 SEND OK; Call 3 SEND LOCKED"},
		{who: overHolder, lines: one + "ldi r3 -1; sys 17", want: "Call 3 SEND OK; Call 3 SEND LOCKED"},
		{lines: one + "ldi r2 5; ldi r3 5; sys 17", want: ok, look: waitsWith(1, api.Sending, 55, 3, 15, 16)},
		{lines: one + "ldi r2 0; ldi r3 -1; sys 17", want: ok, look: waitsWith(1, api.Sending, never, 3, 10, 11)},
		{lines: one + load(3, bottom) + "sys 17", want: ok, look: waitsWith(1, api.Sending, never, 3, 12, 13)},
		{lines: one + load(3, top) + "sys 17", want: ok, look: waitsWith(1, api.Sending, never, 3, 12, 13)},
		{lines: one + load(3, end-at) + "sys 17", want: ok, look: waitsWith(1, api.Sending, never, 3, 12, 13)},
		{lines: one + load(3, end-at-1) + "sys 17", want: ok, look: waitsWith(1, api.Sending, end-1, 3, 12, 13)},
		{lines: one + "ldi r2 7; sys 17", want: ok + "; Fault 1 memory 5"},
	})
	// What waits is the words as they were at the call.
	y := row{other: "ldi r1 3; ldi r3 -1; sys 17; sys 17", lines: "ldi r9 77; ldi r8 0; st r9 r8 2"}.play(t)
	got := y.tells(take(3, at), "Call 2 SEND OK")
	if !slices.Equal(got.data, []int64{10, 11}) {
		t.Errorf("Take: %v", got.data)
	}
}

func TestReceive(t *testing.T) {
	const lines = "ldi r1 4; ldi r2 5;"
	two := []call{arrive(4, 1, 1, 2), arrive(4, 2, 3, 4)}
	stands := func(memory []int64, messages ...[]int64) func(s api.PartState) bool {
		return func(s api.PartState) bool {
			return slices.Equal(s.Memory[5:7], memory) && sameMessages(s.Ports[3].Queue, messages)
		}
	}
	playAll(t, []row{
		{lines: lines + "sys 18", ahead: two, want: "Call 1 RECEIVE OK", look: stands([]int64{1, 2}, []int64{3, 4})},
		{lines: lines + "sys 18; sys 18; sys 18", ahead: two, want: "Call 1 RECEIVE OK; Call 1 RECEIVE OK; Call 1 RECEIVE NOT_NOW", look: stands([]int64{3, 4})},
		{who: holder, lines: lines + "ldi r3 -1; sys 18", ahead: two, want: "Call 1 RECEIVE OK"},
		{who: handler, lines: lines + "ldi r3 -1; sys 18", ahead: two, want: "Call 3 RECEIVE OK"},
		{lines: lines + "sys 18", want: "Call 1 RECEIVE NOT_NOW", look: stands([]int64{15, 16})},
		{who: holder, lines: lines + "sys 18", want: "Call 1 RECEIVE NOT_NOW"},
		{who: handler, lines: lines + "sys 18", want: "Call 3 RECEIVE NOT_NOW"},
		{who: holder, lines: lines + "ldi r3 1; sys 18", want: "Call 1 RECEIVE LOCKED"},
		{who: handler, lines: lines + "ldi r3 -1; sys 18", want: "Call 3 RECEIVE LOCKED"},
		{lines: lines + "ldi r3 1; sys 18", look: waitsIn(1, api.Receiving, 51, 4, 5)},
		{lines: lines + "ldi r3 -7; sys 18", look: waitsIn(1, api.Receiving, never, 4, 5)},
		{lines: lines + load(3, end-at) + "sys 18", look: waitsIn(1, api.Receiving, never, 4, 5)},
		{lines: lines + load(3, end-at-1) + "sys 18", look: waitsIn(1, api.Receiving, end-1, 4, 5)},
	})
}

func TestPortStatus(t *testing.T) {
	tells := func(q int, want ...int64) func(s api.PartState) bool {
		return func(s api.PartState) bool { return slices.Equal(s.Procs[q-1].Regs[:4], want) }
	}
	three := []call{arrive(4, 1, 1, 2), arrive(4, 2, 3, 4), arrive(4, 2, 5, 6)}
	playAll(t, []row{
		{lines: "ldi r1 1; ldi r2 9; ldi r3 9; sys 19", want: "Call 1 PORT_STATUS OK", look: tells(1, 0, 0, 0, 9)},
		{lines: "ldi r1 2; ldi r2 9; sys 19", want: "Call 1 PORT_STATUS OK", look: tells(1, 0, 0, 0, 0)},
		{lines: "ldi r1 2; ldi r2 -9; sys 19", ahead: []call{sample(2, 1, 1, 2)}, want: "Call 1 PORT_STATUS OK", look: tells(1, 0, 1, 0, 0)},
		{lines: "ldi r1 3; sys 17; ldi r1 3; sys 19", want: "Call 1 SEND OK; Call 1 PORT_STATUS OK", look: tells(1, 0, 1, 0, 0)},
		{lines: "ldi r1 4; sys 19", ahead: three[:1], want: "Call 1 PORT_STATUS OK", look: tells(1, 0, 1, 0, 0)},
		{lines: "ldi r1 4; ldi r0 9; sys 19", ahead: three, want: "Call 1 PORT_STATUS OK", look: tells(1, 0, 2, 1, 0)},
		{who: handler, lines: "ldi r1 4; sys 19", ahead: three, want: "Call 3 PORT_STATUS OK", look: tells(3, 0, 2, 1, int64(0))},
		{who: holder, lines: "ldi r1 4; sys 19", ahead: three, want: "Call 1 PORT_STATUS OK", look: tells(1, 0, 2, 1, 0)},
	})
}

func TestSemaphores(t *testing.T) {
	count := func(sem, want int) func(s api.PartState) bool {
		return func(s api.PartState) bool { return s.Objects.Sems[sem-1] == want }
	}
	playAll(t, []row{
		{lines: "ldi r1 2; ldi r2 -1; sys 20", want: "Call 1 SEM_WAIT OK", look: count(2, 0)},
		{who: holder, lines: "ldi r1 2; ldi r2 -1; sys 20", want: "Call 1 SEM_WAIT OK", look: count(2, 0)},
		{who: handler, lines: "ldi r1 2; ldi r2 -1; sys 20", want: "Call 3 SEM_WAIT OK", look: count(2, 0)},
		{lines: "ldi r1 1; ldi r2 0; ldi r3 5; sys 20", want: "Call 1 SEM_WAIT NOT_NOW"},
		{who: holder, lines: "ldi r1 1; ldi r2 0; sys 20", want: "Call 1 SEM_WAIT NOT_NOW"},
		{who: handler, lines: "ldi r1 1; ldi r2 0; sys 20", want: "Call 3 SEM_WAIT NOT_NOW"},
		{who: holder, lines: "ldi r1 1; ldi r2 1; sys 20", want: "Call 1 SEM_WAIT LOCKED"},
		{who: handler, lines: "ldi r1 1; ldi r2 -1; sys 20", want: "Call 3 SEM_WAIT LOCKED"},
		{lines: "ldi r1 1; ldi r2 1; ldi r3 9; sys 20", look: waitsIn(1, api.AtSem, 51, 1, 0)},
		{lines: "ldi r1 1; ldi r2 -1; sys 20", look: waitsIn(1, api.AtSem, never, 1, 0)},
		{lines: "ldi r1 1;" + load(2, end-at) + "sys 20", look: waitsIn(1, api.AtSem, never, 1, 0)},
		{lines: "ldi r1 1;" + load(2, end-at-1) + "sys 20", look: waitsIn(1, api.AtSem, end-1, 1, 0)},
		{lines: "ldi r1 1; sys 21", want: "Call 1 SEM_SIGNAL OK", look: count(1, 1)},
		{lines: "ldi r1 1; sys 21; sys 21; sys 21", want: "Call 1 SEM_SIGNAL OK; Call 1 SEM_SIGNAL OK; Call 1 SEM_SIGNAL NO_ACTION", look: count(1, 2)},
		{lines: "ldi r1 2; sys 21", want: "Call 1 SEM_SIGNAL NO_ACTION", look: count(2, 1)},
		{who: handler, lines: "ldi r1 1; sys 21", want: "Call 3 SEM_SIGNAL OK", look: count(1, 1)},
		{who: holder, lines: "ldi r1 1; sys 21", want: "Call 1 SEM_SIGNAL OK", look: count(1, 1)},
		{other: "ldi r1 1; ldi r2 -1; sys 20", lines: "ldi r1 1; sys 21", want: "Call 2 SEM_WAIT OK; Call 1 SEM_SIGNAL OK", look: count(1, 0)},
		{other: "ldi r1 1; ldi r2 -1; sys 20", lines: "ldi r1 2; sys 21", want: "Call 1 SEM_SIGNAL NO_ACTION", look: waitsIn(2, api.AtSem, never, 1, 0)},
		{who: holder, other: "ldi r1 1; ldi r2 -1; sys 20", lines: "ldi r1 1; sys 21; sys 21", want: "Call 2 SEM_WAIT OK; Call 1 SEM_SIGNAL OK; Call 1 SEM_SIGNAL OK", look: count(1, 1)},
	})
	// By the greatest priority, then by the least place; only those that wait there.
	wait := "ldi r1 %d; ldi r2 -1; sys 20"
	p := api.Part{Sems: []api.Sem{{Max: 1}, {Max: 1}}}
	p = with(p, plain(5, fmt.Sprintf(wait, 1)), plain(6, fmt.Sprintf(wait, 2)), plain(5, fmt.Sprintf(wait, 1)), plain(7, fmt.Sprintf(wait, 1)), plain(1, "ldi r1 1; sys 10; sys 21; sys 21; sys 21; sys 21; sys 21"))
	y := newPair(t, alone(p), 1, 0)
	y.runs(12, 0, "")
	y.runs(7, 1, "Call 5 LOCK OK; Call 4 SEM_WAIT OK; Call 5 SEM_SIGNAL OK; Call 1 SEM_WAIT OK; Call 5 SEM_SIGNAL OK; Call 3 SEM_WAIT OK; Call 5 SEM_SIGNAL OK; Call 5 SEM_SIGNAL OK; Call 5 SEM_SIGNAL NO_ACTION")
}

func TestEvents(t *testing.T) {
	up := func(event int, want bool) func(s api.PartState) bool {
		return func(s api.PartState) bool { return s.Objects.Events[event-1] == want }
	}
	playAll(t, []row{
		{lines: "ldi r1 1; sys 22", want: "Call 1 EVENT_SET OK", look: up(1, true)},
		{lines: "ldi r1 2; sys 22", want: "Call 1 EVENT_SET OK", look: up(2, true)},
		{lines: "ldi r1 2; sys 23", want: "Call 1 EVENT_RESET OK", look: up(2, false)},
		{lines: "ldi r1 1; sys 23", want: "Call 1 EVENT_RESET OK", look: up(1, false)},
		{who: handler, lines: "ldi r1 1; sys 22; sys 23", want: "Call 3 EVENT_SET OK; Call 3 EVENT_RESET OK", look: up(1, false)},
		{lines: "ldi r1 2; ldi r2 -1; sys 24", want: "Call 1 EVENT_WAIT OK", look: up(2, true)},
		{who: holder, lines: "ldi r1 2; ldi r2 -1; sys 24", want: "Call 1 EVENT_WAIT OK"},
		{who: handler, lines: "ldi r1 2; ldi r2 -1; sys 24", want: "Call 3 EVENT_WAIT OK"},
		{lines: "ldi r1 1; ldi r2 0; ldi r3 5; sys 24", want: "Call 1 EVENT_WAIT NOT_NOW"},
		{who: holder, lines: "ldi r1 1; ldi r2 0; sys 24", want: "Call 1 EVENT_WAIT NOT_NOW"},
		{who: handler, lines: "ldi r1 1; ldi r2 0; sys 24", want: "Call 3 EVENT_WAIT NOT_NOW"},
		{who: holder, lines: "ldi r1 1; ldi r2 1; sys 24", want: "Call 1 EVENT_WAIT LOCKED"},
		{who: handler, lines: "ldi r1 1; ldi r2 -1; sys 24", want: "Call 3 EVENT_WAIT LOCKED"},
		{lines: "ldi r1 1; ldi r2 1; ldi r3 9; sys 24", look: waitsIn(1, api.AtEvent, 51, 1, 0)},
		{lines: "ldi r1 1; ldi r2 -1; sys 24", look: waitsIn(1, api.AtEvent, never, 1, 0)},
		{lines: "ldi r1 1;" + load(2, end-at) + "sys 24", look: waitsIn(1, api.AtEvent, never, 1, 0)},
		{other: "ldi r1 1; ldi r2 -1; sys 24", lines: "ldi r1 2; sys 22", want: "Call 1 EVENT_SET OK", look: waitsIn(2, api.AtEvent, never, 1, 0)},
		{other: "ldi r1 1; ldi r2 -1; sys 24", lines: "ldi r1 1; sys 23", want: "Call 1 EVENT_RESET OK", look: waitsIn(2, api.AtEvent, never, 1, 0)},
		{other: "ldi r1 1; ldi r2 -1; sys 24", lines: "ldi r1 1; sys 22", want: "Call 2 EVENT_WAIT OK; Call 1 EVENT_SET OK", look: up(1, true)},
	})
	// All of them, by their numbers, not by priority; only those that wait there.
	wait := "ldi r1 %d; ldi r2 -1; sys 24"
	p := api.Part{Events: []bool{false, false}}
	p = with(p, plain(5, fmt.Sprintf(wait, 1)), plain(6, fmt.Sprintf(wait, 2)), plain(4, fmt.Sprintf(wait, 1)), plain(7, fmt.Sprintf(wait, 1)), plain(1, "ldi r1 1; sys 22"))
	y := newPair(t, alone(p), 1, 0)
	y.runs(13, 0, "")
	y.runs(1, 1, "Call 1 EVENT_WAIT OK; Call 3 EVENT_WAIT OK; Call 4 EVENT_WAIT OK; Call 5 EVENT_SET OK")
	s := y.p.State()
	if s.Procs[0].Place >= s.Procs[2].Place || s.Procs[2].Place >= s.Procs[3].Place || s.Procs[1].State != api.AtEvent {
		t.Errorf("%+v", s.Procs)
	}
}

func TestBuffers(t *testing.T) {
	buffer := func(n int, messages ...[]int64) func(s api.PartState) bool {
		return func(s api.PartState) bool { return sameMessages(s.Objects.Buffers[n-1], messages) }
	}
	const put, get = "ldi r1 1; ldi r2 4;", "ldi r1 1; ldi r2 6;"
	playAll(t, []row{
		{lines: put + "sys 25", want: "Call 1 BUFFER_SEND OK", look: buffer(1, []int64{14, 15})},
		{who: holder, lines: put + "ldi r3 -1; sys 25", want: "Call 1 BUFFER_SEND OK", look: buffer(1, []int64{14, 15})},
		{who: handler, lines: put + "ldi r3 -1; sys 25", want: "Call 3 BUFFER_SEND OK", look: buffer(1, []int64{14, 15})},
		{lines: "ldi r1 2; ldi r2 7; sys 25; ldi r2 0; sys 25", want: "Call 1 BUFFER_SEND OK; Call 1 BUFFER_SEND OK", look: buffer(2, []int64{17}, []int64{10})},
		{lines: put + "sys 25; sys 25", want: "Call 1 BUFFER_SEND OK; Call 1 BUFFER_SEND NOT_NOW", look: buffer(1, []int64{14, 15})},
		{who: holder, lines: put + "sys 25; sys 25", want: "Call 1 BUFFER_SEND OK; Call 1 BUFFER_SEND NOT_NOW"},
		{who: handler, lines: put + "sys 25; sys 25", want: "Call 3 BUFFER_SEND OK; Call 3 BUFFER_SEND NOT_NOW"},
		{who: holder, lines: put + "ldi r3 1; sys 25; sys 25", want: "Call 1 BUFFER_SEND OK; Call 1 BUFFER_SEND LOCKED"},
		{who: handler, lines: put + "ldi r3 -1; sys 25; sys 25", want: "Call 3 BUFFER_SEND OK; Call 3 BUFFER_SEND LOCKED"},
		{lines: put + "sys 25; ldi r2 0; ldi r3 2; sys 25", want: "Call 1 BUFFER_SEND OK", look: waitsWith(1, api.Putting, 52, 1, 10, 11)},
		{lines: put + "sys 25; ldi r2 6; ldi r3 -1; sys 25", want: "Call 1 BUFFER_SEND OK", look: waitsWith(1, api.Putting, never, 1, 16, 17)},
		{lines: put + "sys 25;" + load(3, end-at) + "sys 25", want: "Call 1 BUFFER_SEND OK", look: waitsWith(1, api.Putting, never, 1, 14, 15)},
		{lines: get + "sys 26", want: "Call 1 BUFFER_RECEIVE NOT_NOW"},
		{who: holder, lines: get + "sys 26", want: "Call 1 BUFFER_RECEIVE NOT_NOW"},
		{who: handler, lines: get + "sys 26", want: "Call 3 BUFFER_RECEIVE NOT_NOW"},
		{who: holder, lines: get + "ldi r3 1; sys 26", want: "Call 1 BUFFER_RECEIVE LOCKED"},
		{who: handler, lines: get + "ldi r3 -1; sys 26", want: "Call 3 BUFFER_RECEIVE LOCKED"},
		{lines: get + "ldi r3 1; sys 26", look: waitsIn(1, api.Getting, 51, 1, 6)},
		{lines: get + "ldi r3 -1; sys 26", look: waitsIn(1, api.Getting, never, 1, 6)},
		{lines: get + load(3, end-at-1) + "sys 26", look: waitsIn(1, api.Getting, end-1, 1, 6)},
		{lines: put + "sys 25; ldi r2 6; sys 26", want: "Call 1 BUFFER_SEND OK; Call 1 BUFFER_RECEIVE OK", look: func(s api.PartState) bool { return buffer(1)(s) && slices.Equal(s.Memory[6:], []int64{14, 15}) }},
		{who: holder, lines: put + "sys 25; ldi r2 6; ldi r3 -1; sys 26", want: "Call 1 BUFFER_SEND OK; Call 1 BUFFER_RECEIVE OK"},
		{other: get + "ldi r3 -1; sys 26", lines: put + "sys 25", want: "Call 2 BUFFER_RECEIVE OK; Call 1 BUFFER_SEND OK", look: func(s api.PartState) bool { return buffer(1)(s) && slices.Equal(s.Memory[6:], []int64{14, 15}) }},
		{other: get + "ldi r3 -1; sys 26", lines: "ldi r1 2; ldi r2 2; sys 25", want: "Call 1 BUFFER_SEND OK", look: waitsIn(2, api.Getting, never, 1, 6)},
		{other: put + "sys 25; ldi r2 0; ldi r3 -1; sys 25", lines: get + "sys 26", want: "Call 2 BUFFER_SEND OK; Call 1 BUFFER_RECEIVE OK", look: func(s api.PartState) bool {
			return buffer(1, []int64{10, 11})(s) && slices.Equal(s.Memory[6:], []int64{14, 15})
		}},
		{who: handler, other: put + "sys 25; ldi r2 0; ldi r3 -1; sys 25", lines: get + "sys 26; sys 26; sys 26", want: "Call 2 BUFFER_SEND OK; Call 3 BUFFER_RECEIVE OK; Call 3 BUFFER_RECEIVE OK; Call 3 BUFFER_RECEIVE NOT_NOW"},
	})
	// What overlaps: one that hands over what lies where it is to be written, one word further.
	row{other: "ldi r1 1; ldi r2 3; ldi r3 -1; sys 26", lines: "ldi r1 1; ldi r2 2; sys 25", want: "Call 2 BUFFER_RECEIVE OK; Call 1 BUFFER_SEND OK", look: func(s api.PartState) bool { return slices.Equal(s.Memory[2:6], []int64{12, 12, 13, 15}) }}.play(t)
	// The first of several, by priority.
	wait := "ldi r1 1; ldi r2 %d; ldi r3 -1; sys 26"
	p := api.Part{Words: 4, Init: []int64{1, 2, 3, 4}, Buffers: []api.Buffer{{Size: 1, Depth: 1}}}
	p = with(p, plain(5, fmt.Sprintf(wait, 2)), plain(6, fmt.Sprintf(wait, 3)), plain(1, "sys 10; ldi r1 1; sys 25; sys 25; sys 25; sys 25"))
	y := newPair(t, alone(p), 1, 0)
	y.runs(8, 0, "")
	y.runs(6, 0, "Call 3 LOCK OK; Call 2 BUFFER_RECEIVE OK; Call 3 BUFFER_SEND OK; Call 1 BUFFER_RECEIVE OK; Call 3 BUFFER_SEND OK; Call 3 BUFFER_SEND OK; Call 3 BUFFER_SEND NOT_NOW")
	y.memory(0, 1, 2, 1, 1)
	wait = "ldi r1 1; ldi r2 %d; ldi r3 -1; sys 25; sys 25"
	p = with(p, plain(5, fmt.Sprintf(wait, 2)), plain(6, fmt.Sprintf(wait, 3)), plain(1, "sys 10; ldi r1 1; sys 26; sys 26; sys 26; sys 26"))
	y = newPair(t, alone(p), 1, 0)
	y.runs(9, 0, "Call 2 BUFFER_SEND OK")
	y.runs(6, 0, "Call 3 LOCK OK; Call 2 BUFFER_SEND OK; Call 3 BUFFER_RECEIVE OK; Call 1 BUFFER_SEND OK; Call 3 BUFFER_RECEIVE OK; Call 3 BUFFER_RECEIVE OK; Call 3 BUFFER_RECEIVE NOT_NOW")
	y.memory(0, 3)
}

// TestTimeOuts (P20.6, P20.8): each wait with a time-out ends at its tick with TIMEOUT, and what it waited for is as it was.
func TestTimeOuts(t *testing.T) {
	for call, lines := range map[int]string{
		api.CallSend:          "ldi r1 3; ldi r3 7; sys 17; sys 17",
		api.CallReceive:       "ldi r1 4; ldi r2 2; ldi r3 7; sys 18",
		api.CallSemWait:       "ldi r1 1; ldi r2 7; sys 20",
		api.CallEventWait:     "ldi r1 1; ldi r2 7; sys 24",
		api.CallBufferSend:    "ldi r1 1; ldi r3 7; sys 25; sys 25",
		api.CallBufferReceive: "ldi r1 1; ldi r2 2; ldi r3 7; sys 26",
	} {
		x, _ := desk(ordinary, "", lines)
		y := newPair(t, x, 1, 0)
		for range 1 + len(split(lines)) {
			y.do(run(at))
		}
		if y.p.CanRun() || y.p.Next(at) != 57 {
			t.Fatalf("%s: it does not wait until 57: %+v", lines, y.p.State().Procs[0])
		}
		y.tells(timers(56), "")
		y.tells(timers(57), fmt.Sprintf("Call 1 %s TIMEOUT", callName(int64(call))))
		y.regs(1, api.ResTimeout)
		y.tells(timers(57), "")
	}
}

// TestRaise (P20.8): the fault FaultRaised at the place of the call, with the registers as they were.
func TestRaise(t *testing.T) {
	row{lines: "ldi r1 4; ldi r0 5; sys 27", want: "Fault 1 raised 3; Start 3", look: func(s api.PartState) bool {
		return s.Procs[0].Regs[0] == 5 && s.Procs[0].Regs[1] == 4 && s.Procs[0].PC == 4 && slices.Equal(s.Procs[2].Regs[:4], []int64{0, api.FaultRaised, 1, 3})
	}}.play(t)
	row{who: holder, lines: "sys 27", want: "Fault 1 raised 2; Start 3", look: func(s api.PartState) bool { return s.Lock == 1 }}.play(t)
	row{who: handler, lines: "sys 27", want: "Fault 3 raised 4; Restart; Start 1"}.play(t)
}
