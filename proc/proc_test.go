package proc_test

import (
	"fmt"
	"math"
	"slices"
	"strings"
	"testing"

	"bulkhead/api"
	"bulkhead/proc"
)

// Calls, in short.
func start(p, now int, args ...int64) call {
	c := call{name: "Start", proc: p, a: now}
	copy(c.args[:], args)
	return c
}
func stop(p int) call                  { return call{name: "Stop", proc: p} }
func suspend(p int) call               { return call{name: "Suspend", proc: p} }
func resume(p int) call                { return call{name: "Resume", proc: p} }
func lock(p int) call                  { return call{name: "Lock", proc: p} }
func unlock(p int) call                { return call{name: "Unlock", proc: p} }
func setPriority(p, priority int) call { return call{name: "SetPriority", proc: p, a: priority} }
func yield(p int) call                 { return call{name: "Yield", proc: p} }
func waitIn(p, state, until, object int, data ...int64) call {
	return call{name: "Wait", proc: p, a: state, b: until, c: object, data: data}
}
func period(p, now int) call     { return call{name: "Period", proc: p, a: now} }
func wake(p, result int) call    { return call{name: "Wake", proc: p, a: result} }
func set(p, pc int) call         { return call{name: "Set", proc: p, a: pc, regs: laid()} }
func fire(p, kind, now int) call { return call{name: "Fire", proc: p, a: kind, b: now} }

// laid is the registers that set lays down.
func laid() [api.Regs]int64 { return [api.Regs]int64{5, 6, 7, 15: 9} }

// waiting are the states in which Wait lets a process wait.
func waiting() []int {
	return []int{api.Delayed, api.Sending, api.Receiving, api.AtSem, api.AtEvent, api.Putting, api.Getting}
}

// is wants a process to stand just so.
func (x *pair) is(number int, want api.ProcState) {
	x.t.Helper()
	if s, ok := x.table.Get(number); !ok || !same(s, want) {
		x.t.Fatalf("Get(%d):\n%+v, %v; want\n%+v", number, s, ok, want)
	}
}

// picks wants this process to be the one that may run; 0: none.
func (x *pair) picks(want int) {
	x.t.Helper()
	if p, ok := x.table.Pick(); p != want || ok != (want != 0) {
		x.t.Fatalf("Pick = %d, %v; want %d", p, ok, want)
	}
}

// holds wants this process to hold the lock; 0: nobody.
func (x *pair) holds(want int) {
	x.t.Helper()
	if p, ok := x.table.Holder(); p != want || ok != (want != 0) {
		x.t.Fatalf("Holder = %d, %v; want %d", p, ok, want)
	}
}

// next wants this to be the next tick of a timer.
func (x *pair) next(now, want int) {
	x.t.Helper()
	if tick := x.table.Next(now); tick != want {
		x.t.Fatalf("Next(%d) = %d; want %d", now, tick, want)
	}
}

// line wants a line to be this.
func (x *pair) line(state, object int, want ...int) {
	x.t.Helper()
	if got := x.table.Line(state, object); !slices.Equal(got, want) {
		x.t.Fatalf("Line(%d, %d) = %v; want %v", state, object, got, want)
	}
}

// due wants a timer to be due or not.
func (x *pair) due(number, kind, now int, want bool) {
	x.t.Helper()
	if got := x.table.Due(number, kind, now); got != want {
		x.t.Fatalf("Due(%d, %d, %d) = %v", number, kind, now, got)
	}
}

// asleep is a DORMANT process.
func asleep(misses int) api.ProcState {
	return api.ProcState{Released: never, Deadline: never, Until: never, Misses: misses}
}

// one is a partition of one process, with code of 20 instructions.
func one(q api.Proc) api.Part {
	return api.Part{Code: make([]api.Instr, 20), Procs: []api.Proc{q}}
}

// TestChapter: the chapter's examples, one behind the other.
func TestChapter(t *testing.T) {
	x := newPair(t, chapter())
	x.picks(0)
	x.must(start(2, 3), start(1, 3, 8))
	x.refuses(start(2, 3), start(4, 3), start(3, end))
	x.is(2, api.ProcState{State: api.Ready, Priority: 5, Place: 1, PC: 7, Released: 3, Deadline: 7, Until: never})
	x.is(1, api.ProcState{State: api.Ready, Priority: 5, Place: 2, Regs: [api.Regs]int64{1: 8}, Released: 3, Deadline: never, Until: never})
	x.picks(2)
	x.must(yield(2))
	x.picks(1)
	x.next(3, 7)
	x.due(2, api.TimerDeadline, 7, true)
	x.refuses(fire(2, api.TimerRelease, 7))
	x.must(fire(2, api.TimerDeadline, 7))
	x.next(7, 13)
	x.must(fire(2, api.TimerRelease, 13))
	x.is(2, api.ProcState{State: api.Ready, Priority: 5, Place: 3, PC: 7, Released: 3, Deadline: never, Until: never, Late: true, Misses: 1})
	x.next(13, never)
	x.must(period(2, 14))
	x.is(2, api.ProcState{State: api.InPeriod, Priority: 5, Place: 4, PC: 7, Released: 3, Deadline: never, Until: 23, Late: true, Misses: 1})
	x.next(14, 23)
	x.must(fire(2, api.TimerRelease, 23))
	x.is(2, api.ProcState{State: api.Ready, Priority: 5, Place: 5, PC: 7, Released: 23, Deadline: 27, Until: never, Misses: 1})
	x.must(lock(1))
	x.refuses(lock(2))
	x.picks(1)
	x.must(start(3, 23, 1, 2, 3))
	x.picks(3)
	x.refuses(suspend(1), waitIn(1, api.Delayed, 30, 0))
	x.must(stop(1))
	x.holds(0)
	x.must(waitIn(2, api.AtSem, 40, 6))
	x.line(api.AtSem, 6, 2)
	x.must(fire(2, api.TimerWake, 40))
	x.is(2, api.ProcState{State: api.Ready, Priority: 5, Place: 8, Regs: [api.Regs]int64{api.ResTimeout}, PC: 7, Released: 23, Deadline: 27, Until: never, Misses: 1})
	x.refuses(suspend(2), resume(2), period(3, 40), set(3, 21))
}

// TestNew (P15.1): all are DORMANT, nobody holds the lock, the next place is 1.
func TestNew(t *testing.T) {
	for what, p := range families() {
		table := proc.New(p)
		list, lock, place := table.States()
		if len(list) != len(p.Procs) || lock != 0 || place != 1 {
			t.Errorf("%s: %d states, lock %d, place %d", what, len(list), lock, place)
		}
		for i, s := range list {
			if !same(s, asleep(0)) {
				t.Errorf("%s: process %d: %+v", what, i+1, s)
			}
		}
		x := newPair(t, p)
		x.picks(0)
		x.holds(0)
		x.next(bottom, never)
		x.must(start(len(p.Procs), 0))
		if s, _ := x.table.Get(len(p.Procs)); s.Place != 1 {
			t.Errorf("%s: the first place is %d", what, s.Place)
		}
	}
}

// TestLoadRefuses (P15.2): not as many states as processes, or a holder that is not there.
func TestLoadRefuses(t *testing.T) {
	for what, p := range families() {
		n := len(p.Procs)
		for _, count := range []int{0, n - 1, n + 1, 2 * n, api.MaxProcs + 1} {
			if y, err := proc.Load(p, make([]api.ProcState, count), 0, 1); y != nil || err != api.ErrForm {
				t.Errorf("%s: %d states of %d: %v, %d", what, count, n, y, err)
			}
		}
		for _, lock := range []int{bottom, bottom + 1, -n, -1, n + 1, n + 2, top} {
			if y, err := proc.Load(p, make([]api.ProcState, n), lock, 1); y != nil || err != api.ErrForm {
				t.Errorf("%s: lock %d of %d: %v, %d", what, lock, n, y, err)
			}
		}
		for _, lock := range []int{0, 1, n} {
			if y, err := proc.Load(p, make([]api.ProcState, n), lock, 1); y == nil || err != api.OK {
				t.Errorf("%s: lock %d of %d: %v, %d", what, lock, n, y, err)
			}
		}
	}
	// Of no states at all nil is as good as an empty list.
	if y, err := proc.Load(chapter(), nil, 0, 1); y != nil || err != api.ErrForm {
		t.Errorf("no states of three: %v, %d", y, err)
	}
}

// TestLoadStands (P15.2): whatever the states and the place are, the table stands so.
func TestLoadStands(t *testing.T) {
	odd := func(n int) api.ProcState {
		return api.ProcState{State: n, Priority: n, Place: n, Regs: [api.Regs]int64{int64(n), 15: int64(n)}, PC: n, Released: n, Deadline: n, Until: n, Late: n%2 == 0, Object: n, Addr: n, Data: []int64{int64(n), 4}, Misses: n}
	}
	for _, n := range strange() {
		list := []api.ProcState{odd(n), {}, odd(n + 1)}
		for lock := range 4 {
			y, err := proc.Load(chapter(), list, lock, n)
			if y == nil || err != api.OK {
				t.Fatalf("%d: %d", n, err)
			}
			if got, holder, place := y.States(); !slices.EqualFunc(got, list, same) || holder != lock || place != n {
				t.Errorf("States: %+v, %d, %d; want %+v, %d, %d", got, holder, place, list, lock, n)
			}
			for i, want := range list {
				if s, ok := y.Get(i + 1); !ok || !same(s, want) {
					t.Errorf("Get(%d): %+v, %v; want %+v", i+1, s, ok, want)
				}
			}
			if h, ok := y.Holder(); h != lock || ok != (lock != 0) {
				t.Errorf("Holder: %d, %v; want %d", h, ok, lock)
			}
		}
	}
}

// TestStart (P15.3): a process begins as the image says.
func TestStart(t *testing.T) {
	x := newPair(t, api.Part{Code: make([]api.Instr, 20), Handler: 4, Procs: []api.Proc{{Priority: 255, Entry: 19}, {Period: 10, Limit: 10, Entry: 3}, {Limit: 1}, {Priority: 4, Entry: 5}}})
	x.must(start(3, 0), start(1, end-1, math.MinInt64, -1, math.MaxInt64), start(4, 7, 1, 2, 3), start(2, 0))
	x.is(1, api.ProcState{State: api.Ready, Priority: 255, Place: 2, Regs: [api.Regs]int64{1: math.MinInt64, 2: -1, 3: math.MaxInt64}, PC: 19, Released: end - 1, Deadline: never, Until: never})
	x.is(2, api.ProcState{State: api.Ready, Place: 4, PC: 3, Released: 0, Deadline: 10, Until: never})
	x.is(3, api.ProcState{State: api.Ready, Place: 1, Released: 0, Deadline: 1, Until: never})
	x.is(4, api.ProcState{State: api.Ready, Priority: 4, Place: 3, Regs: [api.Regs]int64{1: 1, 2: 2, 3: 3}, PC: 5, Released: 7, Deadline: never, Until: never})
	for number := range 4 {
		x.refuses(start(number+1, 8))
	}
	for _, now := range []int{bottom, -end, -2, -1, end, end + 1, top} {
		y := newPair(t, chapter())
		y.refuses(start(1, now), start(2, now), start(3, now))
	}
}

// TestStartAnew (P15.3, P15.4): of a former life only Misses stays.
func TestStartAnew(t *testing.T) {
	x := newPair(t, one(api.Proc{Priority: 6, Period: 10, Limit: 4, Entry: 2}))
	x.must(start(1, 0, 1, 2, 3), set(1, 9), setPriority(1, 200), fire(1, api.TimerDeadline, 4), fire(1, api.TimerRelease, 10), waitIn(1, api.Sending, 50, 3, 7, 8), stop(1))
	x.is(1, asleep(1))
	x.must(start(1, 11))
	x.is(1, api.ProcState{State: api.Ready, Priority: 6, Place: 4, PC: 2, Released: 11, Deadline: 15, Until: never, Misses: 1})
	x.must(fire(1, api.TimerDeadline, 15), stop(1))
	x.is(1, asleep(2))
}

// TestDeadline (P15.3): the deadline from a tick, at the end of ticks too.
func TestDeadline(t *testing.T) {
	cases := []struct{ limit, period, now, want int }{
		{0, 0, 5, never}, {0, 9, 5, never}, {1, 0, 5, 6}, {9, 9, 5, 14}, {1, 1, 0, 1},
		{1, 0, end - 2, end - 1}, {1, 0, end - 1, never}, {10, 10, end - 11, end - 1}, {10, 10, end - 10, never}, {10, 10, end - 1, never},
		{end - 1, 0, 0, end - 1}, {end - 1, 0, 1, never}, {end - 1, end - 1, end - 1, never},
	}
	for _, c := range cases {
		x := newPair(t, one(api.Proc{Period: c.period, Limit: c.limit}))
		x.must(start(1, c.now))
		if s, _ := x.table.Get(1); s.Deadline != c.want {
			t.Errorf("Limit %d from %d: %d, want %d", c.limit, c.now, s.Deadline, c.want)
		}
	}
}

// TestStop (P15.4): from every state to DORMANT; the lock goes with its holder alone.
func TestStop(t *testing.T) {
	for _, s := range situations() {
		x := s.begin(t)
		before, held, _ := x.table.States()
		if strings.HasPrefix(s.name, "DORMANT") {
			x.refuses(stop(s.proc))
			continue
		}
		x.must(stop(s.proc))
		x.is(s.proc, asleep(before[s.proc-1].Misses))
		if held == s.proc {
			held = 0
		}
		x.holds(held)
		x.refuses(stop(s.proc))
	}
}

// TestSuspend (P15.5).
func TestSuspend(t *testing.T) {
	x := newPair(t, chapter())
	x.refuses(suspend(1), suspend(2), suspend(3), resume(1), resume(2), resume(3))
	x.must(start(1, 3, 4, 5, 6), start(2, 3), start(3, 3), set(1, 8))
	x.refuses(suspend(2))
	x.must(suspend(1))
	x.is(1, api.ProcState{State: api.Suspended, Priority: 5, Place: 4, Regs: laid(), PC: 8, Released: 3, Deadline: never, Until: never})
	x.refuses(suspend(1), resume(2), resume(3))
	x.must(resume(1))
	x.is(1, api.ProcState{State: api.Ready, Priority: 5, Place: 5, Regs: laid(), PC: 8, Released: 3, Deadline: never, Until: never})
	x.refuses(resume(1))
	x.must(lock(1))
	x.refuses(suspend(1))
	x.must(suspend(3), unlock(1), suspend(1), resume(3))
	x.picks(3)
}

// TestSuspendKeepsDeadline (P15.5): what is suspended may still miss its deadline.
func TestSuspendKeepsDeadline(t *testing.T) {
	x := newPair(t, one(api.Proc{Limit: 4}))
	x.must(start(1, 1), suspend(1))
	x.next(1, 5)
	x.must(fire(1, api.TimerDeadline, 5))
	x.is(1, api.ProcState{State: api.Suspended, Place: 2, Released: 1, Deadline: never, Until: never, Misses: 1})
}

// TestPick (P15.6): the handler, the holder, the greatest priority, the least place.
func TestPick(t *testing.T) {
	p := api.Part{Code: make([]api.Instr, 1), Handler: 2, Procs: []api.Proc{{Priority: 5}, {}, {Priority: 9}, {Priority: 5}, {Priority: 255}, {}}}
	x := newPair(t, p)
	x.picks(0)
	x.must(start(6, 0))
	x.picks(6)
	x.must(start(4, 0))
	x.picks(4)
	x.must(start(1, 0))
	x.picks(4)
	x.must(yield(4))
	x.picks(1)
	x.must(start(3, 0))
	x.picks(3)
	x.must(lock(6))
	x.picks(6)
	x.must(start(5, 0))
	x.picks(6)
	x.must(start(2, 0))
	x.picks(2)
	x.must(waitIn(2, api.AtEvent, never, 1))
	x.picks(6)
	x.must(wake(2, 0))
	x.picks(2)
	x.must(suspend(2))
	x.picks(6)
	x.must(unlock(6))
	x.picks(5)
	x.must(waitIn(5, api.Delayed, 9, 0), waitIn(3, api.Delayed, 9, 0))
	x.picks(1)
	x.must(setPriority(1, 5))
	x.picks(4)
	x.must(waitIn(1, api.Delayed, 9, 0), waitIn(4, api.Delayed, 9, 0), stop(6))
	x.picks(0)
	x.must(resume(2))
	x.picks(2)
	x.must(stop(2))
	x.picks(0)
}

// TestPickEdges (P15.6): Priority 0 and MaxPriority; in a partition without a handler none goes ahead.
func TestPickEdges(t *testing.T) {
	x := newPair(t, api.Part{Code: make([]api.Instr, 1), Procs: []api.Proc{{}, {Priority: 255}, {Priority: 254}}})
	x.must(start(1, 0), start(3, 0))
	x.picks(3)
	x.must(start(2, 0))
	x.picks(2)
	x.must(setPriority(2, 0))
	x.picks(3)
	x.must(setPriority(3, 0))
	x.picks(1)
	x.must(setPriority(1, 0))
	x.picks(2)
	x.must(setPriority(1, 255))
	x.picks(1)
}

// TestLock (P15.7).
func TestLock(t *testing.T) {
	x := newPair(t, chapter())
	x.refuses(lock(1), unlock(1), unlock(0))
	x.must(start(1, 0), start(2, 0), start(3, 0))
	x.refuses(lock(3), unlock(1), unlock(2), unlock(3), unlock(0))
	x.must(lock(2))
	x.holds(2)
	x.refuses(lock(1), lock(2), lock(3), unlock(1), unlock(3), unlock(0))
	x.must(unlock(2))
	x.holds(0)
	x.refuses(unlock(2))
	x.must(lock(1))
	x.holds(1)
	x.must(stop(2), stop(3))
	x.holds(1)
	x.must(stop(1))
	x.holds(0)
	// What the lock keeps off is over with it.
	x.must(start(2, 0), lock(2))
	x.refuses(period(2, 1), waitIn(2, api.Getting, 4, 1))
	x.must(unlock(2), period(2, 1))
	x.refuses(lock(2))
}

// TestLockTimers (P15.7, P15.14): of the holder deadline and release are due as of others, and leave it the lock.
func TestLockTimers(t *testing.T) {
	x := newPair(t, one(api.Proc{Period: 4, Limit: 4}))
	x.must(start(1, 0), lock(1), fire(1, api.TimerDeadline, 4), fire(1, api.TimerRelease, 4))
	x.holds(1)
	x.is(1, api.ProcState{State: api.Ready, Place: 1, Released: 0, Deadline: never, Until: never, Late: true, Misses: 1})
}

// TestPriority (P15.8): a new priority, and a new place if it is READY.
func TestPriority(t *testing.T) {
	x := newPair(t, chapter())
	x.refuses(setPriority(1, 5), yield(1))
	x.must(start(1, 0), start(2, 0))
	for _, priority := range []int{bottom, -256, -1, 256, 257, 1 << 32, top} {
		x.refuses(setPriority(1, priority))
	}
	x.must(setPriority(1, 0))
	x.is(1, api.ProcState{State: api.Ready, Place: 3, Released: 0, Deadline: never, Until: never})
	x.must(setPriority(1, 255))
	x.is(1, api.ProcState{State: api.Ready, Priority: 255, Place: 4, Released: 0, Deadline: never, Until: never})
	x.must(lock(1), setPriority(1, 1), unlock(1))
	x.must(waitIn(1, api.AtSem, 30, 2, 9), setPriority(1, 8))
	x.is(1, api.ProcState{State: api.AtSem, Priority: 8, Place: 6, Released: 0, Deadline: never, Until: 30, Object: 2, Data: []int64{9}})
	x.must(period(2, 1), setPriority(2, 77))
	x.is(2, api.ProcState{State: api.InPeriod, Priority: 77, Place: 7, PC: 7, Released: 0, Deadline: never, Until: 10})
	// The next job keeps it; the next life has the image's.
	x.must(fire(2, api.TimerRelease, 10))
	x.is(2, api.ProcState{State: api.Ready, Priority: 77, Place: 8, PC: 7, Released: 10, Deadline: 14, Until: never})
	x.must(stop(2), start(2, 11))
	x.is(2, api.ProcState{State: api.Ready, Priority: 5, Place: 9, PC: 7, Released: 11, Deadline: 15, Until: never})
}

// TestYield (P15.8): just a new place.
func TestYield(t *testing.T) {
	x := newPair(t, one(api.Proc{Period: 9, Limit: 9, Priority: 3}))
	x.must(start(1, 2, 4), yield(1), lock(1), yield(1))
	x.is(1, api.ProcState{State: api.Ready, Priority: 3, Place: 3, Regs: [api.Regs]int64{1: 4}, Released: 2, Deadline: 11, Until: never})
	x.must(unlock(1), period(1, 3))
	x.refuses(yield(1))
}

// TestWait (P15.9): as handed in, in the states that are named alone.
func TestWait(t *testing.T) {
	for _, state := range waiting() {
		for _, until := range []int{never, 0, 1, end - 2, end - 1} {
			x := newPair(t, chapter())
			x.must(start(2, 3), set(2, 1))
			c := call{name: "Wait", proc: 2, a: state, b: until, c: 6, d: 7, data: []int64{1, -2}}
			x.must(c)
			x.is(2, api.ProcState{State: state, Priority: 5, Place: 2, Regs: laid(), PC: 1, Released: 3, Deadline: 7, Until: until, Object: 6, Addr: 7, Data: []int64{1, -2}})
			x.refuses(c)
		}
		for _, until := range []int{bottom, bottom + 1, -end, -2, end, end + 1, 1 << 41, top} {
			x := newPair(t, chapter())
			x.must(start(1, 0))
			x.refuses(waitIn(1, state, until, 1))
		}
	}
	for _, state := range append(strange(), api.Dormant, api.Ready, api.InPeriod, api.Suspended, -api.Delayed, 1<<32+api.Delayed) {
		if slices.Contains(waiting(), state) {
			continue
		}
		x := newPair(t, chapter())
		x.must(start(1, 0), start(2, 0), start(3, 0))
		for number := range 3 {
			x.refuses(waitIn(number+1, state, 5, 1), waitIn(number+1, state, never, 0))
		}
	}
}

// TestWaitArguments (P15.9): Object and Addr are any numbers, Data any list; each wait has its own.
func TestWaitArguments(t *testing.T) {
	x := newPair(t, one(api.Proc{}))
	x.must(start(1, 0))
	for _, n := range strange() {
		c := call{name: "Wait", proc: 1, a: api.Putting, b: 9, c: n, d: -n, data: make([]int64, max(0, min(n, 300)))}
		for i := range c.data {
			c.data[i] = int64(n - i)
		}
		x.must(c)
		x.line(api.Putting, n, 1)
		x.must(wake(1, 0), waitIn(1, api.Delayed, 1, 0))
		if s, _ := x.table.Get(1); s.Object != 0 || s.Addr != 0 || len(s.Data) != 0 {
			t.Fatalf("what a former wait was with is still there: %+v", s)
		}
		x.must(wake(1, 0))
	}
}

// TestPeriod (P15.10): the job is done; the next one is the least release above now.
func TestPeriod(t *testing.T) {
	cases := []struct{ period, released, now, until int }{
		{10, 3, 3, 13}, {10, 3, 12, 13}, {10, 3, 13, 23}, {10, 3, 14, 23}, {10, 3, 22, 23}, {10, 3, 23, 33}, {10, 3, 1000003, 1000013}, {10, 3, 1000002, 1000003},
		{1, 0, 0, 1}, {1, 0, 7, 8}, {1, 5, end - 2, end - 1}, {1, 5, end - 1, never},
		{10, end - 11, end - 11, end - 1}, {10, end - 11, end - 2, end - 1}, {10, end - 11, end - 1, never}, {10, end - 10, end - 10, never}, {10, end - 1, end - 1, never}, {10, 0, end - 1, never},
		{end - 1, 0, 0, end - 1}, {end - 1, 0, end - 2, end - 1}, {end - 1, 0, end - 1, never}, {end - 1, 1, 1, never}, {end - 1, end - 1, end - 1, never},
	}
	for _, c := range cases {
		x := newPair(t, one(api.Proc{Period: c.period, Limit: c.period, Entry: 4, Priority: 2}))
		x.must(start(1, c.released, 7))
		for _, now := range []int{c.released - 1, -1, -2, bottom, end, end + 1, top} {
			x.refuses(period(1, now))
		}
		x.must(period(1, c.now))
		x.is(1, api.ProcState{State: api.InPeriod, Priority: 2, Place: 2, Regs: [api.Regs]int64{1: 7}, PC: 4, Released: c.released, Deadline: never, Until: c.until})
		x.next(c.now, c.until)
		x.refuses(period(1, c.now), period(1, end-1), wake(1, 0))
		if c.until != never {
			x.refuses(fire(1, api.TimerRelease, c.until-1), fire(1, api.TimerWake, c.until), fire(1, api.TimerDeadline, c.until))
			x.must(fire(1, api.TimerRelease, c.until))
			if s, _ := x.table.Get(1); s.Released != c.until || s.Late {
				t.Errorf("%+v: the next job: %+v", c, s)
			}
		}
	}
}

// TestLate (P15.10, P15.14): a job that is done behind several releases, and just at one; those on the way are passed over.
func TestLate(t *testing.T) {
	for done, want := range map[int]int{10: 20, 11: 20, 19: 20, 20: 30, 21: 30, 39: 40, 40: 50, 41: 50} {
		x := newPair(t, one(api.Proc{Period: 10}))
		x.must(start(1, 0))
		x.next(0, 10)
		x.must(fire(1, api.TimerRelease, 10))
		x.next(0, never)
		x.refuses(fire(1, api.TimerRelease, 10), fire(1, api.TimerRelease, 20))
		x.must(period(1, done))
		x.is(1, api.ProcState{State: api.InPeriod, Place: 2, Released: 0, Deadline: never, Until: want, Late: true})
		x.must(fire(1, api.TimerRelease, want))
		x.is(1, api.ProcState{State: api.Ready, Place: 3, Released: want, Deadline: never, Until: never})
		x.next(want, want+10)
	}
}

// TestLateWaits (P15.14): one that waits for something else at its release is late, and waits on.
func TestLateWaits(t *testing.T) {
	for _, state := range waiting() {
		x := newPair(t, one(api.Proc{Period: 10, Limit: 7}))
		x.must(start(1, 0), waitIn(1, state, 12, 5, 3))
		x.next(0, 7)
		x.must(fire(1, api.TimerDeadline, 7))
		x.next(7, 10)
		x.must(fire(1, api.TimerRelease, 10))
		x.is(1, api.ProcState{State: state, Place: 2, Released: 0, Deadline: never, Until: 12, Late: true, Object: 5, Data: []int64{3}, Misses: 1})
		x.next(10, 12)
		x.must(fire(1, api.TimerWake, 12))
		want := int64(api.ResTimeout)
		if state == api.Delayed {
			want = api.ResOK
		}
		x.is(1, api.ProcState{State: api.Ready, Place: 3, Regs: [api.Regs]int64{want}, Released: 0, Deadline: never, Until: never, Late: true, Misses: 1})
	}
}

// TestDeadlineAtRelease (P15.14): both are due at one tick; the deadline is asked first, and neither takes the other away.
func TestDeadlineAtRelease(t *testing.T) {
	x := newPair(t, one(api.Proc{Period: 4, Limit: 4}))
	x.must(start(1, 2))
	x.next(2, 6)
	x.due(1, api.TimerDeadline, 6, true)
	x.due(1, api.TimerRelease, 6, true)
	x.must(fire(1, api.TimerDeadline, 6))
	x.due(1, api.TimerRelease, 6, true)
	x.next(5, 6)
	x.must(fire(1, api.TimerRelease, 6))
	x.is(1, api.ProcState{State: api.Ready, Place: 1, Released: 2, Deadline: never, Until: never, Late: true, Misses: 1})
	x.refuses(fire(1, api.TimerDeadline, 6), fire(1, api.TimerRelease, 6))
	x.must(period(1, 6), fire(1, api.TimerRelease, 10))
	x.is(1, api.ProcState{State: api.Ready, Place: 3, Released: 10, Deadline: 14, Until: never, Misses: 1})
	// Done just ahead of both, it has neither.
	x.must(period(1, 13))
	x.refuses(fire(1, api.TimerDeadline, 14))
	x.must(fire(1, api.TimerRelease, 14))
	x.is(1, api.ProcState{State: api.Ready, Place: 5, Released: 14, Deadline: 18, Until: never, Misses: 1})
}

// TestWake (P15.11): any result in r0, the other registers as they were.
func TestWake(t *testing.T) {
	for _, state := range append(waiting(), api.Suspended) {
		for _, result := range []int{bottom, -1, 0, api.ResOK, api.ResTimeout, api.ResStale, top} {
			x := newPair(t, one(api.Proc{Limit: 30}))
			x.must(start(1, 1), set(1, 12))
			if state == api.Suspended {
				x.must(suspend(1))
			} else {
				x.must(waitIn(1, state, 20, 3, 1, 2))
			}
			x.must(wake(1, result))
			x.is(1, api.ProcState{State: api.Ready, Place: 3, Regs: [api.Regs]int64{int64(result), 6, 7, 15: 9}, PC: 12, Released: 1, Deadline: 31, Until: never})
			x.refuses(wake(1, result), fire(1, api.TimerWake, 20))
			x.next(1, 31)
		}
	}
}

// TestLine (P15.12): by falling Priority, those of one by rising Place.
func TestLine(t *testing.T) {
	for _, state := range waiting() {
		x := newPair(t, api.Part{Code: make([]api.Instr, 1), Procs: alike(api.MaxProcs, api.Proc{Priority: 4})})
		var order []int
		for i := range api.MaxProcs {
			order = append(order, i*7%api.MaxProcs+1)
		}
		for _, number := range order {
			x.must(start(number, 0))
		}
		slices.Reverse(order)
		for _, number := range order {
			x.must(waitIn(number, state, never, 2))
		}
		x.line(state, 2, order...)
		x.line(state, 1)
		x.line(state, 0)
		// A new priority moves one among the others of it, but by the place it had.
		x.must(setPriority(order[5], 9), setPriority(order[2], 9), setPriority(order[9], 255), setPriority(order[0], 0))
		want := []int{order[9], order[2], order[5]}
		for i, number := range order {
			if i != 9 && i != 2 && i != 5 && i != 0 {
				want = append(want, number)
			}
		}
		x.line(state, 2, append(want, order[0])...)
		x.must(wake(order[9], 0), wake(order[3], 0), waitIn(order[3], state, never, 3), setPriority(order[3], 200))
		x.line(state, 3, order[3])
		want = slices.DeleteFunc(want[1:], func(number int) bool { return number == order[3] })
		x.line(state, 2, append(want, order[0])...)
	}
}

// TestLineStates (P15.12): those that wait in InPeriod or Suspended stand at object 0; of Dormant, Ready and what is no state there is none.
func TestLineStates(t *testing.T) {
	x := newPair(t, api.Part{Code: make([]api.Instr, 1), Procs: []api.Proc{{Period: 5}, {}, {Period: 5, Priority: 1}, {}, {}, {}}})
	for number := range 5 {
		x.must(start(number+1, 0))
	}
	x.must(suspend(4), suspend(2), period(1, 0), period(3, 0))
	x.line(api.InPeriod, 0, 3, 1)
	x.line(api.Suspended, 0, 4, 2)
	x.line(api.InPeriod, 1)
	x.line(api.Suspended, -1)
	x.line(api.Ready, 0)
	x.line(api.Dormant, 0)
	for _, state := range append(strange(), -api.Suspended, api.Suspended+1) {
		if state == api.Suspended || state == api.InPeriod {
			continue
		}
		for _, object := range strange() {
			x.line(state, object)
		}
	}
}

// TestSet (P15.13): registers and place of a READY process, within the code and just behind it.
func TestSet(t *testing.T) {
	for _, length := range []int{1, 20, api.MaxCode} {
		x := newPair(t, api.Part{Code: make([]api.Instr, length), Handler: 2, Procs: []api.Proc{{}, {}, {Period: 4}}})
		x.refuses(set(1, 0))
		x.must(start(1, 5), start(2, 5), start(3, 5))
		for _, pc := range []int{bottom, -length, -1, length + 1, length + 2, 1 << 32, top} {
			x.refuses(set(1, pc), set(2, pc), set(3, pc))
		}
		for _, pc := range []int{0, length - 1, length} {
			x.must(set(1, pc))
			x.is(1, api.ProcState{State: api.Ready, Place: 1, Regs: laid(), PC: pc, Released: 5, Deadline: never, Until: never})
		}
		x.must(lock(3), set(3, length), set(2, length), unlock(3), period(3, 5))
		x.refuses(set(3, 0))
	}
}

// TestGet (P15.13): zero and false of one that is not there.
func TestGet(t *testing.T) {
	for what, p := range families() {
		table := proc.New(p)
		for _, number := range notThere(len(p.Procs)) {
			if s, ok := table.Get(number); ok || !same(s, api.ProcState{}) {
				t.Errorf("%s: Get(%d) = %+v, %v", what, number, s, ok)
			}
		}
	}
}

// notThere are numbers that none of n processes has.
func notThere(n int) []int {
	return []int{bottom, bottom + 1, -n, -1, 0, n + 1, n + 2, n + 1<<32, top - 1, top}
}

// TestNotThere: of a process that is not there every call answers false and changes nothing, whatever the others do.
func TestNotThere(t *testing.T) {
	for _, p := range families() {
		x := newPair(t, p)
		n := len(p.Procs)
		for number := range n {
			x.must(start(number+1, 3))
		}
		for _, number := range notThere(n) {
			for _, name := range names() {
				for _, c := range []call{{a: 3}, {a: api.TimerDeadline, b: 3 + p.Procs[0].Limit}, {a: api.AtSem, b: never}, {a: api.TimerRelease, b: 3 + p.Procs[0].Period}} {
					c.name, c.proc = name, number
					x.refuses(c)
				}
			}
			for kind := api.TimerDeadline; kind <= api.TimerWake; kind++ {
				x.due(number, kind, never, false)
				x.due(number, kind, 3, false)
			}
		}
	}
}

// TestFire (P15.14): each kind does its own, once.
func TestFire(t *testing.T) {
	x := newPair(t, api.Part{Code: make([]api.Instr, 20), Procs: []api.Proc{{Limit: 5}, {Period: 6, Limit: 5}, {}}})
	x.must(start(1, 0), start(2, 0), start(3, 0), set(2, 8))
	x.must(fire(1, api.TimerDeadline, 5))
	x.is(1, api.ProcState{State: api.Ready, Place: 1, Released: 0, Deadline: never, Until: never, Misses: 1})
	x.refuses(fire(1, api.TimerDeadline, 5), fire(1, api.TimerRelease, 6), fire(3, api.TimerRelease, 0))
	x.must(period(2, 3), fire(2, api.TimerRelease, 6))
	x.is(2, api.ProcState{State: api.Ready, Place: 5, Regs: [api.Regs]int64{0, 6, 7, 15: 9}, PC: 8, Released: 6, Deadline: 11, Until: never})
	x.refuses(fire(2, api.TimerRelease, 6))
	x.must(waitIn(3, api.Delayed, 9, 0))
	x.refuses(fire(3, api.TimerDeadline, 9), fire(3, api.TimerRelease, 9), fire(3, api.TimerWake, 8), fire(3, api.TimerWake, 10))
	x.must(fire(3, api.TimerWake, 9))
	x.is(3, api.ProcState{State: api.Ready, Place: 7, Released: 0, Deadline: never, Until: never})
	x.refuses(fire(3, api.TimerWake, 9))
	// Once it has missed its deadline, a process without a period has none till it starts anew.
	x.next(bottom, 11)
	x.must(stop(1), start(1, 20), fire(1, api.TimerDeadline, 25))
	x.is(1, api.ProcState{State: api.Ready, Place: 8, Released: 20, Deadline: never, Until: never, Misses: 2})
}

// TestFireResults (P15.14): ResOK of one that was Delayed, else ResTimeout, whatever stood in r0; at both ends of the ticks.
func TestFireResults(t *testing.T) {
	for _, state := range waiting() {
		for _, until := range []int{0, end - 1} {
			x := newPair(t, one(api.Proc{}))
			x.must(start(1, 0), set(1, 3), waitIn(1, state, until, 4, 5, 6), fire(1, api.TimerWake, until))
			want := api.ProcState{State: api.Ready, Place: 3, Regs: [api.Regs]int64{api.ResTimeout, 6, 7, 15: 9}, PC: 3, Released: 0, Deadline: never, Until: never}
			if state == api.Delayed {
				want.Regs[0] = api.ResOK
			}
			x.is(1, want)
		}
		x := newPair(t, one(api.Proc{}))
		x.must(start(1, 0), waitIn(1, state, never, 4))
		x.refuses(fire(1, api.TimerWake, never), fire(1, api.TimerWake, 0), fire(1, api.TimerRelease, never), fire(1, api.TimerDeadline, never))
		x.next(bottom, never)
	}
}

// TestFireAtEnd (P15.14, P15.15): timers at the last tick, and those that would fall behind it.
func TestFireAtEnd(t *testing.T) {
	x := newPair(t, one(api.Proc{Period: 4, Limit: 4}))
	x.must(start(1, end-5))
	x.next(0, end-1)
	x.next(end-2, end-1)
	x.next(end-1, never)
	x.must(fire(1, api.TimerDeadline, end-1), fire(1, api.TimerRelease, end-1), period(1, end-1))
	x.next(bottom, never)
	x.refuses(fire(1, api.TimerRelease, never), fire(1, api.TimerRelease, end), fire(1, api.TimerRelease, end+3))
	y := newPair(t, one(api.Proc{Period: 4, Limit: 4}))
	y.must(start(1, end-4))
	y.next(bottom, never)
	y.refuses(fire(1, api.TimerDeadline, end), fire(1, api.TimerRelease, end), fire(1, api.TimerDeadline, never), fire(1, api.TimerRelease, never))
	z := newPair(t, one(api.Proc{Period: end - 1}))
	z.must(start(1, 0), period(1, 0), fire(1, api.TimerRelease, end-1))
	z.is(1, api.ProcState{State: api.Ready, Place: 3, Released: end - 1, Deadline: never, Until: never})
	z.next(0, never)
}

// TestWrongKinds (P15.14): a kind that is none is never due, and at ticks that are none nothing is.
func TestWrongKinds(t *testing.T) {
	x := newPair(t, chapter())
	x.must(start(1, 0), start(2, 0), waitIn(1, api.AtSem, 4, 1))
	for _, kind := range []int{bottom, bottom + 1, bottom + 3, -3, -2, -1, 0, 4, 5, 10, 1<<32 + 1, top - 1, top} {
		for _, now := range []int{never, 0, 4, 10} {
			x.due(1, kind, now, false)
			x.due(2, kind, now, false)
			x.refuses(fire(1, kind, now), fire(2, kind, now))
		}
	}
	for kind := api.TimerDeadline; kind <= api.TimerWake; kind++ {
		for _, now := range []int{bottom, -end, -2, never, end, end + 4, top} {
			for number := range 3 {
				x.due(number+1, kind, now, false)
				x.refuses(fire(number+1, kind, now))
			}
		}
	}
}

// TestNext (P15.15): the least of all timers above a tick, of every kind and process.
func TestNext(t *testing.T) {
	x := newPair(t, api.Part{Code: make([]api.Instr, 1), Procs: []api.Proc{{Period: 40, Limit: 30}, {}, {Limit: 35}}})
	x.next(0, never)
	x.must(start(1, 0), start(2, 0), start(3, 2), waitIn(2, api.Getting, 20, 1))
	steps := map[int]int{bottom: 20, -end: 20, -2: 20, -1: 20, 0: 20, 19: 20, 20: 30, 29: 30, 30: 37, 36: 37, 37: 40, 39: 40, 40: never, end - 1: never, end: never, top: never}
	for now, want := range steps {
		x.next(now, want)
	}
	x.must(wake(2, 0), waitIn(2, api.Sending, 0, 1))
	for now, want := range map[int]int{bottom: 0, -2: 0, -1: 0, 0: 30} {
		x.next(now, want)
	}
	// Of a process that has ended no timer is left.
	x.must(stop(1), stop(3), stop(2))
	x.next(bottom, never)
}

// TestStates (P15.16): all at once as one by one.
func TestStates(t *testing.T) {
	x := newPair(t, chapter())
	x.must(start(3, 1), start(1, 1), waitIn(3, api.Putting, 8, 2, 7, 8), lock(1))
	list, lock, place := x.table.States()
	want := []api.ProcState{
		{State: api.Ready, Priority: 5, Place: 2, Released: 1, Deadline: never, Until: never},
		asleep(0),
		{State: api.Putting, Priority: 9, Place: 3, Released: 1, Deadline: never, Until: 8, Object: 2, Data: []int64{7, 8}},
	}
	if !slices.EqualFunc(list, want, same) || lock != 1 || place != 4 {
		t.Errorf("%+v, %d, %d; want %+v, 1, 4", list, lock, place, want)
	}
	x.must(unlock(1), yield(1))
	if _, lock, place = x.table.States(); lock != 0 || place != 5 {
		t.Errorf("lock %d, place %d", lock, place)
	}
}

// situation is a process in a state, which of the calls then answer true, and the ticks of its timers.
type situation struct {
	name   string
	part   api.Part
	proc   int
	before []call
	may    string
	timers [3]int
}

func (s situation) begin(t *testing.T) *pair {
	t.Helper()
	x := newPair(t, s.part)
	x.must(s.before...)
	return x
}

// situations are a plain process (1), a periodic one (2), the handler (3) in every state that each can have; 4 is another plain one.
func situations() []situation {
	p := chapter()
	p.Procs = append(p.Procs, api.Proc{Limit: 50})
	other := []call{start(4, 0), lock(4)}
	none := [3]int{never, never, never}
	list := []situation{
		{"DORMANT", p, 1, nil, "Start", none},
		{"READY", p, 1, []call{start(1, 3)}, "Stop Suspend Lock SetPriority Yield Wait Set", none},
		{"READY, the holder", p, 1, []call{start(1, 3), lock(1)}, "Stop Unlock SetPriority Yield Set", none},
		{"READY, another one holds", p, 1, append(slices.Clone(other), start(1, 3)), "Stop Suspend SetPriority Yield Wait Set", none},
		{"Suspended", p, 1, []call{start(1, 3), suspend(1)}, "Stop Resume SetPriority Wake", none},
		{"DORMANT", p, 2, nil, "Start", none},
		{"DORMANT", p, 2, []call{start(2, 3), fire(2, api.TimerDeadline, 7), stop(2)}, "Start", none},
		{"READY", p, 2, []call{start(2, 3)}, "Stop Lock SetPriority Yield Wait Period Set", [3]int{7, 13, never}},
		{"READY, the holder", p, 2, []call{start(2, 3), lock(2)}, "Stop Unlock SetPriority Yield Set", [3]int{7, 13, never}},
		{"READY, another one holds", p, 2, append(slices.Clone(other), start(2, 3)), "Stop SetPriority Yield Wait Period Set", [3]int{7, 13, never}},
		{"READY, missed", p, 2, []call{start(2, 3), fire(2, api.TimerDeadline, 7)}, "Stop Lock SetPriority Yield Wait Period Set", [3]int{never, 13, never}},
		{"READY, late", p, 2, []call{start(2, 3), fire(2, api.TimerRelease, 13)}, "Stop Lock SetPriority Yield Wait Period Set", [3]int{7, never, never}},
		{"InPeriod", p, 2, []call{start(2, 3), period(2, 5)}, "Stop SetPriority", [3]int{never, 13, never}},
		{"InPeriod, late", p, 2, []call{start(2, 3), fire(2, api.TimerRelease, 13), period(2, 14)}, "Stop SetPriority", [3]int{never, 23, never}},
		{"InPeriod, for ever", p, 2, []call{start(2, 3), period(2, end-1)}, "Stop SetPriority", none},
		{"DORMANT", p, 3, nil, "Start", none},
		{"DORMANT, another one holds", p, 3, other, "Start", none},
		{"READY", p, 3, []call{start(3, 3)}, "Stop Suspend SetPriority Yield Wait Set", none},
		{"READY, another one holds", p, 3, append(slices.Clone(other), start(3, 3)), "Stop Suspend SetPriority Yield Wait Set", none},
		{"Suspended", p, 3, []call{start(3, 3), suspend(3)}, "Stop Resume SetPriority Wake", none},
	}
	for _, state := range waiting() {
		name := fmt.Sprintf("waiting in %d", state)
		for number := 1; number <= 3; number++ {
			waits := []call{start(number, 3), waitIn(number, state, 30, 2, 4)}
			timers := [3]int{never, never, 30}
			if number == 2 {
				timers = [3]int{7, 13, 30}
			}
			list = append(list,
				situation{name, p, number, waits, "Stop SetPriority Wake", timers},
				situation{name + ", another one holds", p, number, append(slices.Clone(other), waits...), "Stop SetPriority Wake", timers})
		}
	}
	return list
}

// TestEachCallInEachState: each call on a process in each state, by the holder and by the handler too; which are let be is written out here, what they do is held against the second reading.
func TestEachCallInEachState(t *testing.T) {
	for _, s := range situations() {
		t.Run(fmt.Sprintf("%d %s", s.proc, s.name), func(t *testing.T) {
			for _, c := range []call{start(s.proc, 14, 5, 6, 7), stop(s.proc), suspend(s.proc), resume(s.proc), lock(s.proc), unlock(s.proc), setPriority(s.proc, 9), yield(s.proc), waitIn(s.proc, api.Getting, 40, 1, 3), period(s.proc, 14), wake(s.proc, 5), set(s.proc, 1)} {
				x := s.begin(t)
				want := slices.Contains(strings.Fields(s.may), c.name)
				if got := x.do(c); got != want {
					t.Errorf("%+v = %v, want %v", c, got, want)
				}
			}
		})
	}
}

// TestEachTimerInEachState: each timer of a process in each state is due at its own tick, and does its own there.
func TestEachTimerInEachState(t *testing.T) {
	for _, s := range situations() {
		t.Run(fmt.Sprintf("%d %s", s.proc, s.name), func(t *testing.T) {
			for i, tick := range s.timers {
				kind := api.TimerDeadline + i
				for now := never; now < 60; now++ {
					x := s.begin(t)
					want := tick != never && now == tick
					x.due(s.proc, kind, now, want)
					if got := x.do(fire(s.proc, kind, now)); got != want {
						t.Errorf("Fire(%d, %d, %d) = %v, want %v", s.proc, kind, now, got, want)
					}
				}
			}
		})
	}
}
