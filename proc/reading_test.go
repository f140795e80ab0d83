package proc_test

import (
	"math"
	"math/rand/v2"
	"slices"
	"testing"

	"bulkhead/api"
	"bulkhead/check"
	"bulkhead/proc"
)

const (
	top    = math.MaxInt
	bottom = math.MinInt
	end    = api.MaxTick
	never  = api.Never
)

// call is a call that may change a table, with its arguments.
type call struct {
	name string
	proc int
	a, b int // a tick; a priority; a result; a pc; a state and until; a kind and a tick
	c, d int // object and addr of Wait
	args [3]int64
	regs [api.Regs]int64
	data []int64
}

// names are all calls that may change a table.
func names() []string {
	return []string{"Start", "Stop", "Suspend", "Resume", "Lock", "Unlock", "SetPriority", "Yield", "Wait", "Period", "Wake", "Set", "Fire"}
}

// on does a call on a table.
func (c call) on(t *proc.Table) bool {
	switch c.name {
	case "Start":
		return t.Start(c.proc, c.a, c.args)
	case "Stop":
		return t.Stop(c.proc)
	case "Suspend":
		return t.Suspend(c.proc)
	case "Resume":
		return t.Resume(c.proc)
	case "Lock":
		return t.Lock(c.proc)
	case "Unlock":
		return t.Unlock(c.proc)
	case "SetPriority":
		return t.SetPriority(c.proc, c.a)
	case "Yield":
		return t.Yield(c.proc)
	case "Wait":
		return t.Wait(c.proc, c.a, c.b, c.c, c.d, c.data)
	case "Period":
		return t.Period(c.proc, c.a)
	case "Wake":
		return t.Wake(c.proc, int64(c.a))
	case "Set":
		return t.Set(c.proc, c.regs, c.a)
	case "Fire":
		return t.Fire(c.proc, c.a, c.b)
	}
	panic("no such call: " + c.name)
}

// wait is what a process waits with.
type wait struct {
	until, object, addr int
	data                []int64
}

// life is a process in the second reading: what it waits with is there only while it waits.
type life struct {
	state, priority, pc int
	regs                [api.Regs]int64
	job, deadline       int
	late                bool
	with                *wait
	misses              int
}

// reading is a second reading of the chapter's words. Places are not kept: who was given one stands in a list, from which they are counted.
type reading struct {
	part  api.Part
	lives []life
	lock  int
	given []int
}

func read(p api.Part) *reading {
	return &reading{part: p, lives: make([]life, len(p.Procs))}
}

func isTick(n int) bool { return 0 <= n && n <= end-1 }

// may tells whether the chapter lets a call be.
func (m *reading) may(c call) bool {
	if c.proc < 1 || c.proc > len(m.lives) {
		return false
	}
	p, plan := m.lives[c.proc-1], m.part.Procs[c.proc-1]
	ready, holds := p.state == api.Ready, m.lock == c.proc
	switch c.name {
	case "Start":
		return p.state == api.Dormant && isTick(c.a)
	case "Stop":
		return p.state != api.Dormant
	case "Suspend":
		return ready && plan.Period == 0 && !holds
	case "Resume":
		return p.state == api.Suspended
	case "Lock":
		return ready && c.proc != m.part.Handler && m.lock == 0
	case "Unlock":
		return holds
	case "SetPriority":
		return p.state != api.Dormant && 0 <= c.a && c.a <= 255
	case "Yield":
		return ready
	case "Wait":
		states := []int{api.Delayed, api.Sending, api.Receiving, api.AtSem, api.AtEvent, api.Putting, api.Getting}
		return ready && !holds && slices.Contains(states, c.a) && (c.b == never || isTick(c.b))
	case "Period":
		return ready && plan.Period > 0 && !holds && isTick(c.a) && c.a >= p.job
	case "Wake":
		return p.with != nil && p.state != api.InPeriod
	case "Set":
		return ready && 0 <= c.a && c.a <= len(m.part.Code)
	case "Fire":
		return c.b != never && m.tickOf(c.proc, c.a) == c.b
	}
	panic("no such call: " + c.name)
}

// do does a call that may be.
func (m *reading) do(c call) {
	p, plan := &m.lives[c.proc-1], m.part.Procs[c.proc-1]
	switch c.name {
	case "Start":
		*p = life{priority: plan.Priority, pc: plan.Entry, misses: p.misses}
		copy(p.regs[1:], c.args[:])
		m.newJob(c.proc, c.a)
	case "Stop":
		*p = life{misses: p.misses}
		if m.lock == c.proc {
			m.lock = 0
		}
	case "Suspend":
		m.waits(c.proc, api.Suspended, wait{until: never})
	case "Resume":
		m.ready(c.proc)
	case "Lock":
		m.lock = c.proc
	case "Unlock":
		m.lock = 0
	case "SetPriority":
		p.priority = c.a
		if p.state == api.Ready {
			m.given = append(m.given, c.proc)
		}
	case "Yield":
		m.given = append(m.given, c.proc)
	case "Wait":
		m.waits(c.proc, c.a, wait{until: c.b, object: c.c, addr: c.d, data: slices.Clone(c.data)})
	case "Period":
		p.deadline = never
		until := p.job + ((c.a-p.job)/plan.Period+1)*plan.Period
		if until >= end {
			until = never
		}
		m.waits(c.proc, api.InPeriod, wait{until: until})
	case "Wake":
		p.regs[0] = int64(c.a)
		m.ready(c.proc)
	case "Set":
		p.regs, p.pc = c.regs, c.a
	case "Fire":
		m.fire(c.proc, c.a, c.b)
	}
}

func (m *reading) fire(number, kind, now int) {
	p := &m.lives[number-1]
	switch {
	case kind == api.TimerDeadline:
		p.misses, p.deadline = p.misses+1, never
	case kind == api.TimerRelease && p.state == api.InPeriod:
		p.regs[0] = 0
		m.newJob(number, now)
	case kind == api.TimerRelease:
		p.late = true
	case p.state == api.Delayed:
		p.regs[0] = api.ResOK
		m.ready(number)
	default:
		p.regs[0] = api.ResTimeout
		m.ready(number)
	}
}

func (m *reading) ready(number int) {
	m.lives[number-1].state, m.lives[number-1].with = api.Ready, nil
	m.given = append(m.given, number)
}

func (m *reading) waits(number, state int, with wait) {
	m.lives[number-1].state, m.lives[number-1].with = state, &with
	m.given = append(m.given, number)
}

func (m *reading) newJob(number, now int) {
	m.ready(number)
	p, limit := &m.lives[number-1], m.part.Procs[number-1].Limit
	p.job, p.late, p.deadline = now, false, never
	if limit > 0 && now+limit < end {
		p.deadline = now + limit
	}
}

// place is where a process stands last in the list of those that were given places.
func (m *reading) place(number int) int {
	for i := len(m.given) - 1; i >= 0; i-- {
		if m.given[i] == number {
			return i + 1
		}
	}
	return 0
}

// state is a process as the chapter wants it told.
func (m *reading) state(number int) api.ProcState {
	p := m.lives[number-1]
	s := api.ProcState{Released: never, Deadline: never, Until: never, Misses: p.misses}
	if p.state == api.Dormant {
		return s
	}
	s.State, s.Priority, s.Place, s.Regs, s.PC = p.state, p.priority, m.place(number), p.regs, p.pc
	s.Released, s.Deadline, s.Late = p.job, p.deadline, p.late
	if p.with != nil {
		s.Until, s.Object, s.Addr, s.Data = p.with.until, p.with.object, p.with.addr, p.with.data
	}
	return s
}

func (m *reading) states() []api.ProcState {
	var list []api.ProcState
	for i := range m.lives {
		list = append(list, m.state(i+1))
	}
	return list
}

// tickOf is the tick of a timer.
func (m *reading) tickOf(number, kind int) int {
	p, period := m.lives[number-1], m.part.Procs[number-1].Period
	switch {
	case p.state == api.Dormant:
		return never
	case kind == api.TimerDeadline:
		return p.deadline
	case kind == api.TimerRelease && p.state == api.InPeriod:
		return p.with.until
	case kind == api.TimerRelease && period > 0 && !p.late && p.job+period < end:
		return p.job + period
	case kind == api.TimerWake && p.with != nil && p.state != api.InPeriod:
		return p.with.until
	}
	return never
}

// ticks are the ticks of all timers, Never left out.
func (m *reading) ticks() []int {
	var list []int
	for i := range m.lives {
		for kind := api.TimerDeadline; kind <= api.TimerWake; kind++ {
			if tick := m.tickOf(i+1, kind); tick != never {
				list = append(list, tick)
			}
		}
	}
	return list
}

func (m *reading) next(now int) int {
	later := slices.DeleteFunc(m.ticks(), func(tick int) bool { return tick <= now })
	if len(later) == 0 {
		return never
	}
	return slices.Min(later)
}

// line is the processes in a state with an object, in their order: taken out one by one, the first of those that are left.
func line(list []api.ProcState, state, object int) []int {
	var line []int
	for {
		first := 0
		for i, s := range list {
			if s.State != state || s.Object != object || slices.Contains(line, i+1) {
				continue
			}
			if first == 0 || s.Priority > list[first-1].Priority || s.Priority == list[first-1].Priority && s.Place < list[first-1].Place {
				first = i + 1
			}
		}
		if first == 0 {
			return line
		}
		line = append(line, first)
	}
}

func (m *reading) pick() int {
	if h := m.part.Handler; h > 0 && m.lives[h-1].state == api.Ready {
		return h
	}
	if m.lock > 0 {
		return m.lock
	}
	if line := line(m.states(), api.Ready, 0); len(line) > 0 {
		return line[0]
	}
	return 0
}

// same tells whether two states are alike; nil and empty are the same.
func same(a, b api.ProcState) bool {
	equal := slices.Equal(a.Data, b.Data)
	a.Data, b.Data = nil, nil
	return equal && a.State == b.State && a.Priority == b.Priority && a.Place == b.Place && a.Regs == b.Regs && a.PC == b.PC &&
		a.Released == b.Released && a.Deadline == b.Deadline && a.Until == b.Until && a.Late == b.Late && a.Object == b.Object && a.Addr == b.Addr && a.Misses == b.Misses
}

// pair is a table beside the second reading: each call is held against that, and so is how the table stands behind it.
type pair struct {
	t     *testing.T
	table *proc.Table
	m     *reading
}

func newPair(t *testing.T, p api.Part) *pair {
	t.Helper()
	x := &pair{t: t, table: proc.New(p), m: read(p)}
	if x.table == nil {
		t.Fatal("New: no table")
	}
	x.stands(call{name: "New"})
	return x
}

// loaded is the same, from a table that was loaded with what States told.
func (x *pair) loaded() *pair {
	x.t.Helper()
	list, lock, place := x.table.States()
	y, err := proc.Load(x.m.part, list, lock, place)
	if y == nil || err != api.OK {
		x.t.Fatalf("Load of what States told: %d", err)
	}
	own := &reading{part: x.m.part, lives: slices.Clone(x.m.lives), lock: x.m.lock, given: slices.Clone(x.m.given)}
	z := &pair{t: x.t, table: y, m: own}
	z.stands(call{name: "Load"})
	return z
}

// do does a call, and tells what it answered.
func (x *pair) do(c call) bool {
	x.t.Helper()
	want := x.m.may(c)
	if want {
		x.m.do(c)
	}
	if got := c.on(x.table); got != want {
		x.t.Fatalf("%+v = %v, want %v", c, got, want)
	}
	x.stands(c)
	return want
}

// must does calls that have to answer true.
func (x *pair) must(list ...call) {
	x.t.Helper()
	for _, c := range list {
		if !x.do(c) {
			x.t.Fatalf("%+v = false", c)
		}
	}
}

// refuses does calls that have to answer false.
func (x *pair) refuses(list ...call) {
	x.t.Helper()
	for _, c := range list {
		if x.do(c) {
			x.t.Fatalf("%+v = true", c)
		}
	}
}

// stands wants all that a table tells to be as the second reading has it.
func (x *pair) stands(behind call) {
	x.t.Helper()
	list, lock, place := x.table.States()
	wants := x.m.states()
	if !slices.EqualFunc(list, wants, same) || lock != x.m.lock || place != len(x.m.given)+1 {
		x.t.Fatalf("behind %+v: States:\n%+v, %d, %d; want\n%+v, %d, %d", behind, list, lock, place, wants, x.m.lock, len(x.m.given)+1)
	}
	for i, want := range wants {
		if s, ok := x.table.Get(i + 1); !ok || !same(s, want) {
			x.t.Fatalf("behind %+v: Get(%d):\n%+v, %v; want\n%+v", behind, i+1, s, ok, want)
		}
	}
	if h, ok := x.table.Holder(); h != x.m.lock || ok != (h != 0) {
		x.t.Fatalf("behind %+v: Holder: %d, %v; want %d", behind, h, ok, x.m.lock)
	}
	if p, ok := x.table.Pick(); p != x.m.pick() || ok != (p != 0) {
		x.t.Fatalf("behind %+v: Pick: %d, %v; want %d", behind, p, ok, x.m.pick())
	}
	x.lines(behind)
	x.timers(behind)
}

// lines wants each line to be as the second reading has it.
func (x *pair) lines(behind call) {
	x.t.Helper()
	objects := []int{0, 1}
	for _, p := range x.m.lives {
		if p.with != nil && !slices.Contains(objects, p.with.object) {
			objects = append(objects, p.with.object)
		}
	}
	list := x.m.states()
	for _, object := range objects {
		for state := -1; state <= api.Suspended+1; state++ {
			var want []int
			if state > api.Ready {
				want = line(list, state, object)
			}
			if got := x.table.Line(state, object); !slices.Equal(got, want) {
				x.t.Fatalf("behind %+v: Line(%d, %d) = %v, want %v", behind, state, object, got, want)
			}
		}
	}
}

// timers wants Next and Due to be as the second reading has them, at the ticks of all timers, beside them and at the edges.
func (x *pair) timers(behind call) {
	x.t.Helper()
	nows := []int{bottom, -2, never, 0, end - 1, end, top}
	for _, tick := range x.m.ticks() {
		nows = append(nows, tick-1, tick, tick+1)
	}
	slices.Sort(nows)
	for _, now := range slices.Compact(nows) {
		if got, want := x.table.Next(now), x.m.next(now); got != want {
			x.t.Fatalf("behind %+v: Next(%d) = %d, want %d", behind, now, got, want)
		}
		for i := range x.m.lives {
			for kind := range api.TimerWake + 2 {
				want := now != never && x.m.tickOf(i+1, kind) == now
				if got := x.table.Due(i+1, kind, now); got != want {
					x.t.Fatalf("behind %+v: Due(%d, %d, %d) = %v, want %v", behind, i+1, kind, now, got, want)
				}
			}
		}
	}
}

// chapter is the chapter's partition.
func chapter() api.Part {
	return api.Part{Code: make([]api.Instr, 20), Handler: 3, Procs: []api.Proc{{Priority: 5}, {Priority: 5, Period: 10, Limit: 4, Entry: 7}, {Priority: 9}}}
}

// alike are processes that differ in nothing.
func alike(n int, one api.Proc) []api.Proc {
	var list []api.Proc
	for range n {
		list = append(list, one)
	}
	return list
}

// many are as many processes as there may be, of several kinds; all that are plain and without a limit may be the handler.
func many() []api.Proc {
	var list []api.Proc
	for i := range api.MaxProcs {
		q := api.Proc{Entry: i, Priority: i * 7 % 3 * 127, Capacity: i, Auto: i%2 == 0}
		switch i % 4 {
		case 1:
			q.Period, q.Limit = 3+i, 1+i
		case 2:
			q.Period = 5
		case 3:
			q.Limit = 4 + i
		}
		list = append(list, q)
	}
	list[4].Auto = false
	return list
}

// families are partitions of many kinds, each with a name.
func families() map[string]api.Part {
	code := make([]api.Instr, 20)
	one := func(q api.Proc) api.Part { return api.Part{Code: code[:1], Procs: []api.Proc{q}} }
	return map[string]api.Part{
		"one plain":                   one(api.Proc{}),
		"one that is the handler":     {Code: code, Handler: 1, Procs: []api.Proc{{Priority: 255}}},
		"one with a limit":            one(api.Proc{Limit: 3}),
		"one with the longest limit":  one(api.Proc{Limit: end - 1}),
		"one of period 1":             one(api.Proc{Period: 1}),
		"one of period and limit 1":   one(api.Proc{Period: 1, Limit: 1}),
		"one of the longest period":   one(api.Proc{Period: end - 1, Limit: end - 1}),
		"its deadline at its release": one(api.Proc{Period: 4, Limit: 4}),
		"its deadline ahead of it":    one(api.Proc{Period: 4, Limit: 3}),
		"the chapter's":               chapter(),
		"the handler first":           {Code: code, Handler: 1, Procs: []api.Proc{{}, {Period: 6, Limit: 6}, {Limit: 5}}},
		"many":                        {Code: make([]api.Instr, api.MaxCode), Procs: many()},
		"many, one the handler":       {Code: code, Handler: 5, Procs: many()},
		"many, the last the handler":  {Code: code, Handler: api.MaxProcs, Procs: alike(api.MaxProcs, api.Proc{Priority: 255})},
		"many alike":                  {Code: code, Procs: alike(api.MaxProcs, api.Proc{Priority: 7})},
		"many periodic ones alike":    {Code: code, Procs: alike(api.MaxProcs, api.Proc{Period: 5, Limit: 5})},
		"of all priorities":           {Code: code, Procs: []api.Proc{{}, {Priority: 255}, {Priority: 128}, {Priority: 255}, {}}},
	}
}

// TestFamilies: the partitions of these tests are such as chapter 10 lets be.
func TestFamilies(t *testing.T) {
	for what, p := range families() {
		p.Server = api.Server{Period: 1, Budget: 1}
		if err, _ := check.Check(api.Image{Parts: []api.Part{p}}); err != api.OK {
			t.Errorf("%s: %d", what, err)
		}
	}
}

// strange are numbers of all sizes, both ends of int among them.
func strange() []int {
	return []int{bottom, bottom + 1, -end, math.MinInt32, -2, -1, 0, 1, 2, 3, 4, 10, 11, 16, 17, 255, 256, 1024, 1025, math.MaxInt32, 1 << 32, end - 2, end - 1, end, end + 1, top - 1, top}
}

func oneOf(r *rand.Rand, list []int) int { return list[r.IntN(len(list))] }

// chance is a call by chance at a tick; now and then one of its numbers is strange.
func chance(r *rand.Rand, p api.Part, now int) call {
	c := call{name: names()[r.IntN(len(names()))], proc: 1 + r.IntN(max(1, len(p.Procs)))}
	// What begins or ends a wait is done more often than the rest, so that few processes stay DORMANT.
	if r.IntN(3) == 0 {
		c.name = []string{"Start", "Wait", "Period", "Wake", "Fire"}[r.IntN(5)]
	}
	for i := range c.args {
		c.args[i] = int64(oneOf(r, strange()))
	}
	for i := range c.regs {
		c.regs[i] = r.Int64()
	}
	switch c.name {
	case "Start", "Period":
		c.a = now
	case "SetPriority":
		c.a = r.IntN(4) * 85
	case "Wake":
		c.a = r.IntN(8)
	case "Set":
		c.a = r.IntN(len(p.Code) + 2)
	case "Fire":
		c.a, c.b = 1+r.IntN(3), now
	case "Wait":
		c.a, c.b, c.c, c.d = api.Delayed+r.IntN(8), now+r.IntN(9), r.IntN(2), r.IntN(9)
		for range r.IntN(4) {
			c.data = append(c.data, r.Int64())
		}
		if r.IntN(4) == 0 {
			c.b = never
		}
	}
	if r.IntN(16) == 0 {
		*[]*int{&c.proc, &c.a, &c.b, &c.c, &c.d}[r.IntN(5)] = oneOf(r, strange())
	}
	return c
}

// TestAgainstReading: many calls in a row, on partitions of all kinds, at both ends of the ticks; now and then the table is one that was loaded with what States told.
func TestAgainstReading(t *testing.T) {
	for what, p := range families() {
		t.Run(what, func(t *testing.T) {
			for round, from := range []int{0, 0, end - 40, end - 40} {
				r := rand.New(rand.NewPCG(15, uint64(round)))
				x := newPair(t, p)
				now := from
				for range 400 {
					switch r.IntN(6) {
					case 0:
						now = min(now+1, end-1)
					case 1:
						now = max(now, x.m.next(now))
					case 2:
						for number := range p.Procs {
							x.do(call{name: "Fire", proc: number + 1, a: 1 + r.IntN(3), b: now})
						}
					case 3:
						if r.IntN(10) == 0 {
							x = x.loaded()
						}
					}
					x.do(chance(r, p, now))
				}
			}
		})
	}
}

// TestLoadedGoesOn: a table that is loaded with what States told goes on as the one it was told of, call by call (P15.2).
func TestLoadedGoesOn(t *testing.T) {
	for what, p := range families() {
		t.Run(what, func(t *testing.T) {
			r := rand.New(rand.NewPCG(15, 2))
			x := newPair(t, p)
			for now := range 20 {
				for range 3 {
					x.do(chance(r, p, now))
				}
				y := x.loaded()
				for later := now; later < now+6; later++ {
					c := chance(r, p, later)
					x.do(c)
					y.do(c)
				}
			}
		})
	}
}
