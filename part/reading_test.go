package part_test

import (
	"math"
	"math/rand/v2"
	"slices"
	"testing"

	"bulkhead/api"
	"bulkhead/check"
	"bulkhead/cpu"
	"bulkhead/part"
)

const (
	top    = math.MaxInt
	bottom = math.MinInt
	end    = api.MaxTick
	never  = api.Never
)

// reading is a second reading of the chapter's words, and of those below it: a partition as plain data, acted upon without proc, objects, port and health.
type reading struct {
	x      api.Image
	number int
	s      api.PartState
	now    int
	events []api.Event
	writes []api.Write
}

func read(x api.Image, number, now int) *reading {
	m := &reading{x: x, number: number, now: now}
	m.boot()
	return m
}

func (m *reading) own() api.Part { return m.x.Parts[m.number-1] }

// at begins what one call does.
func (m *reading) at(now int) {
	m.now, m.events, m.writes = now, nil, nil
}

func (m *reading) event(kind, q int, a, b int64) {
	m.events = append(m.events, api.Event{Tick: m.now, Part: m.number, Kind: kind, Proc: q, A: a, B: b})
}

func (m *reading) proc(q int) *api.ProcState { return &m.s.Procs[q-1] }

// place is a new place.
func (m *reading) place() int {
	m.s.Place++
	return m.s.Place - 1
}

func later(t int, n int64) int {
	if n < 0 || n > int64(end-1-t) {
		return never
	}
	return t + int(n)
}

func (m *reading) deadline(q int) int {
	if limit := m.own().Procs[q-1].Limit; limit > 0 {
		return later(m.now, int64(limit))
	}
	return never
}

func (m *reading) boot() {
	own := m.own()
	m.s = api.PartState{Mode: api.Normal, Memory: make([]int64, own.Words), Place: 1, Restarts: m.s.Restarts}
	copy(m.s.Memory, own.Init)
	m.s.Procs = make([]api.ProcState, len(own.Procs))
	for i := range own.Procs {
		m.s.Procs[i] = api.ProcState{Released: never, Deadline: never, Until: never}
	}
	for _, sem := range own.Sems {
		m.s.Objects.Sems = append(m.s.Objects.Sems, sem.Start)
	}
	m.s.Objects.Events = slices.Clone(own.Events)
	m.s.Objects.Buffers = make([][][]int64, len(own.Buffers))
	m.s.Ports = make([]api.PortState, len(m.x.Ports))
	for i, q := range own.Procs {
		if q.Auto {
			m.start(i+1, 0, 0, 0)
		}
	}
}

func (m *reading) start(q int, r1, r2, r3 int64) {
	form := m.own().Procs[q-1]
	s := api.ProcState{State: api.Ready, Priority: form.Priority, Place: m.place(), PC: form.Entry, Released: m.now, Deadline: m.deadline(q), Until: never, Misses: m.proc(q).Misses}
	s.Regs[1], s.Regs[2], s.Regs[3] = r1, r2, r3
	*m.proc(q) = s
	m.event(api.EventStart, q, 0, 0)
}

func (m *reading) stop(q int) {
	*m.proc(q) = api.ProcState{Released: never, Deadline: never, Until: never, Misses: m.proc(q).Misses}
	if m.s.Lock == q {
		m.s.Lock = 0
	}
}

func (m *reading) restart() {
	m.event(api.EventRestart, 0, 0, 0)
	m.s.Restarts++
	m.boot()
}

func (m *reading) idle() {
	m.event(api.EventIdle, 0, 0, 0)
	for i := range m.s.Procs {
		m.stop(i + 1)
	}
	m.s.Mode = api.Idle
}

// ready makes a process READY, with nothing of what it waited with.
func (m *reading) ready(q int) {
	s := m.proc(q)
	s.State, s.Place, s.Until, s.Object, s.Addr, s.Data = api.Ready, m.place(), never, 0, 0, nil
}

func (m *reading) waits(q, state, until, object, addr int, data []int64) {
	s := m.proc(q)
	s.State, s.Place, s.Until, s.Object, s.Addr, s.Data = state, m.place(), until, object, addr, data
}

// told ends a wait with a result.
func (m *reading) told(q int, result int64) {
	calls := map[int]int64{api.Delayed: 2, api.Sending: 17, api.Receiving: 18, api.AtSem: 20, api.AtEvent: 24, api.Putting: 25, api.Getting: 26}
	call := calls[m.proc(q).State]
	m.ready(q)
	m.proc(q).Regs[0] = result
	m.event(api.EventCall, q, call, result)
}

// first is the first that waits in a state at an object, or 0.
func (m *reading) first(state, object int) int {
	first := 0
	for i, s := range m.s.Procs {
		if s.State != state || s.Object != object {
			continue
		}
		if first == 0 || s.Priority > m.proc(first).Priority || s.Priority == m.proc(first).Priority && s.Place < m.proc(first).Place {
			first = i + 1
		}
	}
	return first
}

func (m *reading) fault(kind, q, pc int) {
	m.event(api.EventFault, q, int64(kind), int64(pc))
	m.verdict(kind, q, pc)
}

func (m *reading) verdict(kind, q, pc int) {
	own := m.own()
	if q == own.Handler {
		m.restart()
		return
	}
	action := own.Health[kind]
	if action == api.ActHandler && own.Handler != 0 && m.proc(own.Handler).State == api.Dormant {
		if kind == api.FaultCode {
			m.stop(q)
		}
		m.start(own.Handler, int64(kind), int64(q), int64(pc))
		return
	}
	stops := action == api.ActStop || action == api.ActHandler && (own.Handler == 0 || kind == api.FaultCode) || action == api.ActIgnore && kind == api.FaultCode
	switch {
	case stops:
		m.stop(q)
	case action == api.ActRestartProc:
		m.stop(q)
		m.start(q, 0, 0, 0)
	case action == api.ActRestart:
		m.restart()
	case action == api.ActIdle:
		m.idle()
	}
}

func (m *reading) wake(now int) {
	m.at(now)
	m.event(api.EventWake, 0, 0, 0)
	m.s.Restarts++
	m.boot()
}

// is tells whether a port is one of the partition's, of this kind and direction.
func (m *reading) is(n int64, kind int, out bool) bool {
	if n < 1 || n > int64(len(m.x.Ports)) {
		return false
	}
	q := m.x.Ports[n-1]
	return q.Part == m.number && q.Kind == kind && q.Out == out
}

func (m *reading) arrive(port int, data []int64, now int) {
	m.at(now)
	if !m.is(int64(port), api.Queuing, false) || len(data) != m.x.Ports[port-1].Size {
		return
	}
	stands := &m.s.Ports[port-1]
	switch q := m.first(api.Receiving, port); {
	case q != 0:
		m.event(api.EventArrive, 0, int64(port), 0)
		copy(m.s.Memory[m.proc(q).Addr:], data)
		m.told(q, api.ResOK)
	case len(stands.Queue) < m.x.Ports[port-1].Depth:
		stands.Queue = append(stands.Queue, slices.Clone(data))
		m.event(api.EventArrive, 0, int64(port), 0)
	default:
		stands.Lost++
		m.event(api.EventLost, 0, int64(port), 0)
	}
}

func (m *reading) sample(port int, data []int64, now int) {
	m.at(now)
	if m.is(int64(port), api.Sampling, false) && len(data) == m.x.Ports[port-1].Size && 0 <= now && now < end {
		m.s.Ports[port-1].Sample = api.Sample{Has: true, Tick: now, Data: slices.Clone(data)}
	}
}

func (m *reading) take(port, now int) ([]int64, bool) {
	m.at(now)
	if !m.is(int64(port), api.Queuing, true) || len(m.s.Ports[port-1].Queue) == 0 {
		return nil, false
	}
	stands := &m.s.Ports[port-1]
	data := stands.Queue[0]
	stands.Queue = slices.Clone(stands.Queue[1:])
	if q := m.first(api.Sending, port); q != 0 {
		stands.Queue = append(stands.Queue, m.proc(q).Data)
		m.told(q, api.ResOK)
	}
	return data, true
}

// tick is the tick of a timer.
func (m *reading) tick(q, kind int) int {
	s, period := m.proc(q), m.own().Procs[q-1].Period
	switch {
	case s.State == api.Dormant:
		return never
	case kind == api.TimerDeadline:
		return s.Deadline
	case kind == api.TimerRelease && s.State == api.InPeriod:
		return s.Until
	case kind == api.TimerRelease && period > 0 && !s.Late:
		return later(s.Released, int64(period))
	case kind == api.TimerWake && s.State != api.Ready && s.State != api.InPeriod:
		return s.Until
	}
	return never
}

func (m *reading) next(now int) int {
	next := never
	for i := range m.s.Procs {
		for kind := 1; kind <= 3; kind++ {
			if t := m.tick(i+1, kind); t != never && t > now && (next == never || t < next) {
				next = t
			}
		}
	}
	return next
}

func (m *reading) timers(now int) {
	m.at(now)
	for kind := 1; kind <= 3; kind++ {
		for i := range m.s.Procs {
			if t := m.tick(i+1, kind); t != never && t == now {
				m.timer(i+1, kind)
			}
		}
	}
}

func (m *reading) timer(q, kind int) {
	s := m.proc(q)
	switch {
	case kind == api.TimerDeadline:
		m.event(api.EventMiss, q, int64(m.now), 0)
		s.Misses, s.Deadline = s.Misses+1, never
		m.verdict(api.FaultMiss, q, -1)
	case kind == api.TimerRelease && s.State == api.InPeriod:
		m.ready(q)
		s.Regs[0], s.Released, s.Deadline, s.Late = 0, m.now, m.deadline(q), false
		m.event(api.EventCall, q, api.CallPeriodicWait, 0)
	case kind == api.TimerRelease:
		m.event(api.EventOverrun, q, int64(s.Released), 0)
		s.Late = true
	case s.State == api.Delayed:
		m.told(q, api.ResOK)
	default:
		m.told(q, api.ResTimeout)
	}
}

// pick is the process that may run, or 0.
func (m *reading) pick() int {
	if h := m.own().Handler; h != 0 && m.proc(h).State == api.Ready {
		return h
	}
	if m.s.Lock != 0 {
		return m.s.Lock
	}
	return m.first(api.Ready, 0)
}

func (m *reading) canRun() bool { return m.s.Mode == api.Normal && m.pick() != 0 }

func (m *reading) run(now int) {
	m.at(now)
	if !m.canRun() {
		return
	}
	q, own := m.pick(), m.own()
	s := m.proc(q)
	pc := s.PC
	e := cpu.Step(own.Code, m.s.Memory, own.Fixed, s.Regs, pc)
	s.Regs, s.PC = e.Regs, e.PC
	switch {
	case e.Fault != 0:
		m.fault(e.Fault, q, pc)
	case e.Call != 0:
		m.call(q, e.Call, pc)
	case e.Store:
		m.s.Memory[e.Addr] = e.Value
	}
}

// answer is the result of a call of a process that has not waited.
func (m *reading) answer(q, n int, result int64) {
	m.proc(q).Regs[0] = result
	m.event(api.EventCall, q, int64(n), result)
}

// bound tells whether a process may not wait.
func (m *reading) bound(q int) bool { return q == m.own().Handler || q == m.s.Lock }

// words are those from an address on, if they are there.
func (m *reading) words(from int64, size int) ([]int64, bool) {
	if from < 0 || from > int64(len(m.s.Memory)-size) {
		return nil, false
	}
	return m.s.Memory[from : from+int64(size)], true
}

// room is the words from an address on, if they may be written.
func (m *reading) room(from int64, size int) ([]int64, bool) {
	list, ok := m.words(from, size)
	return list, ok && from >= int64(m.own().Fixed)
}

// hold lets a process wait, as the last columns of the table say.
func (m *reading) hold(q, n, state int, timeOut int64, object, addr int, data []int64) {
	switch {
	case timeOut == 0:
		m.answer(q, n, api.ResNotNow)
	case m.bound(q):
		m.answer(q, n, api.ResLocked)
	case timeOut < 0:
		m.waits(q, state, never, object, addr, data)
	default:
		m.waits(q, state, later(m.now, timeOut), object, addr, data)
	}
}

func (m *reading) call(q, n, pc int) {
	s := m.proc(q)
	a := s.Regs[1]
	switch n {
	case api.CallNow:
		m.answer(q, n, int64(m.now))
	case api.CallDelay:
		switch {
		case a < 0:
			m.answer(q, n, api.ResParam)
		case m.bound(q):
			m.answer(q, n, api.ResLocked)
		case a == 0:
			s.Place = m.place()
			m.answer(q, n, api.ResOK)
		default:
			m.waits(q, api.Delayed, later(m.now, a), 0, 0, nil)
		}
	case api.CallPeriodicWait:
		m.periodicWait(q)
	case api.CallStopSelf:
		m.stop(q)
	case api.CallSetMode:
		switch a {
		case 0:
			m.idle()
		case 1:
			m.restart()
		default:
			m.answer(q, n, api.ResParam)
		}
	case api.CallLog:
		m.event(api.EventLog, q, a, 0)
		m.answer(q, n, api.ResOK)
	case api.CallLock:
		if m.bound(q) {
			m.answer(q, n, api.ResNoAction)
			return
		}
		m.s.Lock = q
		m.answer(q, n, api.ResOK)
	case api.CallUnlock:
		if m.s.Lock != q {
			m.answer(q, n, api.ResNoAction)
			return
		}
		m.s.Lock = 0
		m.answer(q, n, api.ResOK)
	case api.CallRaise:
		m.fault(api.FaultRaised, q, pc)
	case api.CallStart, api.CallStop, api.CallSuspend, api.CallResume, api.CallSetPriority, api.CallStatus:
		m.callAbout(q, n)
	case api.CallWrite, api.CallRead, api.CallSend, api.CallReceive, api.CallPortStatus:
		m.callPort(q, n, pc)
	case api.CallBufferSend, api.CallBufferReceive:
		m.callBuffer(q, n, pc)
	default:
		m.callObject(q, n)
	}
}

func (m *reading) periodicWait(q int) {
	s, period := m.proc(q), m.own().Procs[q-1].Period
	switch {
	case period == 0:
		m.answer(q, api.CallPeriodicWait, api.ResNoAction)
	case m.bound(q):
		m.answer(q, api.CallPeriodicWait, api.ResLocked)
	default:
		until := s.Released
		for until <= m.now {
			// Many at once: there may be more of them than can be gone through one by one.
			until += max(1, (m.now-until)/period) * period
		}
		if until >= end {
			until = never
		}
		m.waits(q, api.InPeriod, until, 0, 0, nil)
		s.Deadline = never
	}
}

// callAbout does the calls about a process.
func (m *reading) callAbout(q, n int) {
	s := m.proc(q)
	a, b := s.Regs[1], s.Regs[2]
	bad := a < 1 || a > int64(len(m.s.Procs))
	if n != api.CallStatus && a == int64(m.own().Handler) || n == api.CallSetPriority && (b < 0 || b > 255) {
		bad = true
	}
	if bad {
		m.answer(q, n, api.ResParam)
		return
	}
	it := int(a)
	other := m.proc(it)
	result := int64(api.ResOK)
	switch n {
	case api.CallStart:
		if other.State != api.Dormant {
			result = api.ResNoAction
			break
		}
		m.start(it, 0, 0, 0)
	case api.CallStop:
		if other.State == api.Dormant {
			result = api.ResNoAction
			break
		}
		m.stop(it)
		if it == q {
			return
		}
	case api.CallSuspend:
		switch {
		case other.State != api.Ready || m.own().Procs[it-1].Period > 0 || it != q && it == m.s.Lock:
			result = api.ResNoAction
		case it == m.s.Lock:
			result = api.ResLocked
		default:
			m.waits(it, api.Suspended, never, 0, 0, nil)
		}
	case api.CallResume:
		if other.State != api.Suspended {
			result = api.ResNoAction
			break
		}
		m.ready(it)
	case api.CallSetPriority:
		if other.State == api.Dormant {
			result = api.ResNoAction
			break
		}
		other.Priority = int(b)
		if other.State == api.Ready {
			other.Place = m.place()
		}
	case api.CallStatus:
		told := *other
		s.Regs[1], s.Regs[2], s.Regs[3], s.Regs[4] = int64(told.State), int64(told.Priority), int64(told.Deadline), int64(told.Misses)
	}
	m.answer(q, n, result)
}

// callPort does the calls of ports.
func (m *reading) callPort(q, n, pc int) {
	s := m.proc(q)
	a, b, c := s.Regs[1], s.Regs[2], s.Regs[3]
	fits := map[int]bool{
		api.CallWrite: m.is(a, api.Sampling, true), api.CallRead: m.is(a, api.Sampling, false),
		api.CallSend: m.is(a, api.Queuing, true), api.CallReceive: m.is(a, api.Queuing, false),
	}
	any := fits[api.CallWrite] || fits[api.CallRead] || fits[api.CallSend] || fits[api.CallReceive]
	if n == api.CallPortStatus && !any || n != api.CallPortStatus && !fits[n] {
		m.answer(q, n, api.ResParam)
		return
	}
	form, stands := m.x.Ports[a-1], &m.s.Ports[a-1]
	words, there := m.words(b, form.Size)
	if n == api.CallRead || n == api.CallReceive {
		words, there = m.room(b, form.Size)
	}
	if !there && n != api.CallPortStatus {
		m.fault(api.FaultMemory, q, pc)
		return
	}
	switch n {
	case api.CallWrite:
		m.writes = append(m.writes, api.Write{Port: int(a), Data: slices.Clone(words)})
		m.answer(q, n, api.ResOK)
	case api.CallRead:
		if !stands.Sample.Has {
			m.answer(q, n, api.ResEmpty)
			return
		}
		copy(words, stands.Sample.Data)
		age := m.now - stands.Sample.Tick
		s.Regs[1] = int64(age)
		if age > form.Refresh {
			m.answer(q, n, api.ResStale)
			return
		}
		m.answer(q, n, api.ResOK)
	case api.CallSend:
		if len(stands.Queue) == form.Depth {
			m.hold(q, n, api.Sending, c, int(a), 0, slices.Clone(words))
			return
		}
		stands.Queue = append(stands.Queue, slices.Clone(words))
		m.answer(q, n, api.ResOK)
	case api.CallReceive:
		if len(stands.Queue) == 0 {
			m.hold(q, n, api.Receiving, c, int(a), int(b), nil)
			return
		}
		copy(words, stands.Queue[0])
		stands.Queue = slices.Clone(stands.Queue[1:])
		m.answer(q, n, api.ResOK)
	case api.CallPortStatus:
		s.Regs[1], s.Regs[2] = int64(len(stands.Queue)), int64(stands.Lost)
		if stands.Sample.Has {
			s.Regs[1] = 1
		}
		m.answer(q, n, api.ResOK)
	}
}

// callObject does the calls of semaphores and events.
func (m *reading) callObject(q, n int) {
	a, b := m.proc(q).Regs[1], m.proc(q).Regs[2]
	many := len(m.own().Sems)
	if n == api.CallEventSet || n == api.CallEventReset || n == api.CallEventWait {
		many = len(m.own().Events)
	}
	if a < 1 || a > int64(many) {
		m.answer(q, n, api.ResParam)
		return
	}
	it := int(a)
	switch n {
	case api.CallSemWait:
		if m.s.Objects.Sems[it-1] == 0 {
			m.hold(q, n, api.AtSem, b, it, 0, nil)
			return
		}
		m.s.Objects.Sems[it-1]--
	case api.CallSemSignal:
		first := m.first(api.AtSem, it)
		switch {
		case first != 0:
			m.told(first, api.ResOK)
		case m.s.Objects.Sems[it-1] == m.own().Sems[it-1].Max:
			m.answer(q, n, api.ResNoAction)
			return
		default:
			m.s.Objects.Sems[it-1]++
		}
	case api.CallEventSet:
		m.s.Objects.Events[it-1] = true
		for i, s := range m.s.Procs {
			if s.State == api.AtEvent && s.Object == it {
				m.told(i+1, api.ResOK)
			}
		}
	case api.CallEventReset:
		m.s.Objects.Events[it-1] = false
	case api.CallEventWait:
		if !m.s.Objects.Events[it-1] {
			m.hold(q, n, api.AtEvent, b, it, 0, nil)
			return
		}
	}
	m.answer(q, n, api.ResOK)
}

// callBuffer does the calls of buffers.
func (m *reading) callBuffer(q, n, pc int) {
	s := m.proc(q)
	a, b, c := s.Regs[1], s.Regs[2], s.Regs[3]
	if a < 1 || a > int64(len(m.own().Buffers)) {
		m.answer(q, n, api.ResParam)
		return
	}
	form, it := m.own().Buffers[a-1], int(a)
	messages := &m.s.Objects.Buffers[a-1]
	words, there := m.words(b, form.Size)
	if n == api.CallBufferReceive {
		words, there = m.room(b, form.Size)
	}
	getter, putter := m.first(api.Getting, it), m.first(api.Putting, it)
	switch {
	case !there:
		m.fault(api.FaultMemory, q, pc)
		return
	case n == api.CallBufferSend && getter != 0:
		copy(m.s.Memory[m.proc(getter).Addr:], slices.Clone(words))
		m.told(getter, api.ResOK)
	case n == api.CallBufferSend && len(*messages) == form.Depth:
		m.hold(q, n, api.Putting, c, it, 0, slices.Clone(words))
		return
	case n == api.CallBufferSend:
		*messages = append(*messages, slices.Clone(words))
	case len(*messages) == 0:
		m.hold(q, n, api.Getting, c, it, int(b), nil)
		return
	default:
		copy(words, (*messages)[0])
		*messages = slices.Clone((*messages)[1:])
		if putter != 0 {
			*messages = append(*messages, m.proc(putter).Data)
			m.told(putter, api.ResOK)
		}
	}
	m.answer(q, n, api.ResOK)
}

func sameProc(a, b api.ProcState) bool {
	words := slices.Equal(a.Data, b.Data)
	a.Data, b.Data = nil, nil
	return words && a.State == b.State && a.Priority == b.Priority && a.Place == b.Place && a.Regs == b.Regs && a.PC == b.PC && a.Released == b.Released && a.Deadline == b.Deadline && a.Until == b.Until && a.Late == b.Late && a.Object == b.Object && a.Addr == b.Addr && a.Misses == b.Misses
}

func sameMessages(a, b [][]int64) bool { return slices.EqualFunc(a, b, slices.Equal[[]int64]) }

func samePort(a, b api.PortState) bool {
	return sameMessages(a.Queue, b.Queue) && a.Lost == b.Lost && a.Sample.Has == b.Sample.Has && a.Sample.Tick == b.Sample.Tick && slices.Equal(a.Sample.Data, b.Sample.Data)
}

// sameState holds two states against each other; nil and empty lists are the same.
func sameState(a, b api.PartState) bool {
	return a.Mode == b.Mode && a.Lock == b.Lock && a.Place == b.Place && a.Restarts == b.Restarts &&
		slices.Equal(a.Memory, b.Memory) && slices.EqualFunc(a.Procs, b.Procs, sameProc) && slices.EqualFunc(a.Ports, b.Ports, samePort) &&
		slices.Equal(a.Objects.Sems, b.Objects.Sems) && slices.Equal(a.Objects.Events, b.Objects.Events) && slices.EqualFunc(a.Objects.Buffers, b.Objects.Buffers, sameMessages)
}

func sameEvent(a, b api.Event) bool {
	return a.Tick == b.Tick && a.Part == b.Part && a.Kind == b.Kind && a.Proc == b.Proc && a.A == b.A && a.B == b.B && len(a.Data) == 0 && len(b.Data) == 0
}

func sameEvents(a, b []api.Event) bool { return slices.EqualFunc(a, b, sameEvent) }

func sameWrite(a, b api.Write) bool { return a.Port == b.Port && slices.Equal(a.Data, b.Data) }

func sameWrites(a, b []api.Write) bool { return slices.EqualFunc(a, b, sameWrite) }

// cloneState is a state that shares nothing with this one.
func cloneState(s api.PartState) api.PartState {
	s.Memory, s.Procs, s.Ports = slices.Clone(s.Memory), slices.Clone(s.Procs), slices.Clone(s.Ports)
	for i := range s.Procs {
		s.Procs[i].Data = slices.Clone(s.Procs[i].Data)
	}
	for i := range s.Ports {
		s.Ports[i].Queue = cloneMessages(s.Ports[i].Queue)
		s.Ports[i].Sample.Data = slices.Clone(s.Ports[i].Sample.Data)
	}
	s.Objects.Sems, s.Objects.Events, s.Objects.Buffers = slices.Clone(s.Objects.Sems), slices.Clone(s.Objects.Events), slices.Clone(s.Objects.Buffers)
	for i := range s.Objects.Buffers {
		s.Objects.Buffers[i] = cloneMessages(s.Objects.Buffers[i])
	}
	return s
}

func cloneMessages(list [][]int64) [][]int64 {
	list = slices.Clone(list)
	for i := range list {
		list[i] = slices.Clone(list[i])
	}
	return list
}

// call is a call on a partition, with its arguments.
type call struct {
	name string
	port int
	data []int64
	now  int
}

// told is what a call answered.
type told struct {
	events []api.Event
	writes []api.Write
	data   []int64
	took   bool
}

func wake(now int) call { return call{name: "Wake", now: now} }
func arrive(port, now int, data ...int64) call {
	return call{name: "Arrive", port: port, data: data, now: now}
}
func sample(port, now int, data ...int64) call {
	return call{name: "Sample", port: port, data: data, now: now}
}
func take(port, now int) call { return call{name: "Take", port: port, now: now} }
func timers(now int) call     { return call{name: "Timers", now: now} }
func run(now int) call        { return call{name: "Run", now: now} }
func names() []string         { return []string{"Wake", "Arrive", "Sample", "Take", "Timers", "Run"} }

// on does a call on a partition.
func (c call) on(p *part.Part) told {
	switch c.name {
	case "Wake":
		return told{events: p.Wake(c.now)}
	case "Arrive":
		return told{events: p.Arrive(c.port, c.data, c.now)}
	case "Sample":
		p.Sample(c.port, c.data, c.now)
		return told{}
	case "Take":
		data, took, events := p.Take(c.port, c.now)
		return told{events: events, data: data, took: took}
	case "Timers":
		return told{events: p.Timers(c.now)}
	case "Run":
		events, writes := p.Run(c.now)
		return told{events: events, writes: writes}
	}
	panic("no such call: " + c.name)
}

// in does a call in the second reading.
func (c call) in(m *reading) told {
	var data []int64
	var took bool
	switch c.name {
	case "Wake":
		m.wake(c.now)
	case "Arrive":
		m.arrive(c.port, c.data, c.now)
	case "Sample":
		m.sample(c.port, c.data, c.now)
	case "Take":
		data, took = m.take(c.port, c.now)
	case "Timers":
		m.timers(c.now)
	case "Run":
		m.run(c.now)
	default:
		panic("no such call: " + c.name)
	}
	return told{events: m.events, writes: m.writes, data: data, took: took}
}

func (a told) is(b told) bool {
	return sameEvents(a.events, b.events) && sameWrites(a.writes, b.writes) && slices.Equal(a.data, b.data) && a.took == b.took
}

// pair is a partition beside the second reading of it.
type pair struct {
	t *testing.T
	p *part.Part
	m *reading
}

func newPair(t *testing.T, x api.Image, number, now int) *pair {
	t.Helper()
	if err, at := check.Check(x); err != api.OK {
		t.Fatalf("the image may not be: %d, %d", err, at)
	}
	p, events, err := part.New(x, number, now)
	m := read(x, number, now)
	if err != api.OK || !sameEvents(events, m.events) {
		t.Fatalf("New(%d, %d): %v, %d, want %v", number, now, events, err, m.events)
	}
	y := &pair{t, p, m}
	y.stands("New")
	return y
}

// loadPair is a pair that stands so.
func loadPair(t *testing.T, x api.Image, number int, s api.PartState) *pair {
	t.Helper()
	p, err := part.Load(x, number, s)
	if err != api.OK {
		t.Fatalf("Load of %+v: %d", s, err)
	}
	y := &pair{t, p, &reading{x: x, number: number, s: cloneState(s)}}
	y.stands("Load")
	return y
}

// stands wants the partition to stand as the second reading does.
func (y *pair) stands(behind any) {
	y.t.Helper()
	if got := y.p.State(); !sameState(got, y.m.s) {
		y.t.Fatalf("behind %+v: State is\n%+v, want\n%+v", behind, got, y.m.s)
	}
	if got, want := y.p.CanRun(), y.m.canRun(); got != want {
		y.t.Fatalf("behind %+v: CanRun is %v", behind, got)
	}
	for _, now := range []int{y.m.now, y.m.now + 3, 0} {
		if got, want := y.p.Next(now), y.m.next(now); got != want {
			y.t.Fatalf("behind %+v: Next(%d) is %d, want %d", behind, now, got, want)
		}
	}
}

// do does a call on both, wants their answers and states to be the same, and answers what was told.
func (y *pair) do(c call) told {
	y.t.Helper()
	before := cloneState(y.m.s)
	want := c.in(y.m)
	got := c.on(y.p)
	if !got.is(want) {
		y.t.Fatalf("%+v on %+v: %+v, want %+v", c, before, got, want)
	}
	y.stands(c)
	return got
}

// oneOf is an element of a list, by chance.
func oneOf[T any](r *rand.Rand, list []T) T { return list[r.IntN(len(list))] }

// upTo is a number from low to high.
func upTo(r *rand.Rand, low, high int) int { return low + r.IntN(high-low+1) }

// words are so many words by chance.
func words(r *rand.Rand, n int) []int64 {
	list := make([]int64, n)
	for i := range list {
		list[i] = int64(upTo(r, -5, 99))
	}
	return list
}

// anyPorts are ports of these partitions, more of them of the one that is played.
func anyPorts(r *rand.Rand, parts, number int) []api.Port {
	var list []api.Port
	for range r.IntN(9) {
		q := api.Port{Part: number, Kind: r.IntN(2), Out: r.IntN(2) == 0, Size: upTo(r, 1, 3)}
		if r.IntN(5) == 0 {
			q.Part = upTo(r, 1, parts)
		}
		if q.Kind == api.Queuing {
			q.Depth = upTo(r, 1, 3)
		} else if !q.Out {
			q.Refresh = oneOf(r, []int{0, 1, 4, 20, end - 1})
		}
		list = append(list, q)
	}
	return list
}

// anyProcs are processes, and which of them is the handler; their entries are those of blocks of code.
func anyProcs(r *rand.Rand, entries []int) ([]api.Proc, int) {
	list := make([]api.Proc, upTo(r, 1, oneOf(r, []int{2, 4, 6, api.MaxProcs})))
	for i := range list {
		list[i] = api.Proc{Entry: oneOf(r, entries), Priority: upTo(r, 1, 4), Auto: r.IntN(3) > 0}
		if r.IntN(3) == 0 {
			list[i].Period = oneOf(r, []int{1, 3, 8, 20, 90, end - 1})
		}
		if r.IntN(3) == 0 {
			list[i].Limit = oneOf(r, []int{1, 3, 8, 20, 90, end - 1})
			if list[i].Period > 0 {
				list[i].Limit = min(list[i].Limit, list[i].Period)
			}
		}
	}
	handler := 0
	if r.IntN(3) > 0 {
		handler = upTo(r, 1, len(list))
		list[handler-1].Period, list[handler-1].Limit, list[handler-1].Auto = 0, 0, false
	}
	return list, handler
}

// anyPart is a partition with code that calls a great deal.
func anyPart(r *rand.Rand, number int, ports []api.Port) api.Part {
	p := api.Part{Words: oneOf(r, []int{0, 1, 4, 9, 20, 30})}
	p.Fixed = min(p.Words, oneOf(r, []int{0, 0, 1, 3, 20}))
	p.Init = words(r, r.IntN(p.Words+1))
	for range r.IntN(3) {
		highest := oneOf(r, []int{1, 2, api.MaxSem})
		p.Sems = append(p.Sems, api.Sem{Start: r.IntN(min(highest, 3) + 1), Max: highest})
	}
	for range r.IntN(3) {
		p.Events = append(p.Events, r.IntN(3) == 0)
	}
	for range r.IntN(3) {
		p.Buffers = append(p.Buffers, api.Buffer{Size: upTo(r, 1, 3), Depth: upTo(r, 1, 2)})
	}
	var entries []int
	p.Code, entries = anyCode(r, p, number, ports)
	p.Procs, p.Handler = anyProcs(r, entries)
	for k := 1; k < api.Faults; k++ {
		p.Health[k] = oneOf(r, []int{0, 0, 0, 0, 1, 1, 2, 2, 2, 3, 3, 3, 3, 3, 4, 5})
	}
	return p
}

// anyImage is an image that may be, and the number of the partition that is played.
func anyImage(r *rand.Rand) (api.Image, int) {
	var x api.Image
	parts := upTo(r, 1, 3)
	number := upTo(r, 1, parts)
	x.Ports = anyPorts(r, parts, number)
	for i := range parts {
		p := anyPart(r, i+1, x.Ports)
		p.Server = api.Server{Period: 4, Budget: upTo(r, 1, 4), Offset: r.IntN(4), Priority: 7 * i}
		x.Parts = append(x.Parts, p)
	}
	return x, number
}

// The operations of which the code by chance is made.
const (
	opLdi  = 2
	opLd   = 5
	opSt   = 6
	opDiv  = 10
	opAddi = 18
	opJmp  = 22
	opSys  = 27
)

// themes are calls that belong together: code that does many of one theme has processes meet each other.
func themes() [][]int {
	return [][]int{
		{api.CallBufferSend, api.CallBufferReceive},
		{api.CallSemWait, api.CallSemSignal},
		{api.CallEventWait, api.CallEventSet, api.CallEventReset},
		{api.CallSend, api.CallReceive, api.CallPortStatus},
		{api.CallWrite, api.CallRead, api.CallDelay},
		{api.CallStart, api.CallStop, api.CallSuspend, api.CallResume, api.CallSetPriority, api.CallStatus},
		{api.CallLock, api.CallUnlock, api.CallDelay, api.CallSuspend, api.CallPeriodicWait},
		{api.CallDelay, api.CallPeriodicWait, api.CallStatus},
		{api.CallRaise, api.CallDelay, api.CallStart, api.CallLock},
	}
}

// about is a number that the first argument of a call may be.
func about(r *rand.Rand, n int, p api.Part, number int, ports []api.Port) int {
	most := 4
	switch n {
	case api.CallWrite, api.CallRead, api.CallSend, api.CallReceive, api.CallPortStatus:
		kind, out := api.Queuing, n == api.CallWrite || n == api.CallSend
		if n == api.CallWrite || n == api.CallRead {
			kind = api.Sampling
		}
		for i, q := range ports {
			if q.Part == number && q.Kind == kind && q.Out == out && r.IntN(3) > 0 {
				return i + 1
			}
		}
		most = len(ports)
	case api.CallSemWait, api.CallSemSignal:
		most = len(p.Sems)
	case api.CallEventSet, api.CallEventReset, api.CallEventWait:
		most = len(p.Events)
	case api.CallBufferSend, api.CallBufferReceive:
		most = len(p.Buffers)
	case api.CallDelay:
		return oneOf(r, []int{0, 1, 3, 10})
	}
	return upTo(r, 1, max(1, most))
}

// anyCall is a few instructions that lay arguments down, and a call.
func anyCall(r *rand.Rand, n int, p api.Part, number int, ports []api.Port) []api.Instr {
	args := [3]int{about(r, n, p, number, ports), p.Fixed, oneOf(r, []int{-1, -1, 0, 1, 5, 30})}
	if r.IntN(3) == 0 {
		args[1] = oneOf(r, []int{-1, p.Fixed - 1, p.Fixed + 1, p.Words - 3, p.Words - 2, p.Words - 1, p.Words})
	}
	if n == api.CallSemWait || n == api.CallEventWait || n == api.CallSetPriority {
		args[1] = oneOf(r, []int{-1, -1, 0, 2, 5, 30})
	}
	if r.IntN(8) == 0 {
		args[r.IntN(3)] = oneOf(r, []int{-1, 0, 0, 2, 17, math.MaxInt32, math.MinInt32})
	}
	var list []api.Instr
	for i, arg := range args {
		if r.IntN(20) > 0 {
			list = append(list, api.Instr{Op: opLdi, A: byte(i + 1), Imm: int32(arg)})
		}
	}
	return append(list, api.Instr{Op: opSys, Imm: int32(n)})
}

// anyCode is code of blocks, most of them calls; and where they begin.
func anyCode(r *rand.Rand, p api.Part, number int, ports []api.Port) ([]api.Instr, []int) {
	var code []api.Instr
	var entries []int
	theme := oneOf(r, themes())
	for range upTo(r, 1, 30) {
		entries = append(entries, len(code))
		switch r.IntN(50) {
		case 0:
			code = append(code, api.Instr{Op: opJmp, Imm: int32(oneOf(r, entries))})
		case 1:
			code = append(code, api.Instr{Op: byte(r.IntN(30)), A: byte(r.IntN(17)), B: byte(r.IntN(17)), C: byte(r.IntN(17)), Imm: int32(upTo(r, -2, 30))})
		case 2, 3, 4:
			op := oneOf(r, []byte{opLd, opSt, opAddi})
			code = append(code, api.Instr{Op: op, A: byte(r.IntN(16)), B: byte(r.IntN(16)), Imm: int32(upTo(r, -1, p.Words))})
		case 5:
			code = append(code, api.Instr{Op: opDiv, A: byte(r.IntN(16)), B: byte(r.IntN(16)), C: byte(r.IntN(16))})
		case 6, 7, 8, 9, 10, 11, 12:
			code = append(code, anyCall(r, upTo(r, 0, api.Calls), p, number, ports)...)
		default:
			code = append(code, anyCall(r, oneOf(r, theme), p, number, ports)...)
		}
	}
	if r.IntN(4) > 0 {
		code = append(code, api.Instr{Op: opJmp, Imm: int32(oneOf(r, entries))})
	}
	return code, entries
}

// chance is a call by chance at a tick.
func chance(r *rand.Rand, x api.Image, now int) call {
	name := oneOf(r, []string{"Run", "Run", "Run", "Run", "Run", "Run", "Run", "Run", "Arrive", "Sample", "Take", "Timers"})
	if r.IntN(100) == 0 {
		name = "Wake"
	}
	c := call{name: name, port: r.IntN(len(x.Ports) + 2), now: now}
	size := r.IntN(4)
	if c.port >= 1 && c.port <= len(x.Ports) && r.IntN(10) > 0 {
		size = min(max(0, x.Ports[c.port-1].Size), 70)
	}
	c.data = words(r, size)
	return c
}

// play does calls by chance, at ticks that don't fall.
func (y *pair) play(r *rand.Rand, calls int) {
	y.t.Helper()
	now := y.m.now
	for range calls {
		if !y.m.canRun() && y.m.next(now) == never && r.IntN(8) == 0 {
			// Nothing but a message would go on with it.
			y.do(wake(now))
		}
		y.do(chance(r, y.m.x, now))
		switch r.IntN(4) {
		case 0:
			if next := y.m.next(now); next != never {
				now = min(now+r.IntN(2)*40, next)
				y.do(timers(now))
			}
		case 1:
			now = min(now+1, end-1)
		case 2:
			if r.IntN(20) == 0 {
				now = min(now+r.IntN(60), end-1)
			}
		}
	}
}
