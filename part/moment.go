package part

import (
	"bulkhead/api"
	"bulkhead/health"
	"bulkhead/mem"
	"bulkhead/objects"
	"bulkhead/port"
	"bulkhead/proc"
)

// noPlace is the place in the code of a fault that time has brought, not an instruction.
const noPlace = -1

// moment is what happens to a partition in one call from outside, in its order.
type moment struct {
	part   *Part
	now    int
	events []api.Event
	writes []api.Write
}

// happens tells an event.
func (m *moment) happens(kind, proc int, a, b int64) {
	m.events = append(m.events, api.Event{Tick: m.now, Part: m.part.number, Kind: kind, Proc: proc, A: a, B: b})
}

// returns tells that a call of a process has a result.
func (m *moment) returns(proc, call int, result int64) {
	m.happens(api.EventCall, proc, int64(call), result)
}

// boot begins a life of the partition: nothing of an earlier one stays but the number of restarts.
func (m *moment) boot() {
	p := m.part
	p.memory, _ = mem.New(p.form.Words, p.form.Init)
	p.table, p.objects, p.ports = proc.New(p.form), objects.New(p.form), port.New(p.image(), p.number)
	p.mode = api.Normal
	for i, form := range p.form.Procs {
		if form.Auto {
			m.start(i+1, [3]int64{})
		}
	}
}

// bootAnew begins another life; the kind of event says who has asked for it.
func (m *moment) bootAnew(kind int) {
	m.happens(kind, 0, 0, 0)
	m.part.restarts++
	m.boot()
}

// idle ends the partition's life: it keeps what it has, and waits for a Wake.
func (m *moment) idle() {
	m.happens(api.EventIdle, 0, 0, 0)
	for i := range m.part.form.Procs {
		m.part.table.Stop(i + 1)
	}
	m.part.mode = api.Idle
}

// start begins a process's life, if it can begin.
func (m *moment) start(proc int, args [3]int64) {
	if m.part.table.Start(proc, m.now, args) {
		m.happens(api.EventStart, proc, 0, 0)
	}
}

// tell ends the wait of a process with a result.
func (m *moment) tell(proc int, result int64) {
	call := callOf(m.part.stateOf(proc))
	m.part.table.Wake(proc, result)
	m.returns(proc, call, result)
}

// deliver hands a message to a process that waits for one, at the address that it had named.
func (m *moment) deliver(proc int, data []int64) {
	s, _ := m.part.table.Get(proc)
	mem.Write(m.part.memory, m.part.form.Fixed, int64(s.Addr), data)
	m.tell(proc, api.ResOK)
}

// fail is a fault of a process at a place of the code, and what it leads to.
func (m *moment) fail(kind, proc, pc int) {
	m.happens(api.EventFault, proc, int64(kind), int64(pc))
	m.act(kind, proc, pc)
}

// act does the verdict on a fault.
func (m *moment) act(kind, proc, pc int) {
	p := m.part
	busy := p.stateOf(p.form.Handler) != api.Dormant
	v := health.Judge(p.form, kind, proc, busy)
	switch v.Action {
	case api.ActStop:
		p.table.Stop(v.Proc)
	case api.ActRestartProc:
		p.table.Stop(v.Proc)
		m.start(v.Proc, [3]int64{})
	case api.ActHandler:
		if kind == api.FaultCode {
			// Behind the code's end there is nothing to go on with, whatever the handler does.
			p.table.Stop(proc)
		}
		m.start(v.Proc, health.Args(kind, proc, pc))
	case api.ActRestart:
		m.bootAnew(api.EventRestart)
	case api.ActIdle:
		m.idle()
	}
}

// fire does what a due timer of a process does.
func (m *moment) fire(proc, kind int) {
	table := m.part.table
	before, _ := table.Get(proc)
	switch {
	case kind == api.TimerDeadline:
		m.happens(api.EventMiss, proc, int64(m.now), 0)
		table.Fire(proc, kind, m.now)
		m.act(api.FaultMiss, proc, noPlace)
	case kind == api.TimerWake:
		table.Fire(proc, kind, m.now)
		m.returns(proc, callOf(before.State), timeOutOf(before.State))
	case before.State == api.InPeriod:
		table.Fire(proc, kind, m.now)
		m.returns(proc, api.CallPeriodicWait, api.ResOK)
	default:
		m.happens(api.EventOverrun, proc, int64(before.Released), 0)
		table.Fire(proc, kind, m.now)
	}
}

// callOf is the call in which a process waits in a state.
func callOf(state int) int {
	switch state {
	case api.Delayed:
		return api.CallDelay
	case api.Sending:
		return api.CallSend
	case api.Receiving:
		return api.CallReceive
	case api.AtSem:
		return api.CallSemWait
	case api.AtEvent:
		return api.CallEventWait
	case api.Putting:
		return api.CallBufferSend
	case api.Getting:
		return api.CallBufferReceive
	}
	return 0
}

// timeOutOf is the result of a wait in a state that time has ended; only one that is Delayed has asked for just that.
func timeOutOf(state int) int64 {
	if state == api.Delayed {
		return api.ResOK
	}
	return api.ResTimeout
}
