package part

import (
	"slices"

	"bulkhead/api"
	"bulkhead/mem"
	"bulkhead/num"
)

// fault is what a call that cannot go on gives up with: the kind of its fault.
type fault int

// request is a call that a process does. Its first two arguments have names; a third one is nothing but a time-out.
type request struct {
	*moment
	number, proc int
	regs         [api.Regs]int64
	pc           int // behind the call's own instruction
	a, b         int64
	data         []int64 // the words that it hands over
}

// service is what a call is, in the order in which that is looked at. A function that is nil has nothing to say.
type service struct {
	param    func(r *request) bool // the result is PARAM, if
	noAction func(r *request) bool // the result is NO_ACTION, if
	reads    func(r *request) int  // so many words from b on must be there
	fills    func(r *request) int  // so many words from b on must be writable
	atOnce   func(r *request) bool // does it, if that can be done at once
	state    int                   // else it waits in this state,
	timeOut  int                   // at most for as long as this register says
}

// services is the table of the calls, by their numbers.
func services() [api.Calls]service {
	return [...]service{
		api.CallNow:           {atOnce: (*request).tellNow},
		api.CallDelay:         {param: isBelowZero, atOnce: (*request).yield, state: api.Delayed, timeOut: 1},
		api.CallPeriodicWait:  {noAction: isNotPeriodic, atOnce: (*request).endJob},
		api.CallStopSelf:      {atOnce: (*request).stopSelf},
		api.CallStart:         {param: isNoSubject, noAction: isAwake, atOnce: (*request).startIt},
		api.CallStop:          {param: isNoSubject, noAction: isDormant, atOnce: (*request).stopIt},
		api.CallSuspend:       {param: isNoSubject, noAction: isBusy, atOnce: (*request).suspendIt},
		api.CallResume:        {param: isNoSubject, noAction: isNotSuspended, atOnce: (*request).resumeIt},
		api.CallSetPriority:   {param: isNoPriority, noAction: isDormant, atOnce: (*request).setPriority},
		api.CallLock:          {noAction: (*request).mayNotWait, atOnce: (*request).lock},
		api.CallUnlock:        {noAction: isNotHolder, atOnce: (*request).unlock},
		api.CallStatus:        {param: isNoProcess, atOnce: (*request).tellStatus},
		api.CallSetMode:       {param: isNoMode, atOnce: (*request).setMode},
		api.CallLog:           {atOnce: (*request).log},
		api.CallWrite:         {param: isNoPort(api.Sampling, true), reads: portSize, atOnce: (*request).writeSample},
		api.CallRead:          {param: isNoPort(api.Sampling, false), fills: portSize, atOnce: (*request).readSample},
		api.CallSend:          {param: isNoPort(api.Queuing, true), reads: portSize, atOnce: (*request).send, state: api.Sending, timeOut: 3},
		api.CallReceive:       {param: isNoPort(api.Queuing, false), fills: portSize, atOnce: (*request).receive, state: api.Receiving, timeOut: 3},
		api.CallPortStatus:    {param: isForeign, atOnce: (*request).tellPort},
		api.CallSemWait:       {param: isNoSem, atOnce: (*request).takeSem, state: api.AtSem, timeOut: 2},
		api.CallSemSignal:     {param: isNoSem, noAction: isSemFull, atOnce: (*request).giveSem},
		api.CallEventSet:      {param: isNoEvent, atOnce: (*request).setEvent},
		api.CallEventReset:    {param: isNoEvent, atOnce: (*request).resetEvent},
		api.CallEventWait:     {param: isNoEvent, atOnce: (*request).seeEvent, state: api.AtEvent, timeOut: 2},
		api.CallBufferSend:    {param: isNoBuffer, reads: bufferSize, atOnce: (*request).put, state: api.Putting, timeOut: 3},
		api.CallBufferReceive: {param: isNoBuffer, fills: bufferSize, atOnce: (*request).get, state: api.Getting, timeOut: 3},
		api.CallRaise:         {atOnce: (*request).raise},
	}
}

// call does the call that an instruction of a process is; the kind of the fault with which it gave up, or 0.
func (m *moment) call(proc int, e api.Effect) (kind int) {
	defer func() {
		if given := recover(); given != nil {
			// A panic that is no call's fault is not taken for one: it stays a panic.
			kind = int(given.(fault))
		}
	}()
	r := &request{moment: m, number: e.Call, proc: proc, regs: e.Regs, pc: e.PC, a: e.Regs[1], b: e.Regs[2]}
	r.serve(services()[e.Call])
	return 0
}

// serve does a call: what applies first.
func (r *request) serve(s service) {
	if s.param != nil && s.param(r) {
		r.answer(api.ResParam)
		return
	}
	if s.noAction != nil && s.noAction(r) {
		r.answer(api.ResNoAction)
		return
	}
	r.reachWords(s)
	switch {
	case s.atOnce(r):
	case r.regs[s.timeOut] == 0:
		r.answer(api.ResNotNow)
	case r.mayNotWait():
		r.answer(api.ResLocked)
	default:
		r.wait(s)
	}
}

// reachWords gives up, if the words that the call names are not there; those that it hands over are read.
func (r *request) reachWords(s service) {
	p, there := r.part, true
	if s.reads != nil {
		r.data, there = mem.Read(p.memory, r.b, s.reads(r))
	}
	if s.fills != nil {
		there = mem.Writable(len(p.memory), p.form.Fixed, r.b, s.fills(r))
	}
	if !there {
		panic(fault(api.FaultMemory))
	}
}

// answer lays a result into register 0 and tells it, which ends the call.
func (r *request) answer(result int64) bool {
	r.regs[0] = result
	r.part.table.Set(r.proc, r.regs, r.pc)
	r.returns(r.proc, r.number, result)
	return true
}

// wait lets the process wait; it is told the result when its wait ends.
func (r *request) wait(s service) {
	object, addr := r.it(), 0
	if s.state == api.Delayed {
		object = 0
	}
	if s.fills != nil {
		addr = int(r.b)
	}
	until := num.Later(r.now, r.regs[s.timeOut])
	r.part.table.Wait(r.proc, s.state, until, object, addr, r.data)
}

// it is what the call is about: the process, port or object of the number a.
func (r *request) it() int { return int(r.a) }

// itself tells whether a process calls about itself.
func (r *request) itself() bool { return r.it() == r.proc }

// mayNotWait tells whether the process would stop the others by waiting: the handler, and the holder of the lock.
func (r *request) mayNotWait() bool {
	return r.proc == r.part.form.Handler || r.part.holds(r.proc)
}

func isBelowZero(r *request) bool { return r.a < 0 }

func isNoProcess(r *request) bool { return r.a < 1 || r.a > int64(len(r.part.form.Procs)) }

// isNoSubject tells whether a is no process that others may act upon: the handler is the health monitor's alone.
func isNoSubject(r *request) bool { return isNoProcess(r) || r.it() == r.part.form.Handler }

func isNoPriority(r *request) bool {
	return isNoSubject(r) || r.b < 0 || r.b > api.MaxPriority
}

func isNoMode(r *request) bool { return r.a != api.Idle && r.a != api.Normal }

// isNoPort is whether a is no port of the partition of this kind and direction.
func isNoPort(kind int, out bool) func(r *request) bool {
	return func(r *request) bool { return !r.part.owns(r.it(), kind, out) }
}

// isForeign tells whether a is no port of the partition at all.
func isForeign(r *request) bool {
	_, _, err := r.part.ports.Count(r.it())
	return err != api.OK
}

func isNoSem(r *request) bool {
	_, err := r.part.objects.Count(r.it())
	return err != api.OK
}

func isNoEvent(r *request) bool {
	_, err := r.part.objects.IsUp(r.it())
	return err != api.OK
}

func isNoBuffer(r *request) bool { return r.a < 1 || r.a > int64(len(r.part.form.Buffers)) }

func isNotPeriodic(r *request) bool { return r.part.form.Procs[r.proc-1].Period <= 0 }

func isDormant(r *request) bool { return r.part.stateOf(r.it()) == api.Dormant }

func isAwake(r *request) bool { return !isDormant(r) }

// isBusy tells whether a may not be suspended by anybody. The holder of the lock is told by LOCKED that it may not suspend itself.
func isBusy(r *request) bool {
	return r.part.stateOf(r.it()) != api.Ready || r.part.form.Procs[r.it()-1].Period > 0 || !r.itself() && r.part.holds(r.it())
}

func isNotSuspended(r *request) bool { return r.part.stateOf(r.it()) != api.Suspended }

func isNotHolder(r *request) bool { return !r.part.holds(r.proc) }

func isSemFull(r *request) bool {
	_, waits := r.part.first(api.AtSem, r.it())
	count, _ := r.part.objects.Count(r.it())
	return !waits && count >= r.part.form.Sems[r.it()-1].Max
}

func portSize(r *request) int { return r.part.ends[r.it()-1].Size }

func bufferSize(r *request) int { return r.part.form.Buffers[r.it()-1].Size }

func (r *request) tellNow() bool { return r.answer(int64(r.now)) }

// yield is all of a delay that takes no time; a longer one waits.
func (r *request) yield() bool {
	switch {
	case r.mayNotWait():
		return r.answer(api.ResLocked)
	case r.a != 0:
		return false
	}
	r.part.table.Yield(r.proc)
	return r.answer(api.ResOK)
}

func (r *request) endJob() bool {
	if r.mayNotWait() {
		return r.answer(api.ResLocked)
	}
	r.part.table.Period(r.proc, r.now)
	return true
}

func (r *request) stopSelf() bool {
	r.part.table.Stop(r.proc)
	return true
}

func (r *request) startIt() bool {
	r.start(r.it(), [3]int64{})
	return r.answer(api.ResOK)
}

func (r *request) stopIt() bool {
	if r.itself() {
		return r.stopSelf()
	}
	r.part.table.Stop(r.it())
	return r.answer(api.ResOK)
}

func (r *request) suspendIt() bool {
	if r.part.holds(r.it()) {
		return r.answer(api.ResLocked)
	}
	// One that suspends itself has its answer first: nothing more is told it when it is resumed.
	r.answer(api.ResOK)
	r.part.table.Suspend(r.it())
	return true
}

func (r *request) resumeIt() bool {
	r.part.table.Resume(r.it())
	return r.answer(api.ResOK)
}

func (r *request) setPriority() bool {
	r.part.table.SetPriority(r.it(), int(r.b))
	return r.answer(api.ResOK)
}

func (r *request) lock() bool {
	r.part.table.Lock(r.proc)
	return r.answer(api.ResOK)
}

func (r *request) unlock() bool {
	r.part.table.Unlock(r.proc)
	return r.answer(api.ResOK)
}

func (r *request) tellStatus() bool {
	s, _ := r.part.table.Get(r.it())
	for i, n := range [...]int{s.State, s.Priority, s.Deadline, s.Misses} {
		r.regs[1+i] = int64(n)
	}
	return r.answer(api.ResOK)
}

func (r *request) setMode() bool {
	if r.a == api.Idle {
		r.idle()
		return true
	}
	r.bootAnew(api.EventRestart)
	return true
}

func (r *request) log() bool {
	r.happens(api.EventLog, r.proc, r.a, 0)
	return r.answer(api.ResOK)
}

func (r *request) writeSample() bool {
	r.writes = append(r.writes, api.Write{Port: r.it(), Data: r.data})
	return r.answer(api.ResOK)
}

func (r *request) readSample() bool {
	data, age, fresh, _ := r.part.ports.Last(r.it(), r.now)
	if len(data) == 0 {
		return r.answer(api.ResEmpty)
	}
	r.store(data)
	r.regs[1] = int64(age)
	if !fresh {
		return r.answer(api.ResStale)
	}
	return r.answer(api.ResOK)
}

// store writes a message from b on, where the words are known to be writable.
func (r *request) store(data []int64) {
	mem.Write(r.part.memory, r.part.form.Fixed, r.b, data)
}

func (r *request) send() bool {
	pushed, _ := r.part.ports.Push(r.it(), r.data)
	return pushed && r.answer(api.ResOK)
}

func (r *request) receive() bool {
	data, popped, _ := r.part.ports.Pop(r.it())
	if !popped {
		return false
	}
	r.store(data)
	return r.answer(api.ResOK)
}

func (r *request) tellPort() bool {
	count, lost, _ := r.part.ports.Count(r.it())
	r.regs[1], r.regs[2] = int64(count), int64(lost)
	return r.answer(api.ResOK)
}

func (r *request) takeSem() bool {
	taken, _ := r.part.objects.Down(r.it())
	return taken && r.answer(api.ResOK)
}

func (r *request) giveSem() bool {
	if proc, waits := r.part.first(api.AtSem, r.it()); waits {
		r.tell(proc, api.ResOK)
	} else {
		r.part.objects.Up(r.it())
	}
	return r.answer(api.ResOK)
}

func (r *request) setEvent() bool {
	r.part.objects.Raise(r.it(), true)
	line := r.part.table.Line(api.AtEvent, r.it())
	slices.Sort(line) // nobody is picked: all are woken, by their numbers
	for _, proc := range line {
		r.tell(proc, api.ResOK)
	}
	return r.answer(api.ResOK)
}

func (r *request) resetEvent() bool {
	r.part.objects.Raise(r.it(), false)
	return r.answer(api.ResOK)
}

func (r *request) seeEvent() bool {
	up, _ := r.part.objects.IsUp(r.it())
	return up && r.answer(api.ResOK)
}

func (r *request) put() bool {
	if proc, waits := r.part.first(api.Getting, r.it()); waits {
		r.deliver(proc, r.data)
		return r.answer(api.ResOK)
	}
	taken, _ := r.part.objects.Put(r.it(), r.data)
	return taken && r.answer(api.ResOK)
}

func (r *request) get() bool {
	data, had, _ := r.part.objects.Get(r.it())
	if !had {
		return false
	}
	r.store(data)
	if proc, waits := r.part.first(api.Putting, r.it()); waits {
		s, _ := r.part.table.Get(proc)
		r.part.objects.Put(r.it(), s.Data)
		r.tell(proc, api.ResOK)
	}
	return r.answer(api.ResOK)
}

// raise is a fault that the process asks for.
func (r *request) raise() bool { panic(fault(api.FaultRaised)) }
