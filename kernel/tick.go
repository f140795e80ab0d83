package kernel

import (
	"slices"

	"bulkhead/api"
	"bulkhead/channel"
	"bulkhead/part"
)

// tenant is a partition, with what the kernel must know of it to pass over the ticks in which it does nothing.
type tenant struct {
	part    *part.Part
	timer   int  // the next tick at which a timer of it is due; MaxTick: there is none
	ready   bool // it can run
	touched bool // something has come to it in this tick, so that timer and ready may be others now
	starved bool // it occupies no tick any more
}

// look asks the partition for what the kernel must know of it, behind the timers of a tick.
func (p *tenant) look(now int) {
	p.timer, p.ready, p.touched = orEnd(p.part.Next(now)), p.part.CanRun(), false
}

// waitsForItsTick tells whether it would run, if it occupied a tick, and ever does.
func (p *tenant) waitsForItsTick() bool { return p.ready && !p.starved }

// tick does the tick now by its phases; whether it holds an instruction.
func (k *Kernel) tick() bool {
	came := k.takeInputs()
	took := k.transfer()
	fired := k.fireTimers()
	ran := k.runOccupant()
	if came || took || fired || ran {
		k.stops++
	}
	if ran {
		k.steps++
	}
	k.now++
	return ran
}

// takeInputs is the first phase; whether there was an input.
func (k *Kernel) takeInputs() bool {
	came := false
	for len(k.inputs) > 0 && k.inputs[0].Tick == k.now {
		k.take(k.inputs[0])
		k.inputs = k.inputs[1:]
		came = true
	}
	return came
}

// take lets an input come in.
func (k *Kernel) take(x api.Input) {
	if x.Kind == api.InputMessage {
		k.forward(x.Target, x.Data)
		return
	}
	p := k.tenants[x.Target-1]
	k.tell(p.part.Wake(k.now)...)
	p.touched = true
}

// transfer is the second phase; whether a message was taken.
func (k *Kernel) transfer() bool {
	took := false
	for i, tick := range k.due {
		if tick == k.now && k.move(i+1) {
			took = true
		}
	}
	return took
}

// move takes a message for a channel that is due, and brings it on; whether there was one.
func (k *Kernel) move(number int) bool {
	port := k.channel(number).From
	p := k.owner(port)
	data, took, events := p.part.Take(port, k.now)
	if !took {
		// Nothing lies there till somebody sends: until then the channel's ticks need not be stopped at.
		k.due[number-1] = api.MaxTick
		return false
	}
	p.touched = true
	k.expect(number)
	k.forward(number, data)
	k.tell(events...)
	return true
}

// fireTimers is the third phase; whether a timer was due, which is never without an event.
func (k *Kernel) fireTimers() bool {
	fired := false
	for _, p := range k.tenants {
		if !p.touched && p.timer != k.now {
			continue
		}
		events := p.part.Timers(k.now)
		k.tell(events...)
		fired = fired || len(events) > 0
		p.look(k.now)
	}
	return fired
}

// runOccupant is the fourth phase; whether an instruction was done.
func (k *Kernel) runOccupant() bool {
	// The scheduler is left where it stands as long as nobody would run, whoever occupies the tick.
	if !k.someoneWaits() {
		return false
	}
	number, _ := k.course.look(k.now)
	if !k.waits(number) {
		return false
	}
	p := k.tenants[number-1]
	events, writes := p.part.Run(k.now)
	k.tell(events...)
	for _, w := range writes {
		if road := channel.FromPort(k.roads, w.Port); road != 0 {
			k.forward(road, w.Data)
		}
	}
	if slices.ContainsFunc(events, isSent) {
		for _, road := range channel.Outlet(k.roads, number) {
			k.expect(road)
		}
	}
	p.look(k.now)
	return true
}

// isSent tells whether an event is a SEND that has laid a message into a queue. It does not say into which.
func isSent(e api.Event) bool {
	return e.Kind == api.EventCall && e.A == api.CallSend && e.B == api.ResOK
}

// expect lets the kernel stop at the next tick of a channel, as there may be a message for it.
func (k *Kernel) expect(number int) {
	k.due[number-1] = orEnd(channel.Next(k.channel(number), k.now+1))
}

// forward brings a message to the ports that a channel goes to; if there are none, out.
func (k *Kernel) forward(number int, data []int64) {
	road := k.channel(number)
	for _, port := range road.To {
		p := k.owner(port)
		if road.Kind == api.Sampling {
			p.part.Sample(port, data, k.now)
			continue
		}
		k.tell(p.part.Arrive(port, data, k.now)...)
		p.touched = true
	}
	if len(road.To) == 0 {
		k.tell(api.Event{Tick: k.now, Part: k.roads.Ports[road.From-1].Part, Kind: api.EventOut, A: int64(number), Data: data})
	}
}

// nextStop is the least tick from now on in which something may happen; until, if there is none below it.
func (k *Kernel) nextStop(until int) int {
	next := until
	if len(k.inputs) > 0 {
		next = min(next, k.inputs[0].Tick)
	}
	for _, tick := range k.due {
		next = min(next, tick)
	}
	for _, p := range k.tenants {
		next = min(next, p.timer)
	}
	return k.nextRun(next)
}

// nextRun is the least tick from now on in which the occupant runs, if nothing else happens; until, if there is none below it.
func (k *Kernel) nextRun(until int) int {
	if !k.someoneWaits() {
		return until
	}
	turned := max(k.now, k.hyper) + k.hyper
	for t := k.now; t < until; {
		if t >= turned {
			k.starve()
			return until
		}
		number, behind := k.course.look(t)
		if k.waits(number) {
			return t
		}
		t = behind
	}
	return until
}

// starve notes that who waits now has waited for a whole turn of the occupants, and so waits for ever.
func (k *Kernel) starve() {
	for _, p := range k.tenants {
		p.starved = p.starved || p.ready
	}
}

// someoneWaits tells whether any partition waits for its tick.
func (k *Kernel) someoneWaits() bool {
	return slices.ContainsFunc(k.tenants, (*tenant).waitsForItsTick)
}

// waits tells whether an occupant (0: nobody) waits for its tick.
func (k *Kernel) waits(occupant int) bool {
	return occupant != 0 && k.tenants[occupant-1].waitsForItsTick()
}

// channel is the channel of a number.
func (k *Kernel) channel(number int) api.Channel { return k.roads.Channels[number-1] }

// owner is the partition of a port.
func (k *Kernel) owner(port int) *tenant { return k.tenants[k.roads.Ports[port-1].Part-1] }

// tell lays events behind the trace.
func (k *Kernel) tell(events ...api.Event) { k.trace = append(k.trace, events...) }

// orEnd is a tick; MaxTick for the one that never comes.
func orEnd(tick int) int {
	if tick == api.Never {
		return api.MaxTick
	}
	return tick
}
