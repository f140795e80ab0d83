package age_test

import (
	"slices"
	"testing"

	"bulkhead/age"
	"bulkhead/api"
	"bulkhead/channel"
	imagebytes "bulkhead/image"
	"bulkhead/kernel"
	scriptbytes "bulkhead/script"
)

// record is what was seen of a kernel that went on tick by tick.
type record struct {
	what      string
	x         api.Image
	inputs    [][]api.Input // by ticks
	occupants []int
	states    [][]api.PartState // of all partitions, ahead of each tick and behind the last one
	events    [][]api.Event     // by ticks
}

// booted is a kernel of an image and inputs.
func booted(t *testing.T, x api.Image, inputs []api.Input, how int) *kernel.Kernel {
	t.Helper()
	b, err := imagebytes.Encode(x)
	if err != api.OK {
		t.Fatal(err)
	}
	s, err := scriptbytes.Encode(inputs)
	if err != api.OK {
		t.Fatal(err)
	}
	k, err := kernel.Boot(b, s, how)
	if err != api.OK {
		t.Fatal(err)
	}
	return k
}

// runs lets a kernel go on to a tick.
func runs(t *testing.T, k *kernel.Kernel, until int) {
	t.Helper()
	if err := k.Run(until, 1<<30); err != api.OK || k.Now() != until {
		t.Fatalf("at %d: %d", k.Now(), err)
	}
}

// statesOf are the states of all partitions.
func statesOf(x api.Image, k *kernel.Kernel) []api.PartState {
	var list []api.PartState
	for i := range x.Parts {
		state, _ := k.Part(i + 1)
		list = append(list, state)
	}
	return list
}

// watched is the record of so many ticks of a kernel, from its boot on.
func watched(t *testing.T, what string, x api.Image, inputs []api.Input, how, ticks int) record {
	t.Helper()
	k := booted(t, x, inputs, how)
	r := record{what: what, x: x, inputs: make([][]api.Input, ticks), events: make([][]api.Event, ticks), states: [][]api.PartState{statesOf(x, k)}}
	for tick := range ticks {
		occupant, _ := k.Occupant(tick)
		r.occupants = append(r.occupants, occupant)
		runs(t, k, tick+1)
		r.states = append(r.states, statesOf(x, k))
	}
	for _, e := range k.Trace() {
		r.events[e.Tick] = append(r.events[e.Tick], e)
	}
	for _, in := range inputs {
		if in.Tick < ticks {
			r.inputs[in.Tick] = append(r.inputs[in.Tick], in)
		}
	}
	return r
}

// has tells whether a tick has an event of that kind, of that partition, with that A.
func (r record) has(tick, part, kind, a int) bool {
	return slices.ContainsFunc(r.events[tick], func(e api.Event) bool { return e.Part == part && e.Kind == kind && e.A == int64(a) })
}

// took tells whether a channel that carries took a message in a tick: that is seen at its other end.
func (r record) took(tick, number int) bool {
	c := r.x.Channels[number-1]
	if len(c.To) == 0 {
		return r.has(tick, r.x.Ports[c.From-1].Part, api.EventOut, number)
	}
	part := r.x.Ports[c.To[0]-1].Part
	return r.has(tick, part, api.EventArrive, c.To[0]) || r.has(tick, part, api.EventLost, c.To[0])
}

// waits tells whether, ahead of a tick, a process waits in a state at a port.
func (r record) waits(tick, state, port int) bool {
	procs := r.states[tick][r.x.Ports[port-1].Part-1].Procs
	return slices.ContainsFunc(procs, func(p api.ProcState) bool { return p.State == state && p.Object == port })
}

// laid is a message that lies in an out queue.
type laid struct {
	tick   int // at which it was laid down
	ahead  int // others in the queue
	waited bool
	data   []int64
}

// stays wants a channel to take each message in time, as long as its partition is not booted anew, and counts what it sees.
func (r record) stays(t *testing.T, number int, seen map[string]int) {
	t.Helper()
	c := r.x.Channels[number-1]
	part := r.x.Ports[c.From-1].Part
	stay, err := age.Stay(r.x, number)
	if err != api.OK {
		t.Fatal(err)
	}
	var line []laid
	forget := func() {
		seen["forgotten by a boot"] += len(line)
		line = nil
	}
	for tick := range r.events {
		waiting := r.waits(tick, api.Sending, c.From)
		if r.has(tick, part, api.EventWake, 0) {
			forget()
			waiting = false
		}
		took := r.took(tick, number)
		if took != (len(line) > 0 && channel.Due(c, tick)) {
			t.Fatalf("%s, channel %d: took at %d: %v, %d lie there", r.what, number, tick, took, len(line))
		}
		if took {
			m := line[0]
			line = line[1:]
			if tick <= m.tick || tick > m.tick+stay {
				t.Fatalf("P26.6: %s, channel %d: laid down at %d, taken at %d, Stay is %d", r.what, number, m.tick, tick, stay)
			}
			r.countTaken(tick, number, m, stay, seen)
		}
		if r.has(tick, part, api.EventRestart, 0) {
			forget()
		}
		queue := r.states[tick+1][part-1].Ports[c.From-1].Queue
		for i, data := range queue {
			switch {
			case i >= len(line):
				line = append(line, laid{tick, i, took && waiting, data})
			case !slices.Equal(line[i].data, data):
				t.Fatalf("%s, channel %d: behind %d there is %v, want %v", r.what, number, tick, data, line[i].data)
			case tick >= line[i].tick+stay:
				t.Fatalf("P26.6: %s, channel %d: laid down at %d, it still lies there behind %d, Stay is %d", r.what, number, line[i].tick, tick, stay)
			}
		}
		if len(queue) < len(line) {
			t.Fatalf("%s, channel %d: behind %d there are %d, want %d", r.what, number, tick, len(queue), len(line))
		}
	}
}

// countTaken counts a message that was taken, by all that may matter.
func (r record) countTaken(tick, number int, m laid, stay int, seen map[string]int) {
	from := r.x.Channels[number-1].From
	q := r.x.Ports[from-1]
	state := r.states[tick][q.Part-1]
	for what, is := range map[string]bool{
		"taken":                             true,
		"just above t":                      tick == m.tick+1,
		"just at t + Stay":                  tick == m.tick+stay,
		"just at t + Stay, of Depth 1":      tick == m.tick+stay && q.Depth == 1,
		"behind Depth - 1 others":           m.ahead == q.Depth-1 && q.Depth > 1,
		"just at t + Stay, behind others":   tick == m.tick+stay && q.Depth > 1,
		"laid down in a transfer":           m.waited,
		"while the sender occupies":         r.occupants[tick] == q.Part,
		"while another one occupies":        r.occupants[tick] != q.Part && r.occupants[tick] != 0,
		"while nobody occupies":             r.occupants[tick] == 0,
		"while the sender is IDLE":          state.Mode == api.Idle,
		"while the sender waits":            r.waits(tick, api.Sending, from),
		"while no process may run":          !slices.ContainsFunc(state.Procs, func(p api.ProcState) bool { return p.State == api.Ready }),
		"behind a boot anew of long before": state.Restarts > 0,
		"to the outside":                    len(r.x.Channels[number-1].To) == 0,
	} {
		if is {
			seen[what]++
		}
	}
}

// losses wants a channel's To ports to lose just what finds no room, and none where the queue is empty often enough; it counts what it sees.
func (r record) losses(t *testing.T, number int, seen map[string]int) {
	t.Helper()
	for _, port := range r.x.Channels[number-1].To {
		r.lossesAt(t, number, port, seen)
	}
}

// reckoned are the Rate of so many ticks, and whether a channel is safe for one of its To ports.
func (r record) reckoned(t *testing.T, number, port, ticks int) (int, bool) {
	t.Helper()
	y := r.x
	y.Channels = slices.Clone(r.x.Channels)
	y.Channels[number-1].To = []int{port}
	rate, rateErr := age.Rate(y, number, ticks)
	safe, safeErr := age.Safe(y, number, ticks)
	if rateErr != api.OK || safeErr != api.OK {
		t.Fatalf("%s: %d, %d", r.what, rateErr, safeErr)
	}
	return rate, safe
}

func (r record) lossesAt(t *testing.T, number, port int, seen map[string]int) {
	t.Helper()
	q := r.x.Ports[port-1]
	running, longest, most := 0, 0, 0 // ticks on end behind which the queue was not empty; the most messages in it
	lost, all := 0, 0                 // since the last boot, and in all
	for tick := range r.events {
		room := q.Depth - len(r.states[tick][q.Part-1].Ports[port-1].Queue)
		waiting := r.waits(tick, api.Receiving, port)
		if r.has(tick, q.Part, api.EventWake, 0) {
			room, waiting, lost = q.Depth, false, 0
		}
		loses := r.has(tick, q.Part, api.EventLost, port)
		if loses != (r.took(tick, number) && room == 0 && !waiting) {
			t.Fatalf("%s, port %d: at %d it loses: %v, with room for %d", r.what, port, tick, loses, room)
		}
		if loses {
			lost++
			all++
			rate, safe := r.reckoned(t, number, port, longest+1)
			if safe {
				t.Fatalf("P26.6: %s, port %d: it loses a message at %d, and was empty behind one of any %d ticks on end, in which there are at most %d, with a Depth of %d", r.what, port, tick, longest+1, rate, q.Depth)
			}
			if rate == q.Depth+1 {
				seen["lost, with room for one less than may come"]++
			}
			seen["lost"]++
		}
		if r.has(tick, q.Part, api.EventRestart, 0) {
			lost = 0
		}
		state := r.states[tick+1][q.Part-1].Ports[port-1]
		if state.Lost != lost {
			t.Fatalf("%s, port %d: behind %d it has lost %d, want %d", r.what, port, tick, state.Lost, lost)
		}
		if running++; len(state.Queue) == 0 {
			running = 0
		}
		longest, most = max(longest, running), max(most, len(state.Queue))
	}
	r.countPort(t, number, port, longest+1, most == q.Depth, all, seen)
}

// countPort counts a port by whether it was safe, and whether that was needed.
func (r record) countPort(t *testing.T, number, port, ticks int, wasFull bool, lost int, seen map[string]int) {
	t.Helper()
	rate, safe := r.reckoned(t, number, port, ticks)
	if safe && lost > 0 {
		t.Fatalf("P26.6: %s, port %d: it is safe for %d ticks, and has lost %d", r.what, port, ticks, lost)
	}
	for what, is := range map[string]bool{
		"a safe port":                        safe,
		"a safe port that was full":          safe && wasFull,
		"a safe port, one message more":      safe && wasFull && rate == r.x.Ports[port-1].Depth,
		"a port that is not safe, none lost": !safe && lost == 0,
		"a port that has lost some":          lost > 0,
	} {
		if is {
			seen[what]++
		}
	}
}

// written are the ticks at which a sampling channel got a message.
type written struct {
	first, last, gap int // the gap: the most ticks on end without one, from the first on
	isThere          bool
}

// at notes one at a tick.
func (w *written) at(tick int) {
	if w.first < 0 {
		w.first = tick
	}
	w.last, w.isThere = tick, true
}

// calls are a tick's calls of a partition, of that kind.
func (r record) calls(tick, part, call int) []api.Event {
	var list []api.Event
	for _, e := range r.events[tick] {
		if e.Part == part && e.Kind == api.EventCall && e.A == int64(call) {
			list = append(list, e)
		}
	}
	return list
}

// writes tells whether a WRITE to a sampling port was done in a tick; that it was to this port is seen in the process's register.
func (r record) writes(tick, port int) bool {
	if port == 0 {
		return false
	}
	part := r.x.Ports[port-1].Part
	return slices.ContainsFunc(r.calls(tick, part, api.CallWrite), func(e api.Event) bool {
		return e.B == api.ResOK && r.states[tick+1][part-1].Procs[e.Proc-1].Regs[1] == int64(port)
	})
}

// ages wants each READ of a channel's To ports to be told a sample of the age that it has, and none above Oldest; it counts what it sees.
func (r record) ages(t *testing.T, number int, seen map[string]int) {
	t.Helper()
	for _, port := range r.x.Channels[number-1].To {
		r.agesAt(t, number, port, seen)
	}
}

func (r record) agesAt(t *testing.T, number, port int, seen map[string]int) {
	t.Helper()
	c, q := r.x.Channels[number-1], r.x.Ports[port-1]
	w := written{first: -1}
	for tick := range r.events {
		for _, in := range r.inputs[tick] {
			switch {
			case in.Kind == api.InputMessage && in.Target == number:
				w.at(tick)
			case in.Kind == api.InputWake && in.Target == q.Part:
				w.isThere = false
			}
		}
		if r.has(tick, q.Part, api.EventRestart, 0) {
			w.isThere = false
		}
		if r.writes(tick, c.From) {
			w.at(tick)
		}
		if w.first >= 0 {
			w.gap = max(w.gap, tick-w.last)
		}
		for _, e := range r.calls(tick, q.Part, api.CallRead) {
			if r.states[tick][q.Part-1].Procs[e.Proc-1].Regs[1] == int64(port) && e.B != api.ResParam {
				r.reads(t, number, port, tick, e, w, seen)
			}
		}
	}
}

// reads looks at one READ.
func (r record) reads(t *testing.T, number, port, tick int, e api.Event, w written, seen map[string]int) {
	t.Helper()
	q := r.x.Ports[port-1]
	if !w.isThere {
		if e.B != api.ResEmpty {
			t.Fatalf("%s, port %d: a READ at %d is answered %d, without a sample", r.what, port, tick, e.B)
		}
		seen["nothing to be read"]++
		return
	}
	told := int(r.states[tick+1][q.Part-1].Procs[e.Proc-1].Regs[1])
	oldest, err := age.Oldest(r.x, number, w.gap+1)
	if err != api.OK {
		t.Fatal(err)
	}
	if told > oldest || told != tick-w.last {
		t.Fatalf("P26.6: %s, port %d: a READ at %d is told the age %d, written at %d; in any %d ticks on end it was written, so that it is %d at most", r.what, port, tick, told, w.last, w.gap+1, oldest)
	}
	if e.B == api.ResStale && q.Refresh >= oldest || e.B != api.ResOK && e.B != api.ResStale {
		t.Fatalf("P26.6: %s, port %d: a READ at %d is answered %d, Refresh is %d, the age at most %d", r.what, port, tick, e.B, q.Refresh, oldest)
	}
	for what, is := range map[string]bool{
		"read":                     true,
		"read in the tick of it":   told == 0,
		"read, as old as may be":   told == oldest && told > 0,
		"read stale":               e.B == api.ResStale,
		"fresh by Refresh":         e.B == api.ResOK && q.Refresh == oldest && told == oldest,
		"stale by Refresh":         e.B == api.ResStale && q.Refresh == oldest-1 && told == oldest,
		"read, from the outside":   r.x.Channels[number-1].From == 0,
		"read, long written":       w.last > w.first,
		"read, behind a boot anew": r.states[tick][q.Part-1].Restarts > 0,
	} {
		if is {
			seen[what]++
		}
	}
}

// looks looks at all channels of a record.
func (r record) looks(t *testing.T, seen map[string]int) {
	t.Helper()
	for i, c := range r.x.Channels {
		switch {
		case c.Kind == api.Sampling:
			r.ages(t, i+1, seen)
		case c.From != 0:
			r.stays(t, i+1, seen)
			r.losses(t, i+1, seen)
		}
	}
}
