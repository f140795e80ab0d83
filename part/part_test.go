package part_test

import (
	"fmt"
	"slices"
	"strings"
	"testing"

	"bulkhead/api"
	"bulkhead/isa"
	"bulkhead/part"
)

// act is a process and what it does, lines with ; between them.
type act struct {
	form  api.Proc
	lines string
}

// plain is a process without period that a boot starts.
func plain(priority int, lines string) act {
	return act{api.Proc{Priority: priority, Auto: true}, lines}
}

// sleeper is one that a boot does not start.
func sleeper(priority int, lines string) act {
	return act{api.Proc{Priority: priority}, lines}
}

// periodic is a process with releases and, if limit is above 0, deadlines.
func periodic(priority, period, limit int, lines string) act {
	return act{api.Proc{Priority: priority, Period: period, Limit: limit, Auto: true}, lines}
}

// split is the lines of a text, none of which is empty.
func split(text string) []string {
	var list []string
	for line := range strings.SplitSeq(text, ";") {
		if line = strings.TrimSpace(line); line != "" {
			list = append(list, line)
		}
	}
	return list
}

// with is a partition that has these processes and their code, one behind the other.
func with(p api.Part, acts ...act) api.Part {
	p.Code, p.Procs = nil, nil
	for _, a := range acts {
		a.form.Entry = len(p.Code)
		p.Procs = append(p.Procs, a.form)
		for _, line := range split(a.lines) {
			x, err := isa.Read(line)
			if err != api.OK {
				panic(fmt.Sprintf("no instruction: %q", line))
			}
			p.Code = append(p.Code, x)
		}
	}
	return p
}

// all is a health table with one action for each fault.
func all(action int) [api.Faults]int {
	return [api.Faults]int{0, action, action, action, action, action, action, action}
}

// image has these partitions, with servers that may be, and ports.
func image(parts []api.Part, ports ...api.Port) api.Image {
	for i := range parts {
		parts[i].Server = api.Server{Period: 4, Budget: 1, Priority: i}
	}
	return api.Image{Parts: parts, Ports: ports}
}

// alone is an image of one partition.
func alone(p api.Part, ports ...api.Port) api.Image { return image([]api.Part{p}, ports...) }

func callName(n int64) string {
	list := []string{"0", "NOW", "DELAY", "PERIODIC_WAIT", "STOP_SELF", "START", "STOP", "SUSPEND", "RESUME", "SET_PRIORITY", "LOCK", "UNLOCK", "STATUS", "SET_MODE", "LOG", "WRITE", "READ", "SEND", "RECEIVE", "PORT_STATUS", "SEM_WAIT", "SEM_SIGNAL", "EVENT_SET", "EVENT_RESET", "EVENT_WAIT", "BUFFER_SEND", "BUFFER_RECEIVE", "RAISE"}
	return list[n]
}

func resultName(n int64) string {
	return []string{"OK", "NO_ACTION", "PARAM", "NOT_NOW", "TIMEOUT", "LOCKED", "EMPTY", "STALE"}[n]
}

func faultName(n int64) string {
	return []string{"0", "illegal", "memory", "divide", "code", "service", "raised", "miss"}[n]
}

// showOne is an event told shortly: what it has no use for must be 0.
func showOne(e api.Event) string {
	var text string
	switch e.Kind {
	case api.EventCall:
		text = fmt.Sprint("Call ", e.Proc, " ", callName(e.A), " ")
		if e.A == api.CallNow {
			return text + fmt.Sprint(e.B)
		}
		return text + resultName(e.B)
	case api.EventFault:
		return fmt.Sprint("Fault ", e.Proc, " ", faultName(e.A), " ", e.B)
	case api.EventLog, api.EventMiss, api.EventOverrun:
		text = fmt.Sprint(map[int]string{api.EventLog: "Log ", api.EventMiss: "Miss ", api.EventOverrun: "Overrun "}[e.Kind], e.Proc, " ", e.A)
		e.Proc, e.A = 0, 0
	case api.EventArrive, api.EventLost:
		text = fmt.Sprint(map[int]string{api.EventArrive: "Arrive ", api.EventLost: "Lost "}[e.Kind], e.A)
		e.A = 0
	case api.EventStart:
		text = fmt.Sprint("Start ", e.Proc)
		e.Proc = 0
	default:
		text = map[int]string{api.EventRestart: "Restart", api.EventIdle: "Idle", api.EventWake: "Wake"}[e.Kind]
	}
	if text == "" || e.Proc != 0 || e.A != 0 || e.B != 0 {
		return fmt.Sprintf("%s %+v", text, e)
	}
	return text
}

func show(events []api.Event) string {
	var list []string
	for _, e := range events {
		list = append(list, showOne(e))
	}
	return strings.Join(list, "; ")
}

// tells does a call, and wants these events of it.
func (y *pair) tells(c call, want string) told {
	y.t.Helper()
	got := y.do(c)
	for _, e := range got.events {
		if e.Tick != c.now || e.Part != y.m.number || len(e.Data) != 0 {
			y.t.Errorf("%+v: %+v", c, e)
		}
	}
	if text := show(got.events); text != want {
		y.t.Errorf("%s(%d) at %d: %q, want %q", c.name, c.port, c.now, text, want)
	}
	return got
}

// runs does so many instructions at a tick, and wants these events of them all.
func (y *pair) runs(many, now int, want string) []api.Write {
	y.t.Helper()
	var events []api.Event
	var writes []api.Write
	for range many {
		got := y.do(run(now))
		events, writes = append(events, got.events...), append(writes, got.writes...)
	}
	if text := show(events); text != want {
		y.t.Errorf("%d instructions at %d: %q, want %q", many, now, text, want)
	}
	return writes
}

// state wants a process to be in a state.
func (y *pair) state(q, want int) {
	y.t.Helper()
	if got := y.p.State().Procs[q-1]; got.State != want {
		y.t.Errorf("process %d: %+v, want state %d", q, got, want)
	}
}

// memory wants these words from an address on.
func (y *pair) memory(from int, want ...int64) {
	y.t.Helper()
	if got := y.p.State().Memory; !slices.Equal(got[from:from+len(want)], want) {
		y.t.Errorf("memory %v, want %v from %d on", got, want, from)
	}
}

// queue wants a port to have these messages, and so many lost.
func (y *pair) queue(port, lost int, want ...[]int64) {
	y.t.Helper()
	if got := y.p.State().Ports[port-1]; !sameMessages(got.Queue, want) || got.Lost != lost {
		y.t.Errorf("port %d: %+v, want %v, %d lost", port, got, want, lost)
	}
}

// regs wants the first registers of a process to be these.
func (y *pair) regs(q int, want ...int64) {
	y.t.Helper()
	if got := y.p.State().Procs[q-1].Regs; !slices.Equal(got[:len(want)], want) {
		y.t.Errorf("process %d: registers %v, want %v", q, got, want)
	}
}

// chapter is the image of the chapter's examples.
func chapter() api.Image {
	p := api.Part{Words: 8, Fixed: 2, Init: []int64{5, 6}, Health: all(api.ActStop), Sems: []api.Sem{{Start: 0, Max: 1}}}
	p = with(p, plain(5, "ldi r1 2; sys 5; jmp 2"), sleeper(9, "ldi r1 1; ldi r2 4; ldi r3 -1; sys 18; ld r5 r0 99"))
	return alone(p, api.Port{Part: 1, Kind: api.Queuing, Size: 1, Depth: 1})
}

// TestExamples: the chapter's examples.
func TestExamples(t *testing.T) {
	p, events, err := part.New(chapter(), 1, 0)
	if show(events) != "Start 1" || err != api.OK {
		t.Fatalf("New: %q, %d", show(events), err)
	}
	y := &pair{t, p, read(chapter(), 1, 0)}
	y.tells(run(3), "")
	y.tells(run(4), "Start 2; Call 1 START OK")
	for now := 5; now <= 8; now++ {
		y.tells(run(now), "")
	}
	if s := p.State().Procs[1]; s.State != api.Receiving || s.Object != 1 || s.Addr != 4 || s.Until != never || s.PC != 7 {
		t.Errorf("process 2: %+v", s)
	}
	y.tells(run(9), "")
	if p.Next(9) != never {
		t.Errorf("Next(9): %d", p.Next(9))
	}
	y.tells(arrive(1, 9, 70), "Arrive 1; Call 2 RECEIVE OK")
	y.memory(4, 70)
	y.tells(arrive(1, 9, 71), "Arrive 1")
	y.tells(arrive(1, 9, 72), "Lost 1")
	y.tells(run(10), "Fault 2 memory 7")
	y.state(2, api.Dormant)
	y.tells(wake(11), "Wake; Start 1")
	y.memory(4, 0)
	if got := p.State().Restarts; got != 1 {
		t.Errorf("Restarts: %d", got)
	}
}

// three is an image of three partitions, unlike each other.
func three() api.Image {
	one := with(api.Part{Words: 1, Init: []int64{1}}, plain(1, "nop"))
	two := with(api.Part{Words: 2, Init: []int64{2}}, sleeper(1, "nop"), plain(2, "nop; jmp 0"), plain(1, "nop"))
	return image([]api.Part{one, two, with(api.Part{}, sleeper(1, "nop"))})
}

// TestNewRefuses (P20.1): a number of no partition ahead of a tick that is none; with an error there is nothing else.
func TestNewRefuses(t *testing.T) {
	x := three()
	for _, c := range []struct {
		part, now int
		want      api.Errno
	}{
		{0, 0, api.ErrPart}, {4, 0, api.ErrPart}, {-1, 0, api.ErrPart}, {top, 0, api.ErrPart}, {bottom, 0, api.ErrPart},
		{0, -1, api.ErrPart}, {4, end, api.ErrPart}, {bottom, bottom, api.ErrPart}, {top, top, api.ErrPart},
		{1, -1, api.ErrArg}, {1, end, api.ErrArg}, {3, top, api.ErrArg}, {2, bottom, api.ErrArg},
		{1, 0, api.OK}, {3, 0, api.OK}, {1, end - 1, api.OK}, {2, end - 1, api.OK},
	} {
		p, events, err := part.New(x, c.part, c.now)
		if err != c.want || (p == nil) != (err != api.OK) || err != api.OK && events != nil {
			t.Errorf("New(%d, %d): %v, %v, %d, want %d", c.part, c.now, p, events, err, c.want)
		}
	}
	if p, events, err := part.New(api.Image{}, 1, 0); p != nil || events != nil || err != api.ErrPart {
		t.Errorf("New of no partitions: %v, %v, %d", p, events, err)
	}
}

// TestNew (P20.1): the partition of that number boots: its Auto processes start by their numbers, its memory is Init and zeros.
func TestNew(t *testing.T) {
	for i, want := range []string{"Start 1", "Start 2; Start 3", ""} {
		for _, now := range []int{0, 1, 77, end - 1} {
			p, events, err := part.New(three(), i+1, now)
			if show(events) != want || err != api.OK {
				t.Errorf("New(%d, %d): %q, %d, want %q", i+1, now, show(events), err, want)
			}
			for _, e := range events {
				if e.Tick != now || e.Part != i+1 {
					t.Errorf("New(%d, %d): %+v", i+1, now, e)
				}
			}
			s := p.State()
			if s.Mode != api.Normal || s.Restarts != 0 || s.Lock != 0 || s.Place != len(events)+1 || len(s.Memory) != [3]int{1, 2, 0}[i] {
				t.Errorf("New(%d, %d): %+v", i+1, now, s)
			}
			if p.CanRun() != (i < 2) || p.Next(now) != never {
				t.Errorf("New(%d, %d): CanRun %v, Next %d", i+1, now, p.CanRun(), p.Next(now))
			}
		}
	}
	p, _, _ := part.New(three(), 2, 9)
	s := p.State()
	if !slices.Equal(s.Memory, []int64{2, 0}) || s.Procs[0].State != api.Dormant || s.Procs[1].Place != 1 || s.Procs[2].Place != 2 || s.Procs[1].Released != 9 || s.Procs[2].Regs != [api.Regs]int64{} {
		t.Errorf("New(2, 9): %+v", s)
	}
}

// worn is a partition of which everything is otherwise than at its boot, at tick 60.
func worn(t *testing.T) *pair {
	t.Helper()
	p := api.Part{Words: 6, Fixed: 1, Init: []int64{3, 4, 5}, Health: all(api.ActIgnore), Sems: []api.Sem{{Start: 1, Max: 5}}, Events: []bool{false, true}, Buffers: []api.Buffer{{Size: 1, Depth: 2}}}
	p = with(p,
		plain(9, "ldi r1 1; sys 20; ldi r3 9; sys 25; sys 22; ldi r1 3; sys 17; ldi r4 77; st r4 r0 2; sys 10; jmp 10"),
		periodic(5, 30, 20, "jmp 0"),
		sleeper(5, "jmp 0"))
	y := newPair(t, alone(p, api.Port{Part: 1, Kind: api.Sampling, Size: 1, Refresh: 1}, api.Port{Part: 1, Kind: api.Queuing, Size: 1, Depth: 1}, api.Port{Part: 1, Kind: api.Queuing, Out: true, Size: 1, Depth: 1}), 1, 0)
	y.runs(11, 0, "Call 1 SEM_WAIT OK; Call 1 BUFFER_SEND OK; Call 1 EVENT_SET OK; Call 1 SEND OK; Call 1 LOCK OK")
	y.tells(sample(1, 3, 8), "")
	y.tells(arrive(2, 4, 6), "Arrive 2")
	y.tells(arrive(2, 4, 6), "Lost 2")
	y.tells(timers(20), "Miss 2 20")
	y.tells(timers(30), "Overrun 2 0")
	s := y.p.State()
	if s.Lock != 1 || s.Procs[1].Misses != 1 || s.Memory[2] != 77 || s.Objects.Sems[0] != 0 || !s.Objects.Events[0] || len(s.Objects.Buffers[0]) != 1 || !s.Ports[0].Sample.Has || len(s.Ports[1].Queue) != 1 || s.Ports[1].Lost != 1 || len(s.Ports[2].Queue) != 1 {
		t.Fatalf("%+v", s)
	}
	return y
}

// isFresh wants a partition to stand as one that New answers at a tick, but for its Restarts.
func (y *pair) isFresh(now, restarts int) {
	y.t.Helper()
	p, _, _ := part.New(y.m.x, y.m.number, now)
	want := p.State()
	want.Restarts = restarts
	if got := y.p.State(); !sameState(got, want) {
		y.t.Errorf("%+v, want %+v", got, want)
	}
}

// TestWake (P20.2): Wake boots anew, whatever there was: of a partition that runs, that idles, that has just booted.
func TestWake(t *testing.T) {
	y := worn(t)
	y.tells(wake(60), "Wake; Start 1; Start 2")
	y.isFresh(60, 1)
	y.tells(wake(60), "Wake; Start 1; Start 2")
	y.isFresh(60, 2)
	y.tells(wake(end-1), "Wake; Start 1; Start 2")
	y.isFresh(end-1, 3)

	idle := newPair(t, alone(with(api.Part{Words: 1}, plain(1, "st r0 r0 0; ldi r1 0; sys 13"), plain(2, "ldi r2 5; st r2 r0 0; sys 4"))), 1, 0)
	idle.runs(6, 1, "Idle")
	idle.memory(0, 0)
	if idle.p.CanRun() || idle.p.State().Mode != api.Idle {
		t.Errorf("it runs: %+v", idle.p.State())
	}
	idle.tells(run(2), "")
	idle.tells(timers(2), "")
	idle.tells(wake(7), "Wake; Start 1; Start 2")
	idle.isFresh(7, 1)
	none := newPair(t, three(), 3, 0)
	none.tells(wake(1), "Wake")
	none.isFresh(1, 1)
}

// Ports of two partitions, of each kind and direction, with Size 2.
func eightPorts() []api.Port {
	var list []api.Port
	for _, number := range []int{1, 2} {
		list = append(list,
			api.Port{Part: number, Kind: api.Sampling, Out: true, Size: 2},
			api.Port{Part: number, Kind: api.Sampling, Size: 2, Refresh: 3},
			api.Port{Part: number, Kind: api.Queuing, Out: true, Size: 2, Depth: 1},
			api.Port{Part: number, Kind: api.Queuing, Size: 2, Depth: 2})
	}
	return list
}

// receivers is partition 2 of two, with eightPorts: two processes that wait in Receiving at port 8 if they run.
func receivers(t *testing.T) *pair {
	t.Helper()
	wait := "ldi r1 8; ldi r2 %d; ldi r3 %d; sys 18; jmp 0"
	p := with(api.Part{Words: 8, Fixed: 1}, plain(5, fmt.Sprintf(wait, 6, -1)), plain(5, fmt.Sprintf(wait, 1, 9)), plain(7, fmt.Sprintf(wait, 3, 9)))
	return newPair(t, image([]api.Part{with(api.Part{}, plain(1, "nop")), p}, eightPorts()...), 2, 0)
}

// TestArriveAtNone (P20.3): nothing at all at a port that is none, of another partition, direction or kind, and of data of another length.
func TestArriveAtNone(t *testing.T) {
	y := receivers(t)
	y.runs(4, 0, "")
	for _, n := range []int{-1, 0, 9, 10, top, bottom, 1, 2, 3, 4, 5, 6, 7} {
		y.tells(arrive(n, 1, 1, 2), "")
	}
	for _, data := range [][]int64{nil, {}, {1}, {1, 2, 3}, make([]int64, 16)} {
		y.tells(arrive(8, 1, data...), "")
	}
	y.queue(8, 0)
	y.state(3, api.Receiving)
}

// TestArrive (P20.3): the first that waits has the message, though the queue has room; else the queue; else it is lost.
func TestArrive(t *testing.T) {
	y := receivers(t)
	y.tells(arrive(8, 0, 1, 2), "Arrive 8")
	y.tells(arrive(8, 0, 3, 4), "Arrive 8")
	y.tells(arrive(8, 0, 5, 6), "Lost 8")
	y.tells(arrive(8, 1, 5, 6), "Lost 8")
	y.queue(8, 2, []int64{1, 2}, []int64{3, 4})
	y.runs(4, 1, "Call 3 RECEIVE OK")
	y.memory(3, 1, 2)
	y.tells(arrive(8, 1, 7, 8), "Arrive 8")
	y.queue(8, 2, []int64{3, 4}, []int64{7, 8})

	z := receivers(t)
	z.runs(4, 0, "")
	z.runs(4, 1, "")
	z.runs(4, 2, "")
	z.tells(arrive(8, 2, 20, 21), "Arrive 8; Call 3 RECEIVE OK")
	z.memory(0, 0, 0, 0, 20, 21, 0, 0, 0)
	z.tells(arrive(8, 2, 22, 23), "Arrive 8; Call 1 RECEIVE OK")
	z.memory(0, 0, 0, 0, 20, 21, 0, 22, 23)
	z.tells(arrive(8, 3, 24, 25), "Arrive 8; Call 2 RECEIVE OK")
	z.memory(0, 0, 24, 25, 20, 21, 0, 22, 23)
	z.queue(8, 0)
	z.tells(arrive(8, 3, 26, 27), "Arrive 8")
	z.queue(8, 0, []int64{26, 27})
	z.state(1, api.Ready)
	z.regs(1, 0, 8, 6, -1)
}

// TestArriveAndTimeOut (P20.3, P20.6): a message of the tick of a time-out wins, if it comes first; a time-out leaves the queue alone.
func TestArriveAndTimeOut(t *testing.T) {
	y := receivers(t)
	y.runs(4, 0, "")
	y.tells(arrive(8, 9, 1, 2), "Arrive 8; Call 3 RECEIVE OK")
	y.tells(timers(9), "")
	y = receivers(t)
	y.runs(4, 0, "")
	y.tells(timers(8), "")
	y.tells(timers(9), "Call 3 RECEIVE TIMEOUT")
	y.regs(3, api.ResTimeout)
	y.tells(arrive(8, 9, 1, 2), "Arrive 8")
	y.memory(3, 0, 0)
}

// TestArriveWhileIdle (P20.3): an idle partition's queues fill and lose; behind a Wake they are empty.
func TestArriveWhileIdle(t *testing.T) {
	y := newPair(t, alone(with(api.Part{}, plain(1, "sys 13")), api.Port{Part: 1, Kind: api.Queuing, Size: 1, Depth: 1}), 1, 0)
	y.runs(1, 0, "Idle")
	y.tells(arrive(1, 5, 8), "Arrive 1")
	y.tells(arrive(1, 5, 9), "Lost 1")
	y.queue(1, 1, []int64{8})
	y.tells(wake(5), "Wake; Start 1")
	y.queue(1, 0)
}

// TestSample (P20.4): a sampling in port has the last message that was laid there, with its tick; all else is refused.
func TestSample(t *testing.T) {
	p := with(api.Part{Words: 4}, plain(1, "ldi r1 6; sys 16; jmp 1"))
	y := newPair(t, image([]api.Part{with(api.Part{}, plain(1, "nop")), p}, eightPorts()...), 2, 0)
	for _, n := range []int{-1, 0, 1, 2, 3, 4, 5, 7, 8, 9, top, bottom} {
		y.tells(sample(n, 1, 1, 2), "")
	}
	for _, data := range [][]int64{nil, {1}, {1, 2, 3}} {
		y.tells(sample(6, 1, data...), "")
	}
	for _, now := range []int{-1, bottom, end, top} {
		y.p.Sample(6, []int64{1, 2}, now)
		y.stands("Sample at no tick")
	}
	y.runs(2, 1, "Call 1 READ EMPTY")
	y.tells(sample(6, 2, 7, 8), "")
	if got := y.p.State().Ports[5].Sample; !got.Has || got.Tick != 2 || !slices.Equal(got.Data, []int64{7, 8}) {
		t.Errorf("the sample: %+v", got)
	}
	y.tells(sample(6, 3, 9, 10), "")
	y.runs(2, 6, "Call 1 READ OK")
	y.memory(0, 9, 10)
	y.regs(1, 0, 3)
	y.tells(wake(7), "Wake; Start 1")
	y.tells(sample(6, end-1, 1, 2), "")
	y.runs(2, end-1, "Call 1 READ OK")
	y.memory(0, 1, 2)
}

// senders is partition 1 with a queuing out port of Depth 2 that three processes send to.
func senders(t *testing.T) *pair {
	t.Helper()
	send := "ldi r1 1; ldi r2 %d; ldi r3 %d; sys 17; sys 17; sys 17"
	p := api.Part{Words: 6, Init: []int64{1, 2, 3, 4, 5, 6}, Health: all(api.ActStop)}
	p = with(p, plain(5, fmt.Sprintf(send, 0, -1)), plain(5, fmt.Sprintf(send, 2, 9)), plain(7, fmt.Sprintf(send, 4, -1)), sleeper(9, "nop"), sleeper(1, "sys 13"))
	return newPair(t, alone(p, api.Port{Part: 1, Kind: api.Queuing, Out: true, Size: 2, Depth: 2}, api.Port{Part: 1, Kind: api.Queuing, Size: 2, Depth: 2}), 1, 0)
}

// TestTake (P20.5): the oldest message leaves the queue; the first of those that wait to send has its own laid behind the others.
func TestTake(t *testing.T) {
	y := senders(t)
	if got := y.tells(take(1, 0), ""); got.took || got.data != nil {
		t.Errorf("Take of none: %+v", got)
	}
	y.runs(6, 0, "Call 3 SEND OK; Call 3 SEND OK")
	y.state(3, api.Sending)
	y.runs(4, 0, "")
	y.runs(4, 0, "")
	y.state(1, api.Sending)
	y.state(2, api.Sending)
	takes := func(now int, want string, data ...int64) {
		t.Helper()
		if got := y.tells(take(1, now), want); got.took != (data != nil) || !slices.Equal(got.data, data) {
			t.Errorf("Take at %d: %+v, want %v", now, got, data)
		}
	}
	takes(4, "Call 3 SEND OK", 5, 6)
	y.queue(1, 0, []int64{5, 6}, []int64{5, 6})
	takes(4, "Call 1 SEND OK", 5, 6)
	takes(4, "Call 2 SEND OK", 5, 6)
	y.queue(1, 0, []int64{1, 2}, []int64{3, 4})
	takes(5, "", 1, 2)
	takes(5, "", 3, 4)
	takes(5, "")
	y.state(1, api.Ready)
	y.tells(arrive(2, 5, 7, 8), "Arrive 2")
	for _, n := range []int{-1, 0, 2, 3, top, bottom} {
		if got := y.tells(take(n, 6), ""); got.took || got.data != nil {
			t.Errorf("Take(%d): %+v", n, got)
		}
	}
	y.queue(2, 0, []int64{7, 8})
}

// TestTakeOfOthers (P20.5): ports of another partition, kind or direction give nothing.
func TestTakeOfOthers(t *testing.T) {
	p := with(api.Part{Words: 2}, plain(1, "ldi r1 7; sys 17"))
	y := newPair(t, image([]api.Part{with(api.Part{}, plain(1, "nop")), p}, eightPorts()...), 2, 0)
	y.runs(2, 0, "Call 1 SEND OK")
	y.tells(arrive(8, 0, 1, 2), "Arrive 8")
	y.tells(sample(6, 0, 1, 2), "")
	for _, n := range []int{1, 2, 3, 4, 5, 6, 8, 9} {
		if got := y.tells(take(n, 1), ""); got.took || got.data != nil {
			t.Errorf("Take(%d): %+v", n, got)
		}
	}
	if got := y.tells(take(7, 1), ""); !got.took || !slices.Equal(got.data, []int64{0, 0}) {
		t.Errorf("Take(7): %+v", got)
	}
}

// TestSenderThatWaits (P20.5): behind a time-out, an idling, a restart or a Wake of its partition nothing of it goes into the queue.
func TestSenderThatWaits(t *testing.T) {
	full := func() *pair {
		y := senders(t)
		y.runs(14, 0, "Call 3 SEND OK; Call 3 SEND OK")
		return y
	}
	y := full()
	y.tells(timers(9), "Call 2 SEND TIMEOUT")
	y.tells(take(1, 9), "Call 3 SEND OK")
	y.tells(take(1, 9), "Call 1 SEND OK")
	y.tells(take(1, 9), "")
	y.queue(1, 0, []int64{1, 2})

	y = full()
	y.tells(wake(3), "Wake; Start 1; Start 2; Start 3")
	if got := y.tells(take(1, 3), ""); got.took {
		t.Errorf("a message outlives a Wake: %+v", got)
	}

	// A process that a deadline's verdict has idle, or restart, the partition.
	for action, want := range map[int]string{api.ActIdle: "Miss 2 8; Idle", api.ActRestart: "Miss 2 8; Restart; Start 1; Start 2", api.ActStop: "Miss 2 8", api.ActRestartProc: "Miss 2 8; Start 2"} {
		p := api.Part{Words: 1, Init: []int64{6}, Health: all(action)}
		p = with(p, plain(5, "ldi r1 1; ldi r3 -1; sys 17; sys 17"), act{api.Proc{Priority: 1, Limit: 8, Auto: true}, "jmp 4"})
		y := newPair(t, alone(p, api.Port{Part: 1, Kind: api.Queuing, Out: true, Size: 1, Depth: 1}), 1, 0)
		y.runs(4, 0, "Call 1 SEND OK")
		y.state(1, api.Sending)
		y.tells(timers(8), want)
		got := y.do(take(1, 8))
		wantTook, wantEvents := action != api.ActRestart, ""
		if action == api.ActStop || action == api.ActRestartProc {
			wantEvents = "Call 1 SEND OK"
		}
		if got.took != wantTook || show(got.events) != wantEvents {
			t.Errorf("action %d: %+v", action, got)
		}
	}
}

// TestCanRun (P20.9): whether Run would do an instruction: it is Normal, and somebody is READY.
func TestCanRun(t *testing.T) {
	y := newPair(t, alone(with(api.Part{}, plain(1, "ldi r1 5; sys 2; ldi r1 0; sys 13"))), 1, 0)
	for _, c := range []struct {
		call call
		want bool
	}{{run(0), true}, {run(1), false}, {run(2), false}, {timers(5), false}, {timers(6), true}, {run(6), true}, {run(6), false}, {wake(7), true}} {
		y.do(c.call)
		if y.p.CanRun() != c.want {
			t.Errorf("behind %+v: CanRun is %v", c.call, y.p.CanRun())
		}
	}
	if none := newPair(t, three(), 3, 0); none.p.CanRun() {
		t.Errorf("all are dormant, and it can run")
	}
}

// TestNext (P20.9): the least tick above now at which something is due.
func TestNext(t *testing.T) {
	p := api.Part{Health: all(api.ActIgnore)}
	y := newPair(t, alone(with(p, periodic(1, 30, 20, "jmp 0"), plain(5, "ldi r1 7; sys 2; sys 4"), periodic(1, end-1, 0, "nop"))), 1, 10)
	y.runs(2, 11, "")
	for now, want := range map[int]int{0: 18, 10: 18, 17: 18, 18: 30, 29: 30, 30: 40, 39: 40, 40: never, 50: never, end - 1: never, bottom: 18, -1: 18, top: never} {
		if got := y.p.Next(now); got != want {
			t.Errorf("Next(%d): %d, want %d", now, got, want)
		}
	}
}

// TestState (P20.9): the state has the ports of the image in their places, those of others zero.
func TestState(t *testing.T) {
	y := receivers(t)
	y.tells(arrive(8, 0, 1, 2), "Arrive 8")
	y.tells(sample(6, 0, 3, 4), "")
	s := y.p.State()
	if len(s.Ports) != 8 || len(s.Procs) != 3 || s.Place != 4 {
		t.Fatalf("%+v", s)
	}
	for i, q := range s.Ports {
		if i != 5 && i != 7 && !samePort(q, api.PortState{}) {
			t.Errorf("port %d: %+v", i+1, q)
		}
	}
	if len(s.Ports[7].Queue) != 1 || !s.Ports[5].Sample.Has {
		t.Errorf("%+v", s.Ports)
	}
}
