package kernel_test

import (
	"fmt"
	"math"
	"slices"
	"strings"
	"testing"

	"bulkhead/api"
	"bulkhead/image"
	"bulkhead/isa"
	"bulkhead/kernel"
	"bulkhead/occ"
	"bulkhead/part"
	"bulkhead/script"
	"bulkhead/slots"
)

const (
	top    = math.MaxInt
	bottom = math.MinInt
	end    = api.MaxTick
	plenty = 1 << 30 // more instructions than any run of these tests holds
)

// machine is a second reading of the chapter's words: it does every tick, one after the other, by its phases, and finds the occupant by playing the rule of the servers. Of the program it has the partitions alone.
type machine struct {
	x                 api.Image
	inputs            []api.Input
	parts             []*part.Part
	rests             []int
	now, steps, stops int
	trace             []api.Event
	occupants         []int // of the ticks that were done
	ran               []bool
}

// newMachine stands at tick 0.
func newMachine(x api.Image, inputs []api.Input) *machine {
	m := &machine{x: x, inputs: inputs, rests: make([]int, len(x.Parts))}
	for i := range x.Parts {
		p, events, err := part.New(x, i+1, 0)
		if err != api.OK {
			panic(fmt.Sprint("part.New: ", err))
		}
		m.parts = append(m.parts, p)
		m.trace = append(m.trace, events...)
	}
	return m
}

// skipTo goes on to a tick without doing those between, in which nothing can happen: no input comes, no timer is due, no message lies in a queue, and who could run occupies none of them.
func (m *machine) skipTo(from int) {
	servers := serversOf(m.x)
	for i, p := range m.parts {
		s := p.State()
		if next, _ := occ.NextOf(servers, i+1, m.now); p.CanRun() && next != api.Never {
			panic(fmt.Sprint("partition ", i+1, " runs at ", next))
		}
		for _, q := range s.Procs {
			if q.State != api.Dormant && (q.Deadline != api.Never || q.Until != api.Never || q.Released < 0) {
				panic(fmt.Sprintf("partition %d: %+v", i+1, q))
			}
		}
		for q, port := range s.Ports {
			if m.x.Ports[q].Out && len(port.Queue) > 0 {
				panic(fmt.Sprint("a message in port ", q+1))
			}
		}
	}
	m.now = from
	// The rests behind the tick ahead.
	m.rests, _ = occ.Rests(servers, from-1)
	if who, _ := occ.At(servers, from-1); who != 0 {
		m.rests[who-1]--
	}
	m.occupants, m.ran = nil, nil
}

func serversOf(x api.Image) []api.Server {
	var list []api.Server
	for _, p := range x.Parts {
		list = append(list, p.Server)
	}
	return list
}

// occupant plays a tick by rule 6.
func (m *machine) occupant() int {
	who := 0
	for i, p := range m.x.Parts {
		s := p.Server
		if m.now >= s.Offset && (m.now-s.Offset)%s.Period == 0 {
			m.rests[i] = s.Budget
		}
		if m.rests[i] > 0 && (who == 0 || s.Priority > m.x.Parts[who-1].Server.Priority) {
			who = i + 1
		}
	}
	if who != 0 {
		m.rests[who-1]--
	}
	return who
}

// isDue tells whether a timer of a partition is due.
func (m *machine) isDue(i int) bool {
	for q, s := range m.parts[i].State().Procs {
		period := m.x.Parts[i].Procs[q].Period
		switch {
		case s.State == api.Dormant:
		case s.Deadline == m.now, s.Until == m.now:
			return true
		case period > 0 && s.State != api.InPeriod && !s.Late && s.Released+period == m.now:
			return true
		}
	}
	return false
}

// arrive lays a message down at the To ports of a channel, or lets it out.
func (m *machine) arrive(number int, data []int64) {
	c := m.x.Channels[number-1]
	for _, to := range c.To {
		p := m.parts[m.x.Ports[to-1].Part-1]
		if c.Kind == api.Sampling {
			p.Sample(to, data, m.now)
		} else {
			m.trace = append(m.trace, p.Arrive(to, data, m.now)...)
		}
	}
	if len(c.To) == 0 {
		m.trace = append(m.trace, api.Event{Tick: m.now, Part: m.x.Ports[c.From-1].Part, Kind: api.EventOut, A: int64(number), Data: data})
	}
}

// tick does the tick now by its phases.
func (m *machine) tick() {
	did, ran := false, false
	for _, x := range m.inputs {
		switch {
		case x.Tick != m.now:
			continue
		case x.Kind == api.InputWake:
			m.trace = append(m.trace, m.parts[x.Target-1].Wake(m.now)...)
		default:
			m.arrive(x.Target, x.Data)
		}
		did = true
	}
	for i, c := range m.x.Channels {
		if c.Kind != api.Queuing || c.From == 0 || m.now < c.Phase || (m.now-c.Phase)%c.Period != 0 {
			continue
		}
		if data, took, events := m.parts[m.x.Ports[c.From-1].Part-1].Take(c.From, m.now); took {
			m.arrive(i+1, data)
			m.trace = append(m.trace, events...)
			did = true
		}
	}
	for i, p := range m.parts {
		did = did || m.isDue(i)
		m.trace = append(m.trace, p.Timers(m.now)...)
	}
	who := m.occupant()
	if who != 0 && m.parts[who-1].CanRun() {
		did, ran = true, true
		m.run(who)
	}
	if did {
		m.stops++
	}
	m.occupants, m.ran = append(m.occupants, who), append(m.ran, ran)
	m.now++
}

// run does an instruction of the occupant.
func (m *machine) run(who int) {
	m.steps++
	events, writes := m.parts[who-1].Run(m.now)
	m.trace = append(m.trace, events...)
	for _, w := range writes {
		for i, c := range m.x.Channels {
			if c.From == w.Port {
				m.arrive(i+1, w.Data)
			}
		}
	}
}

// moment is how a machine stands at a tick.
type moment struct {
	events, steps, stops int
	parts                []api.PartState
}

// history is how a machine stood at each tick from one on.
type history struct {
	from      int
	at        []moment
	trace     []api.Event
	occupants []int
	ran       []bool
}

// historyOf lets a machine do so many ticks, and notes how it stands behind each.
func historyOf(m *machine, ticks int) *history {
	h := &history{from: m.now}
	note := func() {
		x := moment{events: len(m.trace), steps: m.steps, stops: m.stops}
		for _, p := range m.parts {
			x.parts = append(x.parts, p.State())
		}
		h.at = append(h.at, x)
	}
	note()
	for range ticks {
		m.tick()
		note()
	}
	h.trace, h.occupants, h.ran = m.trace, m.occupants, m.ran
	return h
}

// last is the last tick that the history knows.
func (h *history) last() int { return h.from + len(h.at) - 1 }

// behind is the tick at which Run(until, most) ends that begins at now.
func (h *history) behind(now, until, most int) int {
	for most > 0 && now < until {
		if h.ran[now-h.from] {
			most--
		}
		now++
	}
	return now
}

// holds tells whether a kernel stands as the machine stood.
func (h *history) holds(t *testing.T, what string, k *kernel.Kernel) {
	t.Helper()
	now := k.Now()
	if now < h.from || now > h.last() {
		t.Fatalf("%s: Now is %d, not from %d to %d", what, now, h.from, h.last())
	}
	want := h.at[now-h.from]
	if k.Steps() != want.steps || k.Stops() != want.stops {
		t.Fatalf("%s: at %d Steps %d, Stops %d, want %d, %d", what, now, k.Steps(), k.Stops(), want.steps, want.stops)
	}
	if got, want := k.Trace(), h.trace[:want.events]; !sameEvents(got, want) {
		t.Fatalf("%s: at %d the trace is\n%s\nwant\n%s", what, now, show(got), show(want))
	}
	for i, want := range want.parts {
		if got, err := k.Part(i + 1); err != api.OK || !sameState(got, want) {
			t.Fatalf("%s: at %d Part(%d) is %d,\n%s\nwant\n%s", what, now, i+1, err, stateText(got), stateText(want))
		}
	}
}

// occupies tells whether a kernel says of all ticks of the history who occupies them.
func (h *history) occupies(t *testing.T, what string, k *kernel.Kernel) {
	t.Helper()
	for i, want := range h.occupants {
		if who, err := k.Occupant(h.from + i); who != want || err != api.OK {
			t.Fatalf("%s: Occupant(%d) = %d, %d, want %d", what, h.from+i, who, err, want)
		}
	}
}

func sameEvent(a, b api.Event) bool {
	return a.Tick == b.Tick && a.Part == b.Part && a.Kind == b.Kind && a.Proc == b.Proc && a.A == b.A && a.B == b.B && slices.Equal(a.Data, b.Data)
}

func sameEvents(a, b []api.Event) bool { return slices.EqualFunc(a, b, sameEvent) }

func sameProc(a, b api.ProcState) bool {
	return a.State == b.State && a.Priority == b.Priority && a.Place == b.Place && a.Regs == b.Regs && a.PC == b.PC &&
		a.Released == b.Released && a.Deadline == b.Deadline && a.Until == b.Until && a.Late == b.Late &&
		a.Object == b.Object && a.Addr == b.Addr && slices.Equal(a.Data, b.Data) && a.Misses == b.Misses
}

func sameMessages(a, b [][]int64) bool { return slices.EqualFunc(a, b, slices.Equal[[]int64]) }

func samePort(a, b api.PortState) bool {
	return sameMessages(a.Queue, b.Queue) && a.Lost == b.Lost &&
		a.Sample.Has == b.Sample.Has && a.Sample.Tick == b.Sample.Tick && slices.Equal(a.Sample.Data, b.Sample.Data)
}

func sameState(a, b api.PartState) bool {
	return a.Mode == b.Mode && slices.Equal(a.Memory, b.Memory) && slices.EqualFunc(a.Procs, b.Procs, sameProc) && a.Lock == b.Lock && a.Place == b.Place &&
		slices.Equal(a.Objects.Sems, b.Objects.Sems) && slices.Equal(a.Objects.Events, b.Objects.Events) && slices.EqualFunc(a.Objects.Buffers, b.Objects.Buffers, sameMessages) &&
		slices.EqualFunc(a.Ports, b.Ports, samePort) && a.Restarts == b.Restarts
}

// stateText is a partition's state as a text; nil and empty are the same there.
func stateText(s api.PartState) string { return fmt.Sprintf("%+v", s) }

// kindNames are the names of the kinds of events.
func kindNames() []string {
	return []string{"?", "call", "log", "fault", "miss", "overrun", "restart", "idle", "wake", "arrive", "lost", "out", "start"}
}

// showOne is an event as a text: its tick and partition, its kind, and each other field that is not 0.
func showOne(e api.Event) string {
	text := fmt.Sprintf("%d/%d %s", e.Tick, e.Part, kindNames()[e.Kind])
	if e.Proc != 0 {
		text += fmt.Sprintf(" p%d", e.Proc)
	}
	if e.A != 0 {
		text += fmt.Sprintf(" a%d", e.A)
	}
	if e.B != 0 {
		text += fmt.Sprintf(" b%d", e.B)
	}
	if len(e.Data) > 0 {
		text += fmt.Sprint(" ", e.Data)
	}
	return text
}

// show is a trace as a text, an event a line.
func show(events []api.Event) string {
	var list []string
	for _, e := range events {
		list = append(list, showOne(e))
	}
	return strings.Join(list, "\n")
}

// told is a trace written down in a test, an event a line, without the blanks around it.
func told(text string) string {
	var list []string
	for line := range strings.Lines(text) {
		if line = strings.TrimSpace(line); line != "" {
			list = append(list, line)
		}
	}
	return strings.Join(list, "\n")
}

// laid is an image, a script and the servers' table in bytes.
type laid struct {
	image, script, table []byte
}

func lay(t *testing.T, x api.Image, inputs []api.Input) laid {
	t.Helper()
	b, e := image.Encode(x)
	s, f := script.Encode(inputs)
	if e != api.OK || f != api.OK {
		t.Fatalf("Encode: %d, %d", e, f)
	}
	return laid{b, s, tableOf(t, serversOf(x))}
}

// tableOf is a table of servers in bytes.
func tableOf(t *testing.T, servers []api.Server) []byte {
	t.Helper()
	table, e := slots.Make(servers)
	b, f := slots.Encode(table)
	if e != api.OK || f != api.OK {
		t.Fatalf("the table of %v: %d, %d", servers, e, f)
	}
	return b
}

// way is one of the three ways to boot.
type way struct {
	name string
	boot func(l laid) (*kernel.Kernel, api.Errno)
}

func ways() []way {
	return []way{
		{"online", func(l laid) (*kernel.Kernel, api.Errno) { return kernel.Boot(l.image, l.script, api.Online) }},
		{"by table", func(l laid) (*kernel.Kernel, api.Errno) { return kernel.Boot(l.image, l.script, api.ByTable) }},
		{"with a table", func(l laid) (*kernel.Kernel, api.Errno) { return kernel.BootWith(l.image, l.script, l.table) }},
	}
}

// boots is a kernel that must boot.
func (w way) boots(t *testing.T, l laid) *kernel.Kernel {
	t.Helper()
	k, err := w.boot(l)
	if err != api.OK || k == nil {
		t.Fatalf("%s: %d", w.name, err)
	}
	return k
}

// runs lets a kernel run, which must be OK.
func runs(t *testing.T, k *kernel.Kernel, until, most int) {
	t.Helper()
	if err := k.Run(until, most); err != api.OK {
		t.Fatalf("Run(%d, %d) from %d: %d", until, most, k.Now(), err)
	}
}

// code is instructions, written one behind the other with commas between.
func code(text string) []api.Instr {
	var list []api.Instr
	for line := range strings.SplitSeq(text, ",") {
		x, err := isa.Read(strings.TrimSpace(line))
		if err != api.OK {
			panic(fmt.Sprintf("isa.Read(%q): %d", line, err))
		}
		list = append(list, x)
	}
	return list
}

// act is a process and its own code, whose jumps count from its beginning.
type act struct {
	api.Proc
	text string
}

// auto is a process that a boot starts.
func auto(priority int, text string) act {
	return act{api.Proc{Priority: priority, Auto: true}, text}
}

// periodic is one with releases and a limit.
func periodic(priority, period, limit int, text string) act {
	return act{api.Proc{Priority: priority, Period: period, Limit: limit, Auto: true}, text}
}

// partition is a partition of a server and processes, with eight words of memory.
func partition(s api.Server, acts ...act) api.Part {
	p := api.Part{Server: s, Words: 8}
	for _, a := range acts {
		base := len(p.Code)
		for _, x := range code(a.text) {
			if to, jumps := isa.Jumps(x); jumps && to >= 0 {
				x.Imm += int32(base)
			}
			p.Code = append(p.Code, x)
		}
		a.Entry = base
		p.Procs = append(p.Procs, a.Proc)
	}
	return p
}

// whole is a server that has all ticks that those above it leave.
func whole(priority int) api.Server { return api.Server{Period: 1, Budget: 1, Priority: priority} }

// plays holds a run to a tick against a trace that is written down, and against the machine: each way, at once and tick by tick. It answers one of the kernels.
func plays(t *testing.T, x api.Image, inputs []api.Input, until int, want string) *kernel.Kernel {
	t.Helper()
	l, h := lay(t, x, inputs), historyOf(newMachine(x, inputs), until)
	var k *kernel.Kernel
	for _, w := range ways() {
		k = w.boots(t, l)
		runs(t, k, until, plenty)
		if got := show(k.Trace()); k.Now() != until || got != told(want) {
			t.Fatalf("%s: at %d\n%s\nwant\n%s", w.name, k.Now(), got, told(want))
		}
		h.holds(t, w.name, k)
		k = w.boots(t, l)
		for tick := range until {
			h.holds(t, w.name+", tick by tick", k)
			runs(t, k, tick+1, plenty)
		}
		h.holds(t, w.name+", tick by tick", k)
		h.occupies(t, w.name, k)
	}
	return k
}

// stands is a partition's state, which must be there.
func stands(t *testing.T, k *kernel.Kernel, p int) api.PartState {
	t.Helper()
	s, err := k.Part(p)
	if err != api.OK {
		t.Fatalf("Part(%d): %d", p, err)
	}
	return s
}

// without is a trace without the events of some kinds.
func without(events []api.Event, kinds ...int) []api.Event {
	return slices.DeleteFunc(slices.Clone(events), func(e api.Event) bool { return slices.Contains(kinds, e.Kind) })
}
