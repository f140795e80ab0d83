package kernel_test

import (
	"fmt"
	"math"
	"math/rand/v2"
	"slices"
	"testing"

	"bulkhead/api"
	"bulkhead/check"
	"bulkhead/kernel"
)

// The operations of which code by chance is made.
const (
	opLdi  = 2
	opLd   = 5
	opSt   = 6
	opDiv  = 10
	opAddi = 18
	opJmp  = 22
	opSys  = 27
)

func oneOf[T any](r *rand.Rand, list []T) T { return list[r.IntN(len(list))] }

// upTo is a number from low to high.
func upTo(r *rand.Rand, low, high int) int { return low + r.IntN(high-low+1) }

func words(r *rand.Rand, n int) []int64 {
	var list []int64
	for range n {
		list = append(list, int64(r.IntN(100))-9)
	}
	return list
}

// anyServers are servers that may be, schedulable or not, of a small hyperperiod.
func anyServers(r *rand.Rand, n int) []api.Server {
	periods := oneOf(r, [][]int{{4}, {2, 4, 8}, {5, 10, 20}, {3, 4, 6}, {6, 10, 15}, {1, 7}, {12, 30}, {40}, {9, 12}})
	priorities := r.Perm(api.MaxPriority + 1)
	var list []api.Server
	for i := range n {
		s := api.Server{Period: oneOf(r, periods), Priority: priorities[i]}
		s.Budget, s.Offset = upTo(r, 1, s.Period), r.IntN(s.Period)
		if r.IntN(3) > 0 {
			s.Budget = min(s.Period, upTo(r, 1, 1+s.Period/n))
		}
		list = append(list, s)
	}
	return list
}

// anyRoads lays ports and channels: a few of each kind, some from outside, some to it, some from a partition to itself; and ports that no channel joins.
func anyRoads(r *rand.Rand, x *api.Image, channels int) {
	n := len(x.Parts)
	for range channels {
		kind, size := oneOf(r, []int{api.Sampling, api.Queuing, api.Queuing}), upTo(r, 1, 3)
		port := func(out bool) int {
			p := api.Port{Part: upTo(r, 1, n), Kind: kind, Out: out, Size: size}
			switch {
			case kind == api.Queuing:
				p.Depth = upTo(r, 1, 3)
			case !out:
				p.Refresh = oneOf(r, []int{0, 1, 5, 40})
			}
			x.Ports = append(x.Ports, p)
			return len(x.Ports)
		}
		c := api.Channel{Kind: kind}
		if r.IntN(4) > 0 {
			c.From = port(true)
		}
		many := oneOf(r, []int{0, 0, 1, 1, 2, 3})
		if c.From == 0 {
			many = max(1, many)
		}
		for range many {
			c.To = append(c.To, port(false))
		}
		if kind == api.Queuing && c.From != 0 {
			c.Period = oneOf(r, []int{1, 2, 5, 9, 30, 100})
			c.Phase = r.IntN(c.Period)
		}
		x.Channels = append(x.Channels, c)
		if r.IntN(4) == 0 {
			port(r.IntN(2) == 0)
		}
	}
}

// themes are calls that belong together.
func themes() [][]int {
	return [][]int{
		{api.CallSend, api.CallReceive},
		{api.CallSend, api.CallReceive, api.CallDelay, api.CallPortStatus},
		{api.CallWrite, api.CallRead, api.CallDelay},
		{api.CallSend, api.CallWrite, api.CallLog},
		{api.CallReceive, api.CallRead, api.CallLog},
		{api.CallDelay, api.CallPeriodicWait, api.CallNow},
		{api.CallSemWait, api.CallSemSignal, api.CallEventWait, api.CallEventSet, api.CallBufferSend, api.CallBufferReceive},
		{api.CallStart, api.CallStop, api.CallSuspend, api.CallResume, api.CallSetPriority, api.CallStatus},
		{api.CallRaise, api.CallDelay, api.CallLock, api.CallUnlock},
		{api.CallSetMode, api.CallDelay, api.CallSend},
	}
}

// about is a number that the first argument of a call may be.
func about(r *rand.Rand, n int, p api.Part, number int, ports []api.Port) int {
	switch n {
	case api.CallWrite, api.CallRead, api.CallSend, api.CallReceive, api.CallPortStatus:
		kind, out := api.Queuing, n == api.CallWrite || n == api.CallSend
		if n == api.CallWrite || n == api.CallRead {
			kind = api.Sampling
		}
		var own []int
		for i, q := range ports {
			if q.Part == number && q.Kind == kind && q.Out == out {
				own = append(own, i+1)
			}
		}
		if len(own) > 0 && r.IntN(12) > 0 {
			return oneOf(r, own)
		}
		return r.IntN(len(ports) + 2)
	case api.CallDelay:
		return oneOf(r, []int{0, 1, 3, 10, 35})
	case api.CallSetMode:
		return oneOf(r, []int{0, 1, 1, 2, 2, 2, 2})
	}
	return upTo(r, 1, 3)
}

// anyCall is a few instructions that lay arguments down, and a call.
func anyCall(r *rand.Rand, n int, p api.Part, number int, ports []api.Port) []api.Instr {
	args := [3]int{about(r, n, p, number, ports), p.Fixed, oneOf(r, []int{-1, 0, 1, 5, 5, 30})}
	if r.IntN(6) == 0 {
		args[1] = oneOf(r, []int{-1, p.Fixed - 1, p.Fixed + 1, p.Words - 2, p.Words - 1, p.Words})
	}
	if n == api.CallSemWait || n == api.CallEventWait || n == api.CallSetPriority {
		args[1] = oneOf(r, []int{-1, -1, 0, 2, 5, 30})
	}
	if r.IntN(20) == 0 {
		args[r.IntN(3)] = oneOf(r, []int{-1, 0, 0, 2, 17, math.MaxInt32, math.MinInt32})
	}
	var list []api.Instr
	for i, arg := range args {
		if r.IntN(20) > 0 {
			list = append(list, api.Instr{Op: opLdi, A: byte(i + 1), Imm: int32(arg)})
		}
	}
	return append(list, api.Instr{Op: opSys, Imm: int32(n)})
}

// anyCode is code of blocks, most of them calls; and where they begin.
func anyCode(r *rand.Rand, p api.Part, number int, ports []api.Port) ([]api.Instr, []int) {
	var list []api.Instr
	var entries []int
	theme := oneOf(r, themes())
	isOut := func(p api.Port) bool { return p.Part == number && p.Out }
	if slices.ContainsFunc(ports, isOut) && r.IntN(2) == 0 {
		theme = []int{api.CallSend, api.CallWrite}
	}
	for range upTo(r, 1, 14) {
		entries = append(entries, len(list))
		switch r.IntN(30) {
		case 0:
			list = append(list, api.Instr{Op: opJmp, Imm: int32(oneOf(r, entries))})
		case 1:
			list = append(list, api.Instr{Op: byte(r.IntN(30)), A: byte(r.IntN(17)), B: byte(r.IntN(17)), C: byte(r.IntN(17)), Imm: int32(upTo(r, -2, 30))})
		case 2:
			op := oneOf(r, []byte{opLd, opSt, opAddi, opDiv})
			list = append(list, api.Instr{Op: op, A: byte(r.IntN(16)), B: byte(r.IntN(16)), Imm: int32(upTo(r, -1, p.Words))})
		case 3, 4, 5:
			list = append(list, anyCall(r, upTo(r, 0, api.Calls), p, number, ports)...)
		default:
			list = append(list, anyCall(r, oneOf(r, theme), p, number, ports)...)
		}
	}
	if r.IntN(6) > 0 {
		list = append(list, api.Instr{Op: opJmp, Imm: int32(oneOf(r, entries))})
	}
	return list, entries
}

// anyProcs are processes, and which of them is the handler.
func anyProcs(r *rand.Rand, entries []int) ([]api.Proc, int) {
	list := make([]api.Proc, upTo(r, 1, 5))
	for i := range list {
		list[i] = api.Proc{Entry: oneOf(r, entries), Priority: upTo(r, 1, 3), Auto: r.IntN(4) > 0}
		if r.IntN(3) == 0 {
			list[i].Period = oneOf(r, []int{1, 8, 20, 90, end - 1})
		}
		if r.IntN(4) == 0 {
			list[i].Limit = oneOf(r, []int{1, 8, 20, 90, end - 1})
			if list[i].Period > 0 {
				list[i].Limit = min(list[i].Limit, list[i].Period)
			}
		}
	}
	handler := 0
	if r.IntN(3) > 0 {
		handler = upTo(r, 1, len(list))
		list[handler-1].Period, list[handler-1].Limit, list[handler-1].Auto = 0, 0, false
	}
	return list, handler
}

// anyPart is a partition with code that calls a great deal; its server is not laid.
func anyPart(r *rand.Rand, number int, ports []api.Port) api.Part {
	p := api.Part{Words: oneOf(r, []int{0, 3, 9, 9, 20})}
	p.Fixed = min(p.Words, oneOf(r, []int{0, 0, 0, 1, 3}))
	p.Init = words(r, r.IntN(p.Words+1))
	for range r.IntN(3) {
		p.Sems = append(p.Sems, api.Sem{Start: r.IntN(2), Max: upTo(r, 1, 2)})
	}
	for range r.IntN(3) {
		p.Events = append(p.Events, r.IntN(3) == 0)
	}
	for range r.IntN(3) {
		p.Buffers = append(p.Buffers, api.Buffer{Size: upTo(r, 1, 3), Depth: upTo(r, 1, 2)})
	}
	var entries []int
	p.Code, entries = anyCode(r, p, number, ports)
	p.Procs, p.Handler = anyProcs(r, entries)
	for k := 1; k < api.Faults; k++ {
		p.Health[k] = oneOf(r, []int{0, 0, 0, 0, 0, 1, 2, 2, 3, 3, 3, 4, 5})
	}
	return p
}

// anyImage is an image that may be.
func anyImage(r *rand.Rand) api.Image {
	n := oneOf(r, []int{1, 2, 2, 3, 3, 4, 4, 5, 7})
	x := api.Image{Parts: make([]api.Part, n)}
	anyRoads(r, &x, oneOf(r, []int{0, 2, 5, 9}))
	for i, s := range anyServers(r, n) {
		x.Parts[i] = anyPart(r, i+1, x.Ports)
		x.Parts[i].Server = s
	}
	if err, number := check.Check(x); err != api.OK {
		panic(fmt.Sprintf("an image by chance may not be: %d, %d", err, number))
	}
	return x
}

// anyInput is an input for an image with partitions.
func anyInput(r *rand.Rand, x api.Image, tick int) api.Input {
	var outside []int
	for i, c := range x.Channels {
		if c.From == 0 {
			outside = append(outside, i+1)
		}
	}
	if len(outside) == 0 || r.IntN(15) == 0 {
		return wake(tick, upTo(r, 1, len(x.Parts)))
	}
	c := oneOf(r, outside)
	return message(tick, c, words(r, x.Ports[x.Channels[c-1].To[0]-1].Size)...)
}

// anyScript is inputs of the ticks from one on, some of them of one tick.
func anyScript(r *rand.Rand, x api.Image, from, ticks int) []api.Input {
	var inputs []api.Input
	step := oneOf(r, []int{3, 10, 40, 400})
	if !slices.ContainsFunc(x.Channels, func(c api.Channel) bool { return c.From == 0 }) {
		// Nothing but wakings: so often they would let nobody do anything.
		step = 100
	}
	for tick := from + r.IntN(step); tick < from+ticks; tick += r.IntN(step) {
		inputs = append(inputs, anyInput(r, x, tick))
	}
	return inputs
}

// cutsByChance lets a kernel run to the end of a history, in parts by chance, and holds it against the history behind each.
func (h *history) cutsByChance(t *testing.T, what string, r *rand.Rand, k *kernel.Kernel) {
	t.Helper()
	wide := oneOf(r, []int{1, 3, 20, 100})
	for k.Now() < h.last() {
		until := min(h.last(), k.Now()+r.IntN(wide+1))
		most := oneOf(r, []int{0, 1, 1, 2, 5, plenty, plenty, plenty})
		want := h.behind(k.Now(), until, most)
		if err := k.Run(until, most); err != api.OK || k.Now() != want {
			t.Fatalf("%s: Run(%d, %d) = %d: Now %d, want %d", what, until, most, err, k.Now(), want)
		}
		h.holds(t, what, k)
	}
}

// The kernel against the machine, booted each way, with the ticks cut into calls by chance, over many images and scripts, schedulable and not (P22.3 to P22.8, W1, W2).
func TestW1_W2_ByChance(t *testing.T) {
	t.Parallel()
	seen := map[int]int{}
	for seed := range uint64(400) {
		r := rand.New(rand.NewPCG(22, seed))
		x := anyImage(r)
		ticks := oneOf(r, []int{60, 150, 400})
		inputs := anyScript(r, x, 0, ticks)
		h := historyOf(newMachine(x, inputs), ticks)
		l := lay(t, x, inputs)
		for _, w := range ways() {
			what := fmt.Sprintf("seed %d, %s", seed, w.name)
			k := w.boots(t, l)
			h.cutsByChance(t, what, r, k)
			h.occupies(t, what, k)
			k = w.boots(t, l)
			runs(t, k, ticks, plenty)
			h.holds(t, what+", at once", k)
		}
		for _, e := range h.trace {
			seen[e.Kind]++
		}
	}
	// Chance has shown all that may happen.
	for kind, name := range kindNames()[1:] {
		if seen[kind+1] < 100 {
			t.Errorf("%s has happened %d times", name, seen[kind+1])
		}
	}
}

// The same with as many instructions in each call as chance says, one and none among them, from the first tick to the last (P22.4, P22.8).
func TestP22_8_StepByStep(t *testing.T) {
	t.Parallel()
	for seed := range uint64(60) {
		r := rand.New(rand.NewPCG(8, seed))
		x := anyImage(r)
		const ticks = 200
		inputs := anyScript(r, x, 0, ticks)
		h := historyOf(newMachine(x, inputs), ticks)
		l := lay(t, x, inputs)
		for _, w := range ways() {
			for _, most := range []int{1, 2, 7} {
				k := w.boots(t, l)
				for k.Now() < ticks {
					want := h.behind(k.Now(), ticks, most)
					runs(t, k, ticks, most)
					if k.Now() != want {
						t.Fatalf("seed %d, %s: Now %d, want %d", seed, w.name, k.Now(), want)
					}
					h.holds(t, fmt.Sprintf("seed %d, %s, %d at a time", seed, w.name, most), k)
				}
			}
		}
	}
}

// gated is an image whose partitions wait at first for a message from outside, and start their processes when it comes; and the channel on which it comes.
func gated(x api.Image) (api.Image, int) {
	x.Parts, x.Ports, x.Channels = slices.Clone(x.Parts), slices.Clone(x.Ports), slices.Clone(x.Channels)
	gate := api.Channel{Kind: api.Queuing}
	for i := range x.Parts {
		p := &x.Parts[i]
		x.Ports = append(x.Ports, queueIn(i+1, 1, 2))
		gate.To = append(gate.To, len(x.Ports))
		p.Words = max(p.Words, p.Fixed+1)
		entry := int32(len(p.Code))
		p.Code = append(slices.Clone(p.Code),
			api.Instr{Op: opLdi, A: 1, Imm: int32(len(x.Ports))}, api.Instr{Op: opLdi, A: 2, Imm: int32(p.Fixed)}, api.Instr{Op: opLdi, A: 3, Imm: -1},
			api.Instr{Op: opSys, Imm: api.CallReceive})
		p.Procs = slices.Clone(p.Procs)
		for q := range p.Procs {
			p.Procs[q].Auto = false
			p.Code = append(p.Code, api.Instr{Op: opLdi, A: 1, Imm: int32(q + 1)}, api.Instr{Op: opSys, Imm: api.CallStart})
		}
		p.Code = append(p.Code, api.Instr{Op: opJmp, Imm: entry})
		p.Procs = append(p.Procs, api.Proc{Entry: int(entry), Priority: api.MaxPriority, Auto: true})
	}
	x.Channels = append(x.Channels, gate)
	return x, len(x.Channels)
}

// Far from the beginning, and at the very end of time, the kernel does what the machine does that is brought there (W1, W2).
func TestW2_FarByChance(t *testing.T) {
	t.Parallel()
	seen := map[int]int{}
	for seed := range uint64(160) {
		r := rand.New(rand.NewPCG(77, seed))
		x, gate := gated(anyImage(r))
		const warm, ticks = 400, 200
		from := oneOf(r, []int{end - ticks, end - ticks, 1 << 39, 1<<33 + r.IntN(1000), 1000000 + r.IntN(100)})
		inputs := append([]api.Input{message(from, gate, 1)}, anyScript(r, x, from, ticks)...)
		m := newMachine(x, inputs)
		for range warm {
			m.tick()
		}
		m.skipTo(from)
		h := historyOf(m, ticks)
		l := lay(t, x, inputs)
		for _, w := range ways() {
			what := fmt.Sprintf("seed %d, %s", seed, w.name)
			k := w.boots(t, l)
			for _, until := range []int{from / 2, from - 1, from} {
				runs(t, k, until, plenty)
			}
			h.holds(t, what, k)
			h.cutsByChance(t, what, r, k)
			h.occupies(t, what, k)
			k = w.boots(t, l)
			runs(t, k, h.last(), plenty)
			h.holds(t, what+", at once", k)
		}
		for _, e := range h.trace {
			seen[e.Kind]++
		}
	}
	for kind, name := range kindNames()[1:] {
		if seen[kind+1] < 10 {
			t.Errorf("%s has happened %d times", name, seen[kind+1])
		}
	}
}
