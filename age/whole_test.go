package age_test

import (
	"fmt"
	"math/rand/v2"
	"strings"
	"testing"

	"bulkhead/api"
	"bulkhead/asm"
	"bulkhead/check"
)

// deed is what a process does: a text whose labels end with the process's number, and how the image has the process.
type deed struct {
	text string
	proc api.Proc
}

// housed is a partition of these processes; each has two words of the memory.
func housed(t *testing.T, s api.Server, deeds ...deed) api.Part {
	t.Helper()
	p := api.Part{Server: s, Words: 2 * api.MaxProcs}
	text := ""
	for i, d := range deeds {
		text += fmt.Sprintf("entry%d:\n%s\n", i, d.text)
		p.Procs = append(p.Procs, d.proc)
	}
	code, err, line := asm.Assemble([]byte(text))
	if err != api.OK {
		t.Fatalf("line %d: %d\n%s", line, err, text)
	}
	names, places, _, _ := asm.Labels([]byte(text))
	for i, name := range names {
		var number int
		if n, _ := fmt.Sscanf(name, "entry%d", &number); n == 1 {
			p.Procs[number].Entry = places[i]
		}
	}
	p.Code = code
	return p
}

// one is an instruction that lays a new count at the process's words, and the call.
func one(call int) string { return fmt.Sprintf("addi r4 r4 1\nst r4 r2 0\nsys %d\n", call) }

// delay is a DELAY of so many ticks.
func delay(ticks int) string { return fmt.Sprintf("ldi r1 %d\nsys 2\n", ticks) }

// anyEnd is what a process does when it is done: it begins anew, or it ends, its partition perhaps too.
func anyEnd(r *rand.Rand, i int) string {
	wait := oneOf(r, "", delay(r.IntN(9)), delay(r.IntN(60)))
	return oneOf(r,
		fmt.Sprintf("jmp top%d", i),
		wait+"ldi r1 0\nsys 13", // IDLE
		wait+"ldi r1 1\nsys 13", // a restart
		wait+"ld r5 r0 99\njmp 0",
		wait+"sys 27\nsys 4",
		"sys 4")
}

// anyDeed is a process by chance that does something with a port.
func anyDeed(r *rand.Rand, i, port int, q api.Port) deed {
	d := deed{proc: api.Proc{Priority: r.IntN(6), Auto: r.IntN(12) > 0}}
	call := api.CallReceive
	switch {
	case q.Kind == api.Sampling && q.Out:
		call = api.CallWrite
	case q.Kind == api.Sampling:
		call = api.CallRead
	case q.Out:
		call = api.CallSend
	}
	start := fmt.Sprintf("ldi r2 %d\ntop%d: ldi r1 %d\nldi r3 %d\n", 2*i, i, port, oneOf(r, -1, -1, 0, 0, 3, 20))
	repeat := strings.Repeat(one(call), oneOf(r, 1, 1, 2, 3, 6))
	if call == api.CallRead {
		repeat = one(call) // READ writes the age over the port's number.
	}
	switch r.IntN(5) {
	case 0:
		d.text = start + repeat + fmt.Sprintf("jmp top%d", i)
	case 1:
		d.text = start + repeat + delay(r.IntN(30)) + fmt.Sprintf("jmp top%d", i)
	case 2, 3:
		d.proc.Period = oneOf(r, 5, 8, 12, 20, 40)
		d.text = start + repeat + fmt.Sprintf("sys 3\njmp top%d", i)
	default:
		d.text = start + repeat + anyEnd(r, i)
	}
	return d
}

// anyServers are servers by chance: of many there is one that gets little or nothing.
func anyServers(r *rand.Rand, n int) []api.Server {
	var list []api.Server
	for i := range n {
		s := api.Server{Period: oneOf(r, 1, 4, 6, 8, 12), Priority: i}
		s.Budget = 1 + r.IntN(s.Period)
		s.Offset = r.IntN(s.Period)
		if s.Period == 1 && r.IntN(3) > 0 {
			s.Period = 24
		}
		list = append(list, s)
	}
	r.Shuffle(n, func(i, k int) { list[i].Priority, list[k].Priority = list[k].Priority, list[i].Priority })
	return list
}

// anyChannel lays a channel by chance behind those of an image, with ports of its own, small ones.
func anyChannel(r *rand.Rand, x *api.Image, parts int) {
	c := api.Channel{Kind: oneOf(r, api.Queuing, api.Queuing, api.Sampling)}
	isQueuing := c.Kind == api.Queuing
	for range oneOf(r, 0, 1, 1, 2, 3) {
		q := api.Port{Part: 1 + r.IntN(parts), Kind: c.Kind, Size: 1}
		if isQueuing {
			q.Depth = 1 + r.IntN(5)
		} else {
			q.Refresh = r.IntN(15)
		}
		c.To = append(c.To, add(x, q))
	}
	if len(c.To) > 0 && r.IntN(6) == 0 {
		x.Channels = append(x.Channels, c) // From the outside.
		return
	}
	q := api.Port{Part: 1 + r.IntN(parts), Kind: c.Kind, Size: 1, Out: true}
	if isQueuing {
		q.Depth = oneOf(r, 1, 1, 2, 3, 4)
		c.Period = oneOf(r, 1, 2, 3, 5, 7, 12, 20, 30)
		c.Phase = oneOf(r, 0, c.Period-1, r.IntN(c.Period))
	}
	c.From = add(x, q)
	x.Channels = append(x.Channels, c)
}

// busy is an image by chance whose processes use its ports, and inputs for it.
func busy(t *testing.T, r *rand.Rand, ticks int) (api.Image, []api.Input) {
	t.Helper()
	var x api.Image
	parts := 1 + r.IntN(4)
	for range 1 + r.IntN(4) {
		anyChannel(r, &x, parts)
	}
	for number, s := range anyServers(r, parts) {
		var deeds []deed
		for i, q := range x.Ports {
			if q.Part != number+1 {
				continue
			}
			for range oneOf(r, 0, 1, 1, 1, 1, 2) {
				deeds = append(deeds, anyDeed(r, len(deeds), i+1, q))
			}
		}
		if len(deeds) == 0 || r.IntN(4) == 0 {
			deeds = append(deeds, deed{"here: jmp here", api.Proc{Priority: r.IntN(4), Auto: true}})
		}
		if len(deeds) > api.MaxProcs {
			deeds = deeds[:api.MaxProcs]
		}
		p := housed(t, s, deeds...)
		for kind := 1; kind < api.Faults; kind++ {
			p.Health[kind] = oneOf(r, api.ActIgnore, api.ActStop, api.ActRestartProc, api.ActRestart, api.ActIdle)
		}
		x.Parts = append(x.Parts, p)
	}
	inputs := visits(r, x, ticks)
	if err, number := check.Check(x); err != api.OK {
		t.Fatalf("%d, %d: %+v", err, number, x)
	}
	return x, inputs
}

// visits are inputs by chance: messages on the channels from outside, and wakings, often or never.
func visits(r *rand.Rand, x api.Image, ticks int) []api.Input {
	var outside []int
	for i, c := range x.Channels {
		if c.From == 0 {
			outside = append(outside, i+1)
		}
	}
	var list []api.Input
	wakes := r.IntN(3) == 0
	for tick := r.IntN(9); tick < ticks; tick += r.IntN(20) {
		switch {
		case len(outside) > 0 && (!wakes || r.IntN(3) > 0):
			list = append(list, api.Input{Tick: tick, Kind: api.InputMessage, Target: oneOf(r, outside...), Data: []int64{int64(tick)}})
		case wakes && r.IntN(3) == 0:
			list = append(list, api.Input{Tick: tick, Kind: api.InputWake, Target: 1 + r.IntN(len(x.Parts))})
		}
	}
	return list
}

// Whatever the partitions do, by chance: each message leaves its out queue within Stay, a port that is safe loses none, and no sample that is read is older than Oldest.
func TestP26_6_W7_ByChance(t *testing.T) {
	t.Parallel()
	seen := map[string]int{}
	for seed := range uint64(1200) {
		r := rand.New(rand.NewPCG(266, seed))
		x, inputs := busy(t, r, 300)
		watched(t, fmt.Sprintf("seed %d", seed), x, inputs, oneOf(r, api.Online, api.ByTable), 300).looks(t, seen)
	}
	for _, kind := range []string{
		"taken", "just above t", "just at t + Stay", "just at t + Stay, of Depth 1", "just at t + Stay, behind others", "behind Depth - 1 others", "laid down in a transfer",
		"while the sender occupies", "while another one occupies", "while nobody occupies", "while the sender waits", "while no process may run", "behind a boot anew of long before", "forgotten by a boot", "to the outside",
		"lost", "lost, with room for one less than may come", "a safe port", "a port that is not safe, none lost", "a port that has lost some",
		"read", "read, as old as may be", "read stale", "nothing to be read", "read, behind a boot anew", "read, from the outside", "read, long written",
	} {
		if seen[kind] < 100 {
			t.Errorf("%s: %d times", kind, seen[kind])
		}
	}
	for _, kind := range []string{"while the sender is IDLE", "a safe port that was full", "a safe port, one message more", "read in the tick of it", "fresh by Refresh", "stale by Refresh"} {
		if seen[kind] < 3 {
			t.Errorf("%s: %d times", kind, seen[kind])
		}
	}
}
