package kernel_test

import (
	"fmt"
	"math/rand/v2"
	"slices"
	"testing"

	"bulkhead/admit"
	"bulkhead/api"
	"bulkhead/check"
	"bulkhead/kernel"
	"bulkhead/script"
	"bulkhead/slots"
)

// supply counts the ticks of a span that a partition occupies.
func supply(k *kernel.Kernel, part, from, below int) int {
	ticks := 0
	for t := from; t < below; t++ {
		if who, _ := k.Occupant(t); who == part {
			ticks++
		}
	}
	return ticks
}

// Where the servers are admitted each partition occupies Budget ticks of each of its windows, near and far, whatever it does in them; where they are not, the window that admit names is the first that is not full (W3).
func TestW3_Supply(t *testing.T) {
	t.Parallel()
	admitted, refused := 0, 0
	for seed := range uint64(120) {
		r := rand.New(rand.NewPCG(3, seed))
		x := anyImage(r)
		servers := serversOf(x)
		hyper, _ := check.Hyper(servers)
		ok, err := admit.Admit(servers)
		if err != api.OK {
			t.Fatal(err)
		}
		late, first, lost := admit.FirstLoss(servers)
		l := lay(t, x, anyScript(r, x, 0, 50))
		for _, w := range ways() {
			k := w.boots(t, l)
			runs(t, k, 50, plenty)
			for i, s := range servers {
				far := (end/s.Period-8)*s.Period + s.Offset
				for _, from := range slices.Concat(windows(s, s.Offset, s.Offset+3*hyper), windows(s, far, end-s.Period)) {
					got := supply(k, i+1, from, from+s.Period)
					if got > s.Budget {
						t.Fatalf("seed %d, %s: window %d of %v has %d ticks", seed, w.name, from, s, got)
					}
					if ok && got != s.Budget {
						t.Fatalf("seed %d, %s: window %d of %v has %d ticks, and is admitted", seed, w.name, from, s, got)
					}
					if lost && got != s.Budget && (from < first || from == first && i+1 < late) {
						t.Fatalf("seed %d, %s: window %d of %v has %d ticks, ahead of %d of %d", seed, w.name, from, s, got, first, late)
					}
				}
			}
			if lost && supply(k, late, first, first+servers[late-1].Period) >= servers[late-1].Budget {
				t.Fatalf("seed %d, %s: window %d of %d is full", seed, w.name, first, late)
			}
		}
		if ok {
			admitted++
		} else {
			refused++
		}
	}
	if admitted < 20 || refused < 20 {
		t.Errorf("%d admitted, %d not", admitted, refused)
	}
}

// windows are the first ticks of a server's windows from one on and not above another.
func windows(s api.Server, from, to int) []int {
	var list []int
	for ; from <= to; from += s.Period {
		list = append(list, from)
	}
	return list
}

// sources are the partitions with a path of channels to p, and p.
func sources(x api.Image, p int) []int {
	list := []int{p}
	for i := 0; i < len(list); i++ {
		for _, c := range x.Channels {
			if c.From == 0 {
				continue
			}
			from := x.Ports[c.From-1].Part
			for _, to := range c.To {
				if x.Ports[to-1].Part == list[i] && !slices.Contains(list, from) {
					list = append(list, from)
				}
			}
		}
	}
	return list
}

// reaches tells whether an input reaches one of some partitions.
func reaches(x api.Image, in api.Input, parts []int) bool {
	if in.Kind == api.InputWake {
		return slices.Contains(parts, in.Target)
	}
	return slices.ContainsFunc(x.Channels[in.Target-1].To, func(to int) bool { return slices.Contains(parts, x.Ports[to-1].Part) })
}

// own is the events of one partition.
func own(events []api.Event, p int) []api.Event {
	return slices.DeleteFunc(slices.Clone(events), func(e api.Event) bool { return e.Part != p })
}

// others is the image with all partitions that are no sources changed by chance, within their own rules.
func others(r *rand.Rand, x api.Image, kept []int) api.Image {
	x.Parts = slices.Clone(x.Parts)
	for i := range x.Parts {
		if !slices.Contains(kept, i+1) {
			s := x.Parts[i].Server
			x.Parts[i] = anyPart(r, i+1, x.Ports)
			x.Parts[i].Server = s
		}
	}
	return x
}

// Two runs whose images and scripts differ in partitions that are no source of p: p's events, its state and its ticks are the same at every moment (W4).
func TestW4_Separation(t *testing.T) {
	t.Parallel()
	events := 0
	for seed := range uint64(250) {
		r := rand.New(rand.NewPCG(4, seed))
		x := anyImage(r)
		const ticks = 250
		inputs := anyScript(r, x, 0, ticks)
		for p := range len(x.Parts) {
			p++
			from := sources(x, p)
			if len(from) == len(x.Parts) {
				continue
			}
			y := others(r, x, from)
			isOthers := func(in api.Input) bool { return !reaches(x, in, from) }
			kept := slices.DeleteFunc(slices.Clone(inputs), isOthers)
			added := slices.DeleteFunc(anyScript(r, y, 0, ticks), func(in api.Input) bool { return !isOthers(in) })
			k, l := oneOf(r, ways()).boots(t, lay(t, x, inputs)), oneOf(r, ways()).boots(t, lay(t, y, script.Merge(added, kept)))
			for tick := 0; tick <= ticks; tick += 1 + r.IntN(60) {
				runs(t, k, tick, plenty)
				runs(t, l, tick, plenty)
				a, b := own(k.Trace(), p), own(l.Trace(), p)
				if !sameEvents(a, b) {
					t.Fatalf("seed %d: the events of %d at %d are\n%s\nand\n%s", seed, p, tick, show(a), show(b))
				}
				if a, b := stands(t, k, p), stands(t, l, p); !sameState(a, b) {
					t.Fatalf("seed %d: partition %d is at %d\n%s\nand\n%s", seed, p, tick, stateText(a), stateText(b))
				}
				events += len(a)
			}
			for tick := range ticks {
				a, _ := k.Occupant(tick)
				b, _ := l.Occupant(tick)
				if a != b {
					t.Fatalf("seed %d: %d and %d occupy %d", seed, a, b, tick)
				}
			}
		}
	}
	if events < 1000 {
		t.Errorf("%d events", events)
	}
}

// Who sends learns nothing of who receives: a full queue, a receiver that fails, idles, or is not there at all, are the same to the sender (W4).
func TestW4_TheSenderLearnsNothing(t *testing.T) {
	receivers := map[string]api.Part{
		"takes all":    partition(eight(), auto(1, receive(2, 0, -1)+", jmp 3")),
		"takes none":   partition(eight(), auto(1, "sys 4")),
		"never starts": partition(eight(), act{api.Proc{}, "nop"}),
		"idles":        partition(eight(), auto(1, "ldi r1 0, sys 13")),
		"restarts":     partition(eight(), auto(1, "ldi r1 1, sys 13")),
		"fails":        partition(eight(), auto(1, "ld r1 r0 99, jmp 0")),
		"loops":        partition(eight(), auto(1, "jmp 0")),
		"sends itself": partition(eight(), auto(1, send(3, 0, 0)+", sys 17, jmp 3")),
	}
	want := ""
	for name, p := range receivers {
		x := api.Image{
			Parts: []api.Part{partition(twelve(), auto(5, send(1, 0, 9)+", ldi r1 1, sys 19, mov r1 r2, sys 14, jmp 0")), p},
			Ports: []api.Port{queueOut(1, 1, 2), queueIn(2, 1, 1), queueOut(2, 1, 1)},
			Channels: []api.Channel{
				{Kind: api.Queuing, From: 1, To: []int{2}, Period: 7}, {Kind: api.Queuing, From: 3, Period: 5, Phase: 1},
			},
		}
		for _, w := range ways() {
			k := w.boots(t, lay(t, x, []api.Input{wake(333, 2)}))
			runs(t, k, 600, plenty)
			got := show(own(k.Trace(), 1)) + stateText(stands(t, k, 1))
			if want == "" {
				want = got
			}
			if got != want || len(own(k.Trace(), 1)) < 100 {
				t.Errorf("%s, %s:\n%s\nwant\n%s", name, w.name, got, want)
			}
		}
	}
}

// The table of an image's servers has a prologue and a cycle of H ticks, whose slots touch and can't be joined, tells the kernel's occupants, is read back from its bytes, and boots (W5).
func TestW5_Tables(t *testing.T) {
	for seed := range uint64(300) {
		r := rand.New(rand.NewPCG(55, seed))
		var x api.Image
		for _, s := range anyServers(r, r.IntN(9)) {
			x.Parts = append(x.Parts, partition(s, auto(1, "jmp 0")))
		}
		l := lay(t, x, nil)
		hyper, _ := check.Hyper(serversOf(x))
		table, err := slots.Decode(l.table)
		if again, bad := slots.Encode(table); err != api.OK || bad != api.OK || !slices.Equal(again, l.table) {
			t.Fatalf("seed %d: %d, %d", seed, err, bad)
		}
		boots := ways()
		for _, k := range []*kernel.Kernel{boots[0].boots(t, l), boots[1].boots(t, l), boots[2].boots(t, l)} {
			tick := 0
			for _, list := range [][]api.Slot{table.Prologue, table.Cycle} {
				before := -1
				for _, s := range list {
					if s.Part == before || s.Length < 1 {
						t.Fatalf("seed %d: %v", seed, list)
					}
					for range s.Length {
						if who, _ := k.Occupant(tick); who != s.Part {
							t.Fatalf("seed %d: Occupant(%d) = %d, want %d", seed, tick, who, s.Part)
						}
						tick++
					}
					before = s.Part
				}
				if tick%hyper != 0 || tick == 0 {
					t.Fatalf("seed %d: a part ends at %d, H is %d", seed, tick, hyper)
				}
			}
			// The cycle holds on and on (rule 6).
			for range 20 {
				tick := hyper + r.IntN(end-2*hyper)
				a, _ := k.Occupant(tick)
				if b, _ := k.Occupant(hyper + tick%hyper); a != b {
					t.Fatalf("seed %d: Occupant(%d) = %d, H is %d", seed, tick, a, hyper)
				}
			}
		}
	}
}

// pests are partitions that do all the harm they can.
func pests() map[string]api.Part {
	list := map[string]api.Part{
		"sleeps":       partition(eight(), act{api.Proc{}, "nop"}),
		"loops":        partition(eight(), auto(255, "jmp 0")),
		"locks":        partition(eight(), auto(255, "sys 10, jmp 1"), auto(255, "jmp 0")),
		"floods":       partition(eight(), auto(255, send(3, 0, 0)+", sys 17, jmp 3"), auto(255, send(4, 0, 0)+", sys 17, jmp 3")),
		"writes":       partition(eight(), auto(255, "ldi r1 5, sys 15, jmp 1")),
		"logs":         partition(eight(), auto(255, "sys 14, jmp 0")),
		"idles":        partition(eight(), auto(255, "ldi r1 0, sys 13")),
		"restarts":     partition(eight(), auto(255, "ldi r1 1, sys 13")),
		"divides by 0": partition(eight(), auto(255, "div r1 r1 r0")),
		"runs away":    partition(eight(), auto(255, "jmp 900")),
		"misses":       partition(eight(), periodic(255, 1, 1, "jmp 0"), periodic(255, 3, 2, "jmp 0")),
		"raises":       partition(eight(), auto(255, "sys 27, jmp 0"), act{api.Proc{Priority: 255}, "sys 27"}),
	}
	// Code of illegal instructions alone, and a partition with all that one can have.
	illegal := partition(eight(), auto(255, "nop"))
	illegal.Code = make([]api.Instr, api.MaxCode)
	list["is illegal"] = illegal
	full := partition(eight())
	full.Words = api.MaxWords
	for range api.MaxProcs {
		full.Procs = append(full.Procs, api.Proc{Priority: 255, Auto: true, Period: 2, Limit: 1})
	}
	full.Code = code("sys 3, jmp 0")
	list["is full"] = full
	return list
}

// Faults, restarts, floods, loops and idling of one partition change no tick that another one occupies, and nothing of what it does in them (W8).
func TestW8_NobodysFaultIsAnothers(t *testing.T) {
	want, ticks := "", []int(nil)
	for name, pest := range pests() {
		for action := range api.ActIdle + 1 {
			for kind := 1; kind < api.Faults; kind++ {
				pest.Health[kind] = action
			}
			if pest.Handler = 0; action == api.ActHandler && name == "raises" {
				pest.Handler = 2
			}
			x := api.Image{
				// A partition that tells each second of its ticks.
				Parts: []api.Part{partition(twelve(), auto(1, "sys 1, jmp 0")), pest},
				Ports: []api.Port{queueIn(1, 1, 1), queueIn(2, 1, 1), queueOut(2, 1, 1), queueOut(2, 1, 64), sampleOut(2, 1)},
				Channels: []api.Channel{
					{Kind: api.Queuing, To: []int{2}}, {Kind: api.Queuing, From: 3, To: []int{1}, Period: 1}, {Kind: api.Queuing, From: 4, Period: 1}, {Kind: api.Sampling, From: 5},
				},
			}
			var inputs []api.Input
			for tick := range 200 {
				inputs = append(inputs, message(tick, 1, 5))
			}
			w := ways()[action%3]
			k := w.boots(t, lay(t, x, inputs))
			runs(t, k, 400, plenty)
			got, at := "", []int(nil)
			for tick := range 400 {
				who, _ := k.Occupant(tick)
				got += fmt.Sprint(who)
			}
			for _, e := range without(own(k.Trace(), 1), api.EventArrive, api.EventLost) {
				if e.Kind == api.EventCall {
					at = append(at, e.Tick)
				}
			}
			if want == "" {
				want, ticks = got, at
			}
			if got != want || !slices.Equal(at, ticks) || len(at) != 120 {
				t.Errorf("%s, action %d: %s, %v\nwant %s, %v", name, action, got, at, want, ticks)
			}
		}
	}
}

// The same over images by chance: whatever one partition is, all others occupy the ticks that they did, and those that it does not reach do in them what they did (W8).
func TestW8_ByChance(t *testing.T) {
	t.Parallel()
	for seed := range uint64(200) {
		r := rand.New(rand.NewPCG(8, seed))
		x := anyImage(r)
		pest := upTo(r, 1, len(x.Parts))
		const ticks = 200
		inputs := anyScript(r, x, 0, ticks)
		y := x
		y.Parts = slices.Clone(x.Parts)
		s := y.Parts[pest-1].Server
		bad := pests()
		names := []string{"loops", "locks", "idles", "restarts", "divides by 0", "misses", "is illegal", "is full", "logs"}
		y.Parts[pest-1] = bad[oneOf(r, names)]
		y.Parts[pest-1].Server = s
		for kind := 1; kind < api.Faults; kind++ {
			y.Parts[pest-1].Health[kind] = oneOf(r, []int{0, 1, 2, 4, 5})
		}
		k, l := oneOf(r, ways()).boots(t, lay(t, x, inputs)), oneOf(r, ways()).boots(t, lay(t, y, inputs))
		runs(t, k, ticks, plenty)
		runs(t, l, ticks, plenty)
		for tick := range ticks {
			a, _ := k.Occupant(tick)
			if b, _ := l.Occupant(tick); a != b {
				t.Fatalf("seed %d: %d and %d occupy %d", seed, a, b, tick)
			}
		}
		for p := range len(x.Parts) {
			if p++; slices.Contains(sources(x, p), pest) {
				continue
			}
			if a, b := own(k.Trace(), p), own(l.Trace(), p); !sameEvents(a, b) || !sameState(stands(t, k, p), stands(t, l, p)) {
				t.Fatalf("seed %d: partition %d beside the pest %d:\n%s\nwant\n%s", seed, p, pest, show(b), show(a))
			}
		}
	}
}
