package kernel_test

import (
	"fmt"
	"testing"

	"bulkhead/api"
)

// sleep is code that waits until so many ticks ahead of MaxTick, if each instruction is done in the tick behind the last one, then logs.
func sleep(ahead int) string {
	return fmt.Sprintf("ldi r1 -1, ldh r1 255, sys 1, sub r1 r1 r0, addi r1 r1 %d, sys 2, mov r1 r0, sys 14, sys 4", -3-ahead+1)
}

// A wait until MaxTick - 1 ends there, one of a tick more never does; the ticks between are passed over (P22.4, W2).
func TestW2_WaitNearlyForEver(t *testing.T) {
	for _, w := range ways() {
		x := api.Image{Parts: []api.Part{partition(whole(1), auto(1, sleep(1)))}}
		k := w.boots(t, lay(t, x, nil))
		runs(t, k, end, plenty)
		want := told(fmt.Sprintf("0/1 start p1\n2/1 call p1 a1 b2\n%d/1 call p1 a2", end-1))
		if k.Now() != end || k.Steps() != 7 || k.Stops() != 7 || show(k.Trace()) != want {
			t.Errorf("%s: %s", w.name, at(k))
		}
		k = w.boots(t, lay(t, x, nil))
		runs(t, k, end-1, plenty)
		if k.Now() != end-1 || k.Steps() != 6 || k.Stops() != 6 || stands(t, k, 1).Procs[0].Until != end-1 {
			t.Errorf("%s: %s", w.name, at(k))
		}
		x = api.Image{Parts: []api.Part{partition(whole(1), auto(1, sleep(0)))}}
		k = w.boots(t, lay(t, x, nil))
		runs(t, k, end, plenty)
		if k.Now() != end || k.Steps() != 6 || k.Stops() != 6 || len(k.Trace()) != 2 || stands(t, k, 1).Procs[0].Until != api.Never {
			t.Errorf("%s: %s", w.name, at(k))
		}
		// A little earlier there is room for what comes behind it.
		x = api.Image{Parts: []api.Part{partition(whole(1), auto(1, sleep(3)))}}
		k = w.boots(t, lay(t, x, nil))
		runs(t, k, end, plenty)
		want = told(fmt.Sprintf("0/1 start p1\n2/1 call p1 a1 b2\n%d/1 call p1 a2\n%d/1 log p1\n%d/1 call p1 a14", end-3, end-2, end-2))
		if k.Now() != end || k.Steps() != 9 || k.Stops() != 9 || show(k.Trace()) != want {
			t.Errorf("%s: %s", w.name, at(k))
		}
	}
}

// Inputs that lie far apart come at their ticks; what is between is passed over, with servers of few and of many releases (W2).
func TestW2_InputsFarApart(t *testing.T) {
	t.Parallel()
	servers := [][]api.Server{
		{whole(1)},
		{{Period: 7, Budget: 3, Offset: 2, Priority: 1}, {Period: 12, Budget: 4, Priority: 2}},
		{{Period: 1 << 20, Budget: 1 << 19, Offset: 5, Priority: 1}, {Period: 1 << 10, Budget: 100, Offset: 99, Priority: 5}},
		{{Period: 32767, Budget: 400, Offset: 32000, Priority: 1}, {Period: 1, Budget: 1, Priority: 0}},
	}
	for _, list := range servers {
		var x api.Image
		for range list {
			x.Parts = append(x.Parts, partition(list[len(x.Parts)], auto(1, "sys 1, sys 4")))
		}
		var inputs []api.Input
		for tick := 100; tick < end; tick = tick*5 + 3 {
			inputs = append(inputs, wake(tick, 1+len(inputs)%len(list)))
		}
		inputs = append(inputs, wake(end-1, 1))
		l := lay(t, x, inputs)
		want := ""
		for i, w := range ways() {
			k := w.boots(t, l)
			runs(t, k, end, plenty)
			if got := at(k); i == 0 {
				want = got
			} else if got != want {
				t.Errorf("%v: %s:\n%s\nwant\n%s", list, w.name, got, want)
			}
			// Each NOW is answered at a tick that its partition occupies, the first one from its waking on.
			woken, seen := map[int]int{}, 0
			for _, e := range k.Trace() {
				switch e.Kind {
				case api.EventWake, api.EventStart:
					woken[e.Part] = e.Tick
				case api.EventCall:
					seen++
					for tick := woken[e.Part]; tick < e.Tick; tick++ {
						if who, _ := k.Occupant(tick); who == e.Part {
							t.Fatalf("%v: %s: partition %d might have run at %d, and did at %d", list, w.name, e.Part, tick, e.Tick)
						}
						if e.Tick-tick > 3 && tick-woken[e.Part] > 3 {
							tick = e.Tick - 3
						}
					}
					if who, _ := k.Occupant(e.Tick); who != e.Part || e.B != int64(e.Tick) {
						t.Fatalf("%v: %s: %s, at a tick of %d", list, w.name, showOne(e), who)
					}
				}
			}
			if seen < len(inputs)-2 {
				t.Errorf("%v: %s: %d of %d", list, w.name, seen, len(inputs))
			}
		}
	}
}

// As many inputs as there may be, each far behind the last one (W2).
func TestW2_ManyInputsFarApart(t *testing.T) {
	t.Parallel()
	x := api.Image{
		Parts:    []api.Part{partition(api.Server{Period: 10, Budget: 3, Offset: 5, Priority: 1}, act{api.Proc{Priority: 1}, "nop"})},
		Ports:    []api.Port{queueIn(1, 1, 1)},
		Channels: []api.Channel{{Kind: api.Queuing, To: []int{1}}},
	}
	var inputs []api.Input
	for i := range api.MaxInputs {
		inputs = append(inputs, message(i*(end/api.MaxInputs)+77, 1, int64(i)))
	}
	l := lay(t, x, inputs)
	for _, w := range ways() {
		k := w.boots(t, l)
		runs(t, k, end, plenty)
		s := stands(t, k, 1)
		if k.Stops() != api.MaxInputs || k.Steps() != 0 || len(k.Trace()) != api.MaxInputs || s.Ports[0].Lost != api.MaxInputs-1 {
			t.Errorf("%s: Stops %d, Lost %d", w.name, k.Stops(), s.Ports[0].Lost)
		}
	}
}

// A partition that could run and never occupies a tick, or none any more, holds nobody up (W2): Run ends, and is quick.
func TestW2_Starved(t *testing.T) {
	loop, rest := auto(1, "jmp 0"), act{api.Proc{Priority: 1}, "nop"}
	for _, c := range []struct {
		name  string
		x     api.Image
		steps int
	}{
		{"never", api.Image{Parts: []api.Part{partition(whole(2), rest), partition(whole(1), loop)}}, 0},
		{"in the beginning", api.Image{Parts: []api.Part{
			partition(api.Server{Period: 5, Budget: 5, Offset: 4, Priority: 9}, rest),
			partition(api.Server{Period: 10, Budget: 6, Priority: 1}, loop),
		}}, 4},
		{"of many slots", api.Image{Parts: []api.Part{
			partition(api.Server{Period: 64, Budget: 63, Priority: 9}, rest),
			partition(api.Server{Period: 64, Budget: 1, Priority: 8}, rest),
			partition(api.Server{Period: 1 << 19, Budget: 9, Priority: 7}, loop),
			partition(api.Server{Period: 1 << 19, Budget: 9, Offset: 99, Priority: 6}, loop),
		}}, 0},
	} {
		inputs := []api.Input{}
		for tick := 1 << 21; tick < end; tick += end / 5000 {
			inputs = append(inputs, wake(tick, 1))
		}
		for _, w := range ways() {
			k := w.boots(t, lay(t, c.x, inputs))
			runs(t, k, end, 1000)
			if k.Now() != end || k.Steps() != c.steps || k.Stops() != c.steps+len(inputs) {
				t.Errorf("%s, %s: Now %d, Steps %d, Stops %d", c.name, w.name, k.Now(), k.Steps(), k.Stops())
			}
		}
	}
}

// Who has a tick again and again, but seldom, is found there; also if it has none below the first hyperperiod (W2).
func TestW2_Seldom(t *testing.T) {
	rest := act{api.Proc{Priority: 1}, "nop"}
	x := api.Image{Parts: []api.Part{
		partition(api.Server{Period: 10, Budget: 1, Offset: 9, Priority: 9}, rest),
		partition(api.Server{Period: 10, Budget: 1, Offset: 9, Priority: 8}, auto(1, "sys 1, jmp 0")),
	}}
	for _, w := range ways() {
		k := w.boots(t, lay(t, x, nil))
		runs(t, k, end, 3)
		if show(k.Trace()) != told("0/2 start p1\n10/2 call p1 a1 b10\n30/2 call p1 a1 b30") || k.Now() != 31 {
			t.Errorf("%s: %s", w.name, at(k))
		}
	}
	// One tick of 2^20, among many slots, and another partition that waits for ever.
	x = api.Image{Parts: []api.Part{
		partition(api.Server{Period: 128, Budget: 126, Priority: 9}, rest),
		partition(api.Server{Period: 1 << 20, Budget: 1, Offset: 1<<20 - 1, Priority: 8}, auto(1, "sys 1, jmp 0")),
		partition(api.Server{Period: 128, Budget: 2, Priority: 3}, rest),
		partition(api.Server{Period: 1 << 20, Budget: 1, Priority: 2}, auto(1, "jmp 0")),
	}}
	for _, w := range ways() {
		k := w.boots(t, lay(t, x, nil))
		runs(t, k, end, 5)
		last := 5<<20 - 1
		want := told(fmt.Sprintf("0/2 start p1\n0/4 start p1\n%d/2 call p1 a1 b%d\n%d/2 call p1 a1 b%d\n%d/2 call p1 a1 b%d", 1<<20-1, 1<<20-1, 3<<20-1, 3<<20-1, last, last))
		if show(k.Trace()) != want || k.Now() != last+1 || k.Steps() != 5 {
			t.Errorf("%s: %s", w.name, at(k))
		}
	}
}

// Channels that are due at every tick are no reason to stop, as long as their queues are empty: ahead of the first message and behind the last one, and behind a boot that has emptied them (W2).
func TestW2_ChannelsWithoutMessages(t *testing.T) {
	x := api.Image{
		Parts: []api.Part{
			partition(whole(1), auto(1, send(1, 0, -1)+", sys 17, sys 4")),
			partition(api.Server{Period: 2, Budget: 1, Priority: 0}, auto(1, "sys 4")),
		},
		Ports: []api.Port{queueOut(1, 1, 2), queueOut(1, 1, 2), queueOut(2, 1, 2), queueIn(2, 1, 64)},
		Channels: []api.Channel{
			{Kind: api.Queuing, From: 1, To: []int{4}, Period: 1}, {Kind: api.Queuing, From: 2, Period: 1}, {Kind: api.Queuing, From: 3, Period: 1},
		},
	}
	inputs := []api.Input{wake(1<<30, 1), wake(1<<30+4, 1), wake(1<<35, 1)}
	for _, w := range ways() {
		k := w.boots(t, lay(t, x, inputs))
		runs(t, k, end, plenty)
		want := "0/1 start p1\n0/2 start p1\n3/1 call p1 a17\n4/2 arrive a4\n4/1 call p1 a17\n5/2 arrive a4\n"
		from := 1 << 30
		want += fmt.Sprintf("%d/1 wake\n%d/1 start p1\n%d/1 call p1 a17\n", from, from, from+3)
		for _, from := range []int{1<<30 + 4, 1 << 35} {
			want += fmt.Sprintf("%d/1 wake\n%d/1 start p1\n%d/1 call p1 a17\n%d/2 arrive a4\n%d/1 call p1 a17\n%d/2 arrive a4\n", from, from, from+3, from+4, from+4, from+5)
		}
		// The message of tick 2^30 + 3 is gone with the boot at 2^30 + 4.
		if show(k.Trace()) != told(want) || k.Now() != end || k.Steps() != 6+4+6+6 {
			t.Errorf("%s: %s", w.name, at(k))
		}
	}
	// A channel with a long period keeps a message till its next tick, however far that is.
	x.Channels[0].Phase, x.Channels[0].Period = 1, 1<<20
	for _, w := range ways() {
		k := w.boots(t, lay(t, x, nil))
		runs(t, k, end, plenty)
		want := fmt.Sprintf("0/1 start p1\n0/2 start p1\n3/1 call p1 a17\n4/1 call p1 a17\n%d/2 arrive a4\n%d/2 arrive a4", 1<<20+1, 2<<20+1)
		if show(k.Trace()) != want || k.Now() != end || k.Steps() != 6 || k.Stops() != 8 {
			t.Errorf("%s: %s", w.name, at(k))
		}
	}
}
