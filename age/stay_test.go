package age_test

import (
	"fmt"
	"slices"
	"strings"
	"testing"

	"bulkhead/age"
	"bulkhead/api"
	"bulkhead/check"
)

// whole is a server that occupies each tick that no greater one does.
func whole(priority int) api.Server { return api.Server{Period: 1, Budget: 1, Priority: priority} }

// auto is a process that starts at boot.
func auto(priority int, text string) deed {
	return deed{text, api.Proc{Priority: priority, Auto: true}}
}

// sends is the text of so many instructions SEND, one behind the other; the port's number stands in r1, the time-out in r3.
func sends(n int) string { return strings.Repeat("addi r4 r4 1\nst r4 r2 0\nsys 17\n", n) }

// quickSends are the same of a message that is always the same: one a tick.
func quickSends(n int) string { return strings.Repeat("sys 17\n", n) }

// outwards is an image of partitions and a channel from the first one's port 1 to the outside.
func outwards(t *testing.T, depth, period, phase int, parts ...api.Part) api.Image {
	t.Helper()
	x := api.Image{Parts: parts, Ports: []api.Port{queue(1, true, depth)}, Channels: []api.Channel{{Kind: api.Queuing, From: 1, Phase: phase, Period: period}}}
	if err, number := check.Check(x); err != api.OK {
		t.Fatal(err, number)
	}
	return x
}

// outs are the ticks at which a channel took messages to the outside.
func outs(events []api.Event, number int) []int {
	var list []int
	for _, e := range events {
		if e.Kind == api.EventOut && e.A == int64(number) {
			list = append(list, e.Tick)
		}
	}
	return list
}

// layings are the ticks at which a partition laid down messages, by SEND or while a process of it waited.
func layings(events []api.Event, part int) []int {
	var list []int
	for _, e := range events {
		if e.Kind == api.EventCall && e.Part == part && e.A == api.CallSend && e.B == api.ResOK {
			list = append(list, e.Tick)
		}
	}
	return list
}

// greatestStay is the longest time from a laying to the taking of the same message, where none was lost by a boot.
func greatestStay(t *testing.T, laid, taken []int) int {
	t.Helper()
	most := 0
	for i, tick := range taken {
		if tick <= laid[i] {
			t.Fatalf("P26.6: laid down at %d, taken at %d", laid[i], tick)
		}
		most = max(most, tick-laid[i])
	}
	return most
}

// A process that sends as often as it can, and waits for room: where the channel is slower than that a message stays for just Stay, again and again.
func TestP26_6_StayIsMet(t *testing.T) {
	t.Parallel()
	for _, depth := range []int{1, 2, 3, 5} {
		for _, period := range []int{1, 2, 3, 4, 7} {
			for phase := range period {
				for _, how := range []int{api.Online, api.ByTable} {
					x := outwards(t, depth, period, phase, housed(t, whole(1), auto(1, "ldi r1 1\nldi r3 -1\ntop: "+quickSends(500)+"jmp top")))
					seen := map[string]int{}
					r := watched(t, fmt.Sprintf("Depth %d, Period %d, Phase %d", depth, period, phase), x, nil, how, 40+2*depth*period)
					r.looks(t, seen)
					events := slices.Concat(r.events...)
					stay, err := age.Stay(x, 1)
					if want := depth * period; stay != want || err != api.OK {
						t.Errorf("P26.2: %s: %d, %d, want %d", r.what, stay, err, want)
					}
					// One that takes each tick never finds more than one message there.
					want := stay
					if period == 1 {
						want = 1
					}
					if got := greatestStay(t, layings(events, 1), outs(events, 1)); got != want || seen["just at t + Stay"] == 0 && (period > 1 || depth == 1) {
						t.Errorf("P26.6: %s: the longest stay is %d, want %d", r.what, got, want)
					}
				}
			}
		}
	}
}

// Several processes that wait to send: what the transfer lays down for one of them is taken just Stay ticks later.
func TestP26_6_LaidDownInTheTransfer(t *testing.T) {
	t.Parallel()
	for _, depth := range []int{1, 2, 4} {
		text := func(i int) string {
			return fmt.Sprintf("ldi r2 %d\nldi r1 1\nldi r3 -1\ntop%d: %sjmp top%d", 2*i, i, sends(1), i)
		}
		x := outwards(t, depth, 6, 2, housed(t, whole(1), auto(1, text(0)), auto(9, text(1)), auto(5, text(2))))
		seen := map[string]int{}
		r := watched(t, fmt.Sprintf("Depth %d", depth), x, nil, api.Online, 400)
		r.looks(t, seen)
		if seen["laid down in a transfer"] < 40 || seen["just at t + Stay"] < seen["laid down in a transfer"] {
			t.Errorf("P26.6: %s: %d laid down in a transfer, %d just at t + Stay", r.what, seen["laid down in a transfer"], seen["just at t + Stay"])
		}
	}
}

// Four lie in the queue of Depth 4 behind tick 6, the last one laid down in the channel's own tick: whatever the sender is then, they leave at 16, 26, 36 and 46, which is 6 + Stay.
func TestP26_6_WhateverTheSenderIs(t *testing.T) {
	t.Parallel()
	five := "ldi r1 1\nnop\n" + quickSends(5)
	other := func(s api.Server) api.Part { return housed(t, s, auto(1, "here: jmp here")) }
	for what, c := range map[string]struct {
		text   string
		others []api.Part
		mode   int // behind tick 40
		state  int // of the process, there
	}{
		"it goes on":            {text: five + "here: jmp here", mode: api.Normal, state: api.Ready},
		"it is IDLE":            {text: five + "ldi r1 0\nsys 13", mode: api.Idle},
		"it is IDLE by a fault": {text: five + "sys 27", mode: api.Idle},
		"it stops":              {text: five + "sys 4", mode: api.Normal},
		"it waits for a while":  {text: five + delay(100), mode: api.Normal, state: api.Delayed},
		"it waits to be woken":  {text: five + "ldi r1 1\nldi r2 -1\nsys 24", mode: api.Normal, state: api.AtEvent},
		"it never occupies":     {text: five + "here: jmp here", mode: api.Normal, state: api.Ready, others: []api.Part{other(api.Server{Period: 1000, Budget: 900, Offset: 7, Priority: 9})}},
		"it seldom occupies":    {text: five + "here: jmp here", mode: api.Normal, state: api.Ready, others: []api.Part{other(api.Server{Period: 20, Budget: 13, Offset: 7, Priority: 9})}},
	} {
		p := housed(t, whole(1), auto(1, c.text))
		p.Events, p.Health[api.FaultRaised] = []bool{false}, api.ActIdle
		x := outwards(t, 4, 10, 6, append([]api.Part{p}, c.others...)...)
		for _, how := range []int{api.Online, api.ByTable} {
			r := watched(t, what, x, nil, how, 80)
			r.looks(t, map[string]int{})
			events := slices.Concat(r.events...)
			if got, want := layings(events, 1), []int{2, 3, 4, 5, 6}; !slices.Equal(got, want) {
				t.Errorf("%s: laid down at %v, want %v", what, got, want)
			}
			if got, want := outs(events, 1), []int{6, 16, 26, 36, 46}; !slices.Equal(got, want) {
				t.Errorf("P26.6: %s: taken at %v, want %v", what, got, want)
			}
			if state := r.states[40][0]; state.Mode != c.mode || state.Procs[0].State != c.state {
				t.Errorf("%s: Mode %d, State %d", what, state.Mode, state.Procs[0].State)
			}
		}
	}
}

// The fifth process waits to send from tick 6 on; what it has is laid down in the transfer at 8, and taken at 8 + Stay.
func TestP26_6_TheSenderWaits(t *testing.T) {
	t.Parallel()
	for what, end := range map[string]string{"for ever": "-1", "for long": "1000", "just long enough": "3"} {
		x := outwards(t, 4, 10, 8, housed(t, whole(1), auto(1, "ldi r1 1\nldi r3 "+end+"\n"+quickSends(5)+"here: jmp here")))
		r := watched(t, what, x, nil, api.Online, 80)
		seen := map[string]int{}
		r.looks(t, seen)
		events := slices.Concat(r.events...)
		if laid, taken := layings(events, 1), outs(events, 1); !slices.Equal(laid, []int{2, 3, 4, 5, 8}) || !slices.Equal(taken, []int{8, 18, 28, 38, 48}) || seen["laid down in a transfer"] != 1 {
			t.Errorf("P26.6: %s: laid down at %v, taken at %v", what, laid, taken)
		}
	}
	// One that waits too short a time lays nothing down.
	x := outwards(t, 4, 10, 8, housed(t, whole(1), auto(1, "ldi r1 1\nldi r3 1\n"+quickSends(5)+"here: jmp here")))
	events := slices.Concat(watched(t, "too short", x, nil, api.Online, 80).events...)
	if laid, taken := layings(events, 1), outs(events, 1); !slices.Equal(laid, []int{2, 3, 4, 5}) || !slices.Equal(taken, []int{8, 18, 28, 38}) {
		t.Errorf("P26.6: laid down at %v, taken at %v", laid, taken)
	}
}

// A message is spoken of until its partition is booted anew: what lay there then never leaves, and what is laid down behind that leaves as ever.
func TestP26_6_BootedAnew(t *testing.T) {
	t.Parallel()
	five := "ldi r1 1\nnop\n" + quickSends(5)
	for what, c := range map[string]struct {
		text        string
		wake        int // Never: no input
		laid, taken []int
	}{
		"by nobody":             {five + "here: jmp here", api.Never, []int{2, 3, 4, 5, 6}, []int{6, 16, 26, 36, 46}},
		"by an input":           {five + "here: jmp here", 20, []int{2, 3, 4, 5, 6, 22, 23, 24, 25, 26}, []int{6, 16, 26, 36, 46, 56, 66}},
		"in the channel's tick": {five + "here: jmp here", 16, []int{2, 3, 4, 5, 6, 18, 19, 20, 21}, []int{6, 26, 36, 46, 56}},
		"just behind its tick":  {five + "here: jmp here", 17, []int{2, 3, 4, 5, 6, 19, 20, 21, 22}, []int{6, 16, 26, 36, 46, 56}},
		"just behind the last":  {five + "here: jmp here", 47, []int{2, 3, 4, 5, 6, 49, 50, 51, 52}, []int{6, 16, 26, 36, 46, 56, 66, 76}},
		"by itself, again":      {five + "ldi r1 20\nsys 2\nldi r1 1\nsys 13", api.Never, []int{2, 3, 4, 5, 6, 32, 33, 34, 35, 36, 62, 63, 64, 65, 66}, []int{6, 16, 26, 36, 46, 56, 66, 76}},
		"by a fault":            {five + "ldi r1 20\nsys 2\nsys 27", api.Never, []int{2, 3, 4, 5, 6, 31, 32, 33, 34, 60, 61, 62, 63}, []int{6, 16, 26, 36, 46, 56, 66, 76}},
		"IDLE ones too":         {five + "ldi r1 0\nsys 13", 28, []int{2, 3, 4, 5, 6, 30, 31, 32, 33}, []int{6, 16, 26, 36, 46, 56, 66}},
	} {
		p := housed(t, whole(1), auto(1, c.text))
		p.Health[api.FaultRaised] = api.ActRestart
		x := outwards(t, 4, 10, 6, p)
		var inputs []api.Input
		if c.wake != api.Never {
			inputs = []api.Input{{Tick: c.wake, Kind: api.InputWake, Target: 1}}
		}
		r := watched(t, what, x, inputs, api.Online, 80)
		r.looks(t, map[string]int{})
		events := slices.Concat(r.events...)
		if laid, taken := layings(events, 1), outs(events, 1); !slices.Equal(laid, c.laid) || !slices.Equal(taken, c.taken) {
			t.Errorf("P26.6: %s: laid down at %v, taken at %v; want %v, %v", what, laid, taken, c.laid, c.taken)
		}
	}
}

// The greatest Depth and Period: each message that is laid down ahead of the channel's first tick or in it is taken in its turn, the last one just Stay ticks later.
func TestP26_6_TheGreatest(t *testing.T) {
	t.Parallel()
	const period = api.MaxPeriod
	for _, phase := range []int{period - 1, 1000} {
		x := outwards(t, api.MaxDepth, period, phase, housed(t, whole(1), auto(1, "ldi r1 1\nldi r3 -1\n"+quickSends(api.MaxDepth+1)+"sys 4")))
		stay, err := age.Stay(x, 1)
		if stay != 1<<26 || err != api.OK {
			t.Fatalf("P26.2: Stay is %d, %d", stay, err)
		}
		k := booted(t, x, nil, api.Online)
		runs(t, k, phase+stay)
		laid, taken := layings(k.Trace(), 1), outs(k.Trace(), 1)
		if len(laid) != api.MaxDepth+1 || laid[api.MaxDepth] != phase || len(taken) != api.MaxDepth {
			t.Fatalf("laid down at %v, taken at %v", laid, taken)
		}
		runs(t, k, phase+stay+1)
		taken = outs(k.Trace(), 1)
		for i, tick := range taken {
			if tick != phase+i*period {
				t.Errorf("P26.6: taken at %d, want %d", tick, phase+i*period)
			}
		}
		if got := greatestStay(t, laid, taken); got != stay || len(taken) != api.MaxDepth+1 {
			t.Errorf("P26.6: %d taken, the longest stay is %d, want %d", len(taken), got, stay)
		}
	}
}

// Ahead of MaxTick: what is laid down at t is taken by t + Stay where that lies below MaxTick, and what would be taken behind that never is.
func TestP26_6_TheLastTicks(t *testing.T) {
	t.Parallel()
	for depth := 1; depth <= 3; depth++ {
		for _, period := range []int{1, 2, 7, 30} {
			p := housed(t, whole(1), auto(1, "ld r1 r0 0\nsys 2\nldi r1 1\nldi r3 -1\ntop: "+quickSends(200)+"jmp top"))
			p.Init = []int64{api.MaxTick - 120}
			x := outwards(t, depth, period, period/2, p)
			what := fmt.Sprintf("Depth %d, Period %d", depth, period)
			stay, err := age.Stay(x, 1)
			if err != api.OK {
				t.Fatal(err)
			}
			k := booted(t, x, nil, api.Online)
			runs(t, k, api.MaxTick)
			laid, taken := layings(k.Trace(), 1), outs(k.Trace(), 1)
			if len(laid) < 4 || laid[0] != api.MaxTick-120+3 {
				t.Fatalf("%s: laid down at %v", what, laid)
			}
			late := 0
			for i, tick := range laid {
				switch {
				case i < len(taken) && (taken[i] <= tick || taken[i] > tick+stay):
					t.Errorf("P26.6: %s: laid down at %d, taken at %d", what, tick, taken[i])
				case i >= len(taken) && tick+stay < api.MaxTick:
					t.Errorf("P26.6: %s: laid down at %d, never taken", what, tick)
				case i >= len(taken):
					late++
				}
			}
			if late == 0 {
				t.Errorf("%s: all are taken ahead of MaxTick", what)
			}
		}
	}
}
