package channel_test

import (
	"math/rand/v2"
	"slices"
	"testing"

	"bulkhead/api"
	"bulkhead/channel"
	"bulkhead/check"
)

// TestManyImages: every call beside the second reading, on images that may be booted and on others, at the edges of their channels and at ticks by chance. None panics.
func TestManyImages(t *testing.T) {
	for what, x := range samples() {
		holds(t, what, x, edgesOf(x)...)
	}
	r := rand.New(rand.NewPCG(18, 4))
	for range 1500 {
		for what, x := range map[string]api.Image{"well made": wellMade(r), "by chance": anyMade(r)} {
			ticks := edges(api.Channel{Phase: r.IntN(20), Period: r.IntN(20)})
			for range 10 {
				ticks = append(ticks, r.IntN(60), r.IntN(api.MaxTick), int(r.Uint64()))
			}
			holds(t, what, x, ticks...)
		}
		if t.Failed() {
			return
		}
	}
}

// TestManyChannels (P18.1): Due and Next beside the second reading, with phases, periods and ticks of all lengths.
func TestManyChannels(t *testing.T) {
	r := rand.New(rand.NewPCG(18, 5))
	number := func() int {
		n := int(r.Uint64() >> r.IntN(64))
		return oneOf(r, []int{n, n, n, -n, n & last, n & last, n & 15, bottom + n&15, top - n&15, api.MaxTick - 4 + n&7, top / 2, bottom / 2})
	}
	takers := 0
	for range 20000 {
		c := queuing(number(), number(), oneOf(r, []int{0, 1, 1, 1, 2, -1, top}), 2)
		if r.IntN(10) == 0 {
			c.Kind = number()
		}
		if takes(c) {
			takers++
		}
		for _, tick := range append(edges(c), number(), number(), number()) {
			if got, want := channel.Due(c, tick), due(c, tick); got != want {
				t.Fatalf("%v: Due(%d) = %v, want %v", c, tick, got, want)
			}
			if got, want := channel.Next(c, tick), next(c, tick); got != want {
				t.Fatalf("%v: Next(%d) = %d, want %d", c, tick, got, want)
			}
		}
	}
	if takers < 4000 {
		t.Errorf("%d channels take messages", takers)
	}
}

// TestOnceAPeriod (P18.6): in any Period ticks from Phase on a channel is due just once.
func TestOnceAPeriod(t *testing.T) {
	for period := 1; period <= 12; period++ {
		for phase := range 2*period + 3 {
			c := queuing(phase, period, 1)
			for tick := range phase {
				if channel.Due(c, tick) {
					t.Fatalf("%v is due at %d", c, tick)
				}
			}
			for begin := phase; begin < phase+3*period; begin++ {
				onceFrom(t, c, begin)
			}
			for begin := api.MaxTick - 3*period; begin+period <= api.MaxTick; begin++ {
				onceFrom(t, c, begin)
			}
		}
		// From the last ticks on.
		for phase := api.MaxTick - 2*period; phase+period <= api.MaxTick; phase++ {
			for begin := phase; begin+period <= api.MaxTick; begin++ {
				onceFrom(t, queuing(phase, period, 1), begin)
			}
		}
	}
}

// onceFrom wants a channel to be due just once in Period ticks.
func onceFrom(t *testing.T, c api.Channel, begin int) {
	t.Helper()
	times := 0
	for tick := begin; tick < begin+c.Period; tick++ {
		if channel.Due(c, tick) {
			times++
		}
	}
	if times != 1 {
		t.Fatalf("%v is due %d times in the Period from %d on", c, times, begin)
	}
}

// TestOnceALongPeriod (P18.6): the same where a Period has too many ticks to go through them: the next one lies in it, and the one behind that no longer.
func TestOnceALongPeriod(t *testing.T) {
	r := rand.New(rand.NewPCG(18, 6))
	for range 5000 {
		period := 1 + r.IntN(1<<r.IntN(40))
		c := queuing(r.IntN(api.MaxTick-period), period, 1)
		begin := c.Phase + r.IntN(api.MaxTick-period-c.Phase)
		tick := channel.Next(c, begin)
		if tick < begin || tick >= begin+period || !channel.Due(c, tick) {
			t.Fatalf("%v: Next(%d) = %d", c, begin, tick)
		}
		if later := channel.Next(c, tick+1); later != api.Never && later != tick+period || later == api.Never && tick+period < api.MaxTick {
			t.Fatalf("%v: Next(%d) = %d", c, tick+1, later)
		}
	}
}

// TestNextIsDue (P18.6): Next is the least tick at which the channel is due, from there on.
func TestNextIsDue(t *testing.T) {
	walk := func(c api.Channel, from, below int) {
		for tick := max(from, 0); tick < below; tick++ {
			if channel.Due(c, tick) {
				if got := channel.Next(c, from); got != tick {
					t.Fatalf("%v: Next(%d) = %d, but it is due at %d", c, from, got, tick)
				}
				return
			}
		}
		if got := channel.Next(c, from); below == api.MaxTick && got != api.Never || got != api.Never && got < below {
			t.Fatalf("%v: Next(%d) = %d, but it is not due from there on below %d", c, from, got, below)
		}
	}
	for _, kind := range []int{api.Sampling, api.Queuing, 2} {
		for _, from := range []int{0, 1} {
			for phase := -2; phase < 12; phase++ {
				for period := -2; period < 8; period++ {
					c := api.Channel{Kind: kind, From: from, Phase: phase, Period: period}
					for tick := -5; tick < 30; tick++ {
						walk(c, tick, 60)
					}
					for tick := api.MaxTick - 12; tick < api.MaxTick+3; tick++ {
						walk(c, tick, api.MaxTick)
					}
				}
			}
		}
	}
	for phase := api.MaxTick - 12; phase < api.MaxTick+3; phase++ {
		for period := 1; period < 8; period++ {
			for tick := api.MaxTick - 15; tick < api.MaxTick+3; tick++ {
				walk(queuing(phase, period, 1), tick, api.MaxTick)
			}
		}
	}
}

// TestTicksOfAll (P18.2, P18.6): gone through by Next, the channels are due just where DueAt tells them, tick by tick.
func TestTicksOfAll(t *testing.T) {
	for what, x := range samples() {
		const below = 80
		want := make([][]int, below)
		for i, c := range x.Channels {
			for tick := channel.Next(c, bottom); tick != api.Never && tick < below; tick = channel.Next(c, tick+1) {
				want[tick] = append(want[tick], i+1)
			}
		}
		for tick := range below {
			lists(t, what, channel.DueAt(x, tick), want[tick]...)
		}
	}
}

// TestOneToOne (P18.6): of an image that may be booted each port that is Out feeds at most one channel, each other one is fed by at most one.
func TestOneToOne(t *testing.T) {
	joined := 0
	for what, x := range booted() {
		feeds, fed := map[int]int{}, map[int]int{}
		for i, c := range x.Channels {
			if c.From != 0 {
				feeds[c.From] = i + 1
			}
			for _, port := range c.To {
				fed[port] = i + 1
			}
		}
		for i, q := range x.Ports {
			from, to := channel.FromPort(x, i+1), channel.ToPort(x, i+1)
			if from != feeds[i+1] || to != fed[i+1] || from != 0 && !q.Out || to != 0 && q.Out {
				t.Errorf("%s: port %d %v: FromPort %d, ToPort %d, want %d, %d", what, i+1, q, from, to, feeds[i+1], fed[i+1])
			}
			if from+to != 0 {
				joined++
			}
		}
		// Back from the channels, each one's ports lead to it and to no other.
		for i, c := range x.Channels {
			if c.From != 0 && channel.FromPort(x, c.From) != i+1 {
				t.Errorf("%s: channel %d, From %d: %d", what, i+1, c.From, channel.FromPort(x, c.From))
			}
			for _, port := range c.To {
				if channel.ToPort(x, port) != i+1 {
					t.Errorf("%s: channel %d, To %d: %d", what, i+1, port, channel.ToPort(x, port))
				}
			}
		}
	}
	if joined < 1000 {
		t.Errorf("%d ports are joined", joined)
	}
}

// TestWhoseChannels (P18.6): of an image that may be booted a channel stands in the Outlet of just the partition that it comes from, in the Inlet of just those that it goes to.
func TestWhoseChannels(t *testing.T) {
	for what, x := range booted() {
		for i := range x.Channels {
			from, to, err := channel.Parts(x, i+1)
			if err != api.OK {
				t.Errorf("%s: Parts(%d): %d", what, i+1, err)
			}
			for part := -1; part <= len(x.Parts)+1; part++ {
				out, in := slices.Contains(channel.Outlet(x, part), i+1), slices.Contains(channel.Inlet(x, part), i+1)
				if out != (part > 0 && part == from) || in != (part > 0 && slices.Contains(to, part)) {
					t.Errorf("%s: channel %d from %d to %v: partition %d: %v, %v", what, i+1, from, to, part, out, in)
				}
			}
			// The outside stands alone, and only where there is no port.
			if c := x.Channels[i]; (from == 0) != (c.From == 0) || slices.Contains(to, 0) != (len(c.To) == 0) || len(to) == 0 {
				t.Errorf("%s: channel %d %v: Parts %d, %v", what, i+1, c, from, to)
			}
		}
	}
}

// booted are images that may be booted.
func booted() map[string]api.Image {
	list := samples()
	for what, x := range list {
		if err, _ := check.Check(x); err != api.OK {
			delete(list, what)
		}
	}
	return list
}

// TestPlain: what a whole image tells, written out.
func TestPlain(t *testing.T) {
	x := plain()
	lists(t, "DueAt(0)", channel.DueAt(x, 0), 2, 4)
	lists(t, "DueAt(3)", channel.DueAt(x, 3), 1, 2)
	lists(t, "DueAt(16)", channel.DueAt(x, 16), 2, 4)
	lists(t, "DueAt(53)", channel.DueAt(x, 53), 1, 2)
	lists(t, "DueAt(MaxPeriod - 1)", channel.DueAt(x, api.MaxPeriod-1), 2, 8)
	feeds(t, x, map[int]int{1: 2, 2: 1, 3: 8, 4: 0, 9: 5, 10: 6, 15: 0, 16: 4})
	isFed(t, x, map[int]int{1: 0, 4: 1, 5: 1, 6: 1, 7: 4, 8: 3, 11: 5, 12: 5, 13: 7, 14: 3})
	for number, want := range [][]int{{2, 1, 3}, {1, 0}, {0, 2, 4}, {4, 4}, {1, 2, 3}, {4, 0}, {0, 3}, {2, 0}} {
		partsAre(t, x, number+1, want[0], want[1:]...)
	}
	for part, want := range [][]int{nil, {2, 5}, {1, 8}, nil, {4, 6}, nil} {
		lists(t, "Outlet", channel.Outlet(x, part), want...)
	}
	for part, want := range [][]int{nil, {1}, {3, 5}, {1, 5, 7}, {3, 4}, nil} {
		lists(t, "Inlet", channel.Inlet(x, part), want...)
	}
}
