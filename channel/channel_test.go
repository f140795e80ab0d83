package channel_test

import (
	"slices"
	"testing"

	"bulkhead/api"
	"bulkhead/channel"
)

// lists wants a list.
func lists(t *testing.T, what string, got []int, want ...int) {
	t.Helper()
	if !slices.Equal(got, want) {
		t.Errorf("%s = %v, want %v", what, got, want)
	}
}

// partsAre wants Parts to tell this, and OK.
func partsAre(t *testing.T, x api.Image, number, from int, to ...int) {
	t.Helper()
	gotFrom, gotTo, err := channel.Parts(x, number)
	if gotFrom != from || !slices.Equal(gotTo, to) || err != api.OK {
		t.Errorf("%v: Parts(%d) = %d, %v, %d, want %d, %v", x.Channels, number, gotFrom, gotTo, err, from, to)
	}
}

// noParts wants Parts to refuse numbers of channels that are not there.
func noParts(t *testing.T, x api.Image, numbers ...int) {
	t.Helper()
	for _, number := range numbers {
		if from, to, err := channel.Parts(x, number); from != 0 || len(to) != 0 || err != api.ErrArg {
			t.Errorf("of %d channels: Parts(%d) = %d, %v, %d", len(x.Channels), number, from, to, err)
		}
	}
}

// feeds wants FromPort of ports to be these channels.
func feeds(t *testing.T, x api.Image, want map[int]int) {
	t.Helper()
	for port, number := range want {
		if got := channel.FromPort(x, port); got != number {
			t.Errorf("%v: FromPort(%d) = %d, want %d", x.Channels, port, got, number)
		}
	}
}

// isFed wants ToPort of ports to be these channels.
func isFed(t *testing.T, x api.Image, want map[int]int) {
	t.Helper()
	for port, number := range want {
		if got := channel.ToPort(x, port); got != number {
			t.Errorf("%v: ToPort(%d) = %d, want %d", x.Channels, port, got, number)
		}
	}
}

// TestExamples: the chapter's table.
func TestExamples(t *testing.T) {
	x := chapter()
	one, two := x.Channels[0], x.Channels[1]
	for tick, want := range map[int]bool{3: true, 13: true, 14: false, 0: false, -7: false} {
		if got := channel.Due(one, tick); got != want {
			t.Errorf("Due(channel 1, %d) = %v", tick, got)
		}
	}
	if channel.Due(two, 0) {
		t.Error("Due(channel 2, 0)")
	}
	for from, want := range map[int]int{0: 3, 4: 13, 13: 13, api.MaxTick: api.Never} {
		if got := channel.Next(one, from); got != want {
			t.Errorf("Next(channel 1, %d) = %d, want %d", from, got, want)
		}
	}
	if got := channel.Next(two, 0); got != api.Never {
		t.Errorf("Next(channel 2, 0) = %d", got)
	}
	lists(t, "DueAt(x, 3)", channel.DueAt(x, 3), 1)
	lists(t, "DueAt(x, 4)", channel.DueAt(x, 4))
	feeds(t, x, map[int]int{1: 1, 2: 0, 0: 0})
	isFed(t, x, map[int]int{2: 1, 3: 1, 9: 0})
	partsAre(t, x, 1, 2, 1, 3)
	partsAre(t, x, 2, 0, 3)
	noParts(t, x, 3)
	lists(t, "Outlet(x, 2)", channel.Outlet(x, 2), 1)
	lists(t, "Outlet(x, 3)", channel.Outlet(x, 3))
	lists(t, "Inlet(x, 3)", channel.Inlet(x, 3), 1, 2)
	lists(t, "Inlet(x, 1)", channel.Inlet(x, 1), 1)
	lists(t, "Inlet(x, 0)", channel.Inlet(x, 0))
}

// TestDue (P18.1): a channel is due at its ticks alone.
func TestDue(t *testing.T) {
	const many = 1 << 20
	for _, row := range []struct {
		phase, period int
		yes, no       []int
	}{
		{3, 10, []int{3, 13, 23, api.MaxTick - 3}, []int{bottom, -7, -1, 0, 2, 4, 12, 14, last, api.MaxTick, api.MaxTick + 7, top}},
		{0, 1, []int{0, 1, 2, 77, last - 1, last}, []int{bottom, -2, -1, api.MaxTick, api.MaxTick + 1, top - 1, top}},
		{0, 10, []int{0, 10, 20, api.MaxTick - 6}, []int{-20, -10, -1, 1, 9, 11, last, api.MaxTick + 4}},
		{1, 1, []int{1, 2, 3, last}, []int{-1, 0, api.MaxTick}},
		{17, 5, []int{17, 22, 27}, []int{-3, 2, 7, 12, 16, 18, 21, 23}},
		{many - 1, many, []int{many - 1, 2*many - 1, last}, []int{-1, 0, many - 2, many, 2*many - 2, 2 * many, last - 1, api.MaxTick, api.MaxTick + many - 1}},
		{last, 1, []int{last}, []int{-1, 0, last - 1, api.MaxTick}},
		{last - 1, 1, []int{last - 1, last}, []int{0, last - 2, api.MaxTick}},
		{last - 1, 2, []int{last - 1}, []int{0, last - 2, last - 3, last, api.MaxTick}},
		{api.MaxTick, 1, nil, []int{bottom, -1, 0, last, api.MaxTick, api.MaxTick + 1, top}},
		{5, api.MaxTick + 3, []int{5}, []int{-1, 0, 4, 6, last, api.MaxTick + 8, top}},
		{0, api.MaxTick, []int{0}, []int{-api.MaxTick, -1, 1, last, api.MaxTick, 2 * api.MaxTick}},
		{0, last, []int{0, last}, []int{-last, -1, 1, last - 1, 2 * last}},
		{0, top, []int{0}, []int{bottom, bottom + 1, -1, 1, last, top - 1, top}},
		{7, top, []int{7}, []int{bottom, bottom + 6, bottom + 7, bottom + 8, -1, 0, 6, 8, last, top}},
		{last, top, []int{last}, []int{bottom, bottom + last - 1, bottom + last, -1, 0, last - 1, api.MaxTick, top}},
		{top, 1, nil, []int{bottom, -1, 0, last, top}},
		{top, top, nil, []int{bottom, -2, -1, 0, last, top}},
	} {
		c := queuing(row.phase, row.period, 1, 2)
		for _, tick := range row.yes {
			if !channel.Due(c, tick) {
				t.Errorf("phase %d, period %d: not due at %d", row.phase, row.period, tick)
			}
		}
		for _, tick := range row.no {
			if channel.Due(c, tick) {
				t.Errorf("phase %d, period %d: due at %d", row.phase, row.period, tick)
			}
		}
	}
}

// TestNext (P18.1): the least tick from there on, or Never.
func TestNext(t *testing.T) {
	const many = 1 << 20
	for _, row := range []struct {
		phase, period int
		want          map[int]int
	}{
		{3, 10, map[int]int{bottom: 3, -1: 3, 0: 3, 2: 3, 3: 3, 4: 13, 12: 13, 13: 13, 14: 23, api.MaxTick - 3: api.MaxTick - 3, api.MaxTick - 2: -1, last: -1, api.MaxTick: -1, top: -1}},
		{0, 1, map[int]int{bottom: 0, -1: 0, 0: 0, 1: 1, 99: 99, last - 1: last - 1, last: last, api.MaxTick: -1, top: -1}},
		{17, 5, map[int]int{-3: 17, 0: 17, 2: 17, 16: 17, 17: 17, 18: 22, 22: 22, 23: 27}},
		{many - 1, many, map[int]int{0: many - 1, many - 1: many - 1, many: 2*many - 1, last - 1: last, last: last, api.MaxTick: -1}},
		{last, 1, map[int]int{bottom: last, 0: last, last: last, api.MaxTick: -1, top: -1}},
		{last - 1, 2, map[int]int{0: last - 1, last - 1: last - 1, last: -1, api.MaxTick: -1}},
		{api.MaxTick, 1, map[int]int{bottom: -1, -1: -1, 0: -1, last: -1, api.MaxTick: -1, api.MaxTick + 1: -1, top: -1}},
		{5, api.MaxTick + 3, map[int]int{bottom: 5, 0: 5, 5: 5, 6: -1, last: -1, api.MaxTick + 8: -1}},
		{0, api.MaxTick, map[int]int{-1: 0, 0: 0, 1: -1, last: -1, api.MaxTick: -1}},
		{0, last, map[int]int{0: 0, 1: last, last: last, api.MaxTick: -1}},
		{0, top, map[int]int{bottom: 0, -1: 0, 0: 0, 1: -1, top - 1: -1, top: -1}},
		{7, top, map[int]int{bottom: 7, 0: 7, 7: 7, 8: -1, top - 1: -1, top: -1}},
		{last, top, map[int]int{bottom: last, last: last, api.MaxTick: -1, top: -1}},
		{top, 1, map[int]int{bottom: -1, 0: -1, last: -1, top: -1}},
		{top, top, map[int]int{bottom: -1, -1: -1, 0: -1, last: -1, top: -1}},
		{top - 1, top - 1, map[int]int{bottom: -1, 0: -1, top - 1: -1, top: -1}},
	} {
		c := queuing(row.phase, row.period, 1, 2)
		for from, want := range row.want {
			if got := channel.Next(c, from); got != want {
				t.Errorf("phase %d, period %d: Next(%d) = %d, want %d", row.phase, row.period, from, got, want)
			}
		}
	}
}

// TestTakesNone (P18.1): a channel that takes no messages is never due, whatever else it has.
func TestTakesNone(t *testing.T) {
	good := queuing(3, 10, 1, 2)
	none := map[string]api.Channel{"the zero channel": {}, "a sample": sampling(1, 2)}
	change := func(what string, do func(c *api.Channel)) {
		c := good
		do(&c)
		none[what] = c
	}
	for what, n := range map[string]int{"least": bottom, "least but one": bottom + 1, "-10": -10, "-3": -3, "-2": -2, "-1": -1} {
		change("phase "+what, func(c *api.Channel) { c.Phase = n })
		change("period "+what, func(c *api.Channel) { c.Period = n })
		change("both "+what, func(c *api.Channel) { c.Phase, c.Period = n, n })
		change("phase 0, period "+what, func(c *api.Channel) { c.Phase, c.Period = 0, n })
		change("period 1, phase "+what, func(c *api.Channel) { c.Phase, c.Period = n, 1 })
		change("kind "+what, func(c *api.Channel) { c.Kind = n })
	}
	change("period 0", func(c *api.Channel) { c.Period = 0 })
	change("phase 0, period 0", func(c *api.Channel) { c.Phase, c.Period = 0, 0 })
	change("from 0", func(c *api.Channel) { c.From = 0 })
	change("from 0, every tick", func(c *api.Channel) { c.From, c.Phase, c.Period = 0, 0, 1 })
	change("sampling", func(c *api.Channel) { c.Kind = api.Sampling })
	change("sampling, every tick", func(c *api.Channel) { c.Kind, c.Phase, c.Period = api.Sampling, 0, 1 })
	change("kind 2", func(c *api.Channel) { c.Kind = 2 })
	change("kind 3", func(c *api.Channel) { c.Kind = 3 })
	change("a far kind, low bits 1", func(c *api.Channel) { c.Kind = 1<<32 + 1 })
	change("the greatest kind", func(c *api.Channel) { c.Kind = top })
	for what, c := range none {
		for _, tick := range append(edges(c), edges(good)...) {
			if channel.Due(c, tick) || channel.Next(c, tick) != api.Never {
				t.Errorf("%s: Due(%d) = %v, Next = %d", what, tick, channel.Due(c, tick), channel.Next(c, tick))
			}
			lists(t, what, channel.DueAt(api.Image{Channels: []api.Channel{c}}, tick))
		}
	}
}

// TestTakesAll (P18.1): what a channel takes hangs neither on its To nor on which port its From is, so long as it is not 0.
func TestTakesAll(t *testing.T) {
	for _, from := range []int{bottom, -1, 1, 2, 65, 1 << 32, top} {
		for _, to := range [][]int{nil, {}, {1}, {2, 2}, {from}, {0}, {-1, top}} {
			c := queuing(3, 10, from, to...)
			for tick := -10; tick < 40; tick++ {
				if channel.Due(c, tick) != (tick == 3 || tick == 13 || tick == 23 || tick == 33) {
					t.Errorf("%v: Due(%d) = %v", c, tick, channel.Due(c, tick))
				}
			}
			if got := channel.Next(c, 4); got != 13 {
				t.Errorf("%v: Next(4) = %d", c, got)
			}
		}
	}
}

// TestDueAt (P18.2): the numbers of the channels that are due, rising.
func TestDueAt(t *testing.T) {
	x := image(1, []api.Port{queuingOut(1, 1)},
		queuing(0, 2, 1), queuing(0, 3, 1), sampling(1), queuing(1, 5, 1), api.Channel{Kind: api.Queuing, Period: 1}, queuing(0, 1, 9), queuing(last, 1, 1), queuing(-2, 2, 1))
	for tick, want := range map[int][]int{
		0: {1, 2, 6}, 1: {4, 6}, 2: {1, 6}, 3: {2, 6}, 5: {6}, 6: {1, 2, 4, 6}, 36: {1, 2, 4, 6},
		last - 1: {1, 6}, last: {2, 6, 7},
		api.MaxTick: nil, api.MaxTick + 1: nil, -1: nil, -2: nil, -30: nil, bottom: nil, top: nil,
	} {
		lists(t, "DueAt", channel.DueAt(x, tick), want...)
	}
	for _, tick := range []int{bottom, -1, 0, 1, last, api.MaxTick, top} {
		lists(t, "DueAt of nothing", channel.DueAt(api.Image{}, tick))
		lists(t, "DueAt of ports alone", channel.DueAt(image(3, plain().Ports), tick))
	}
	all := with(x, slices.Repeat([]api.Channel{queuing(4, 6, 1)}, 3*api.MaxChannels)...)
	got := channel.DueAt(all, 10)
	for i, number := range got {
		if number != i+1 {
			t.Fatalf("DueAt of many: %v", got)
		}
	}
	if len(got) != 3*api.MaxChannels || len(channel.DueAt(all, 9)) != 0 {
		t.Errorf("DueAt of many: %v", got)
	}
}

// TestFromPort (P18.3): the least channel that comes from a port, there or not.
func TestFromPort(t *testing.T) {
	far := []int{bottom, bottom + 1, -2, -1, 0}
	x := with(chapter(), sampling(0, 1), queuing(0, 2, 3, 2), queuing(0, 2, 1), queuing(0, 2, 3), sampling(1, 3), queuing(0, 2, 9), api.Channel{Kind: -5, From: top}, queuing(0, 2, 64), queuing(0, 2, 4))
	feeds(t, x, map[int]int{1: 3, 2: 0, 3: 2, 4: 9, 5: 0, 8: 0, 9: 6, 10: 0, 64: 8, 65: 0, 1 << 32: 0, 1<<32 + 1: 0, top - 1: 0, top: 7})
	for _, port := range far {
		feeds(t, x, map[int]int{port: 0})
		feeds(t, with(x, queuing(0, 2, port, 1), queuing(0, 2, 1)), map[int]int{port: 0, 1: 2})
		feeds(t, api.Image{}, map[int]int{port: 0})
	}
	feeds(t, api.Image{}, map[int]int{1: 0, 2: 0, top: 0})
	feeds(t, image(3, plain().Ports), map[int]int{1: 0, 2: 0, top: 0})
	// Where a port stands among the To counts for nothing.
	feeds(t, with(chapter(), queuing(0, 2, 2, 1), queuing(0, 2, 3, 1)), map[int]int{1: 0, 2: 1, 3: 2})
	for port := 1; port <= api.MaxPorts; port++ {
		feeds(t, crowd(), map[int]int{port: api.MaxChannels + 1 - port})
	}
}

// TestToPort (P18.3): the least channel that goes to a port, there or not.
func TestToPort(t *testing.T) {
	far := []int{bottom, bottom + 1, -2, -1, 0}
	x := with(chapter(), sampling(1), queuing(0, 2, 1, 3, 9, 2), queuing(0, 2, 4, 2), queuing(0, 2, 5, 5, 5), sampling(0, 6, 4, 3), queuing(0, 2, 1, -1, 0, top, 7), api.Channel{Kind: 9, To: []int{8, 9}})
	isFed(t, x, map[int]int{1: 0, 2: 2, 3: 2, 4: 5, 5: 4, 6: 5, 7: 6, 8: 7, 9: 2, 10: 0, 1 << 32: 0, 1<<32 + 2: 0, top - 1: 0, top: 6})
	for _, port := range far {
		isFed(t, x, map[int]int{port: 0})
		isFed(t, with(x, queuing(0, 2, 1, port), queuing(0, 2, 1, port, 3)), map[int]int{port: 0, 3: 2})
		isFed(t, api.Image{}, map[int]int{port: 0})
	}
	isFed(t, api.Image{}, map[int]int{1: 0, 2: 0, top: 0})
	isFed(t, image(3, plain().Ports), map[int]int{1: 0, 2: 0, top: 0})
	for port := 1; port <= api.MaxPorts; port++ {
		isFed(t, fan(), map[int]int{port: min(1, port-1)})
		isFed(t, inwards(), map[int]int{port: api.MaxPorts + 1 - port})
	}
}

// TestParts (P18.4): the partitions at both ends; 0 for what is not there.
func TestParts(t *testing.T) {
	ports := []api.Port{queuingOut(2, 1), queuingIn(3, 1), queuingIn(1, 1), queuingIn(3, 1), queuingIn(2, 1), queuingOut(0, 1), queuingIn(-4, 1), queuingIn(77, 1), queuingIn(bottom, 1), queuingIn(top, 1)}
	for _, row := range []struct {
		c    api.Channel
		from int
		to   []int
	}{
		{queuing(0, 2, 1), 2, []int{0}},
		{queuing(0, 2, 1, 2), 2, []int{3}},
		{queuing(0, 2, 1, 2, 2), 2, []int{3}},
		{queuing(0, 2, 1, 2, 4), 2, []int{3}},
		{queuing(0, 2, 1, 2, 3), 2, []int{1, 3}},
		{queuing(0, 2, 1, 3, 2), 2, []int{1, 3}},
		{queuing(0, 2, 1, 2, 3, 4, 5), 2, []int{1, 2, 3}},
		{queuing(0, 2, 1, 5, 4, 3, 2, 5, 4), 2, []int{1, 2, 3}},
		{queuing(0, 2, 1, 1), 2, []int{2}},
		{queuing(0, 2, 0, 2), 0, []int{3}},
		{queuing(0, 2, 0), 0, []int{0}},
		{queuing(0, 2, 11, 2), 0, []int{3}},
		{queuing(0, 2, 10, 2), top, []int{3}},
		{queuing(0, 2, 9, 10), bottom, []int{top}},
		{queuing(0, 2, 6, 2), 0, []int{3}},
		{queuing(0, 2, 7, 2), -4, []int{3}},
		{queuing(0, 2, 8, 2), 77, []int{3}},
		{queuing(0, 2, -1, 2), 0, []int{3}},
		{queuing(0, 2, bottom, 2), 0, []int{3}},
		{queuing(0, 2, top, 2), 0, []int{3}},
		{queuing(0, 2, 1<<32+1, 2), 0, []int{3}},
		{queuing(0, 2, 1, 0), 2, []int{0}},
		{queuing(0, 2, 1, 11), 2, []int{0}},
		{queuing(0, 2, 1, 11, 99, -1), 2, []int{0}},
		{queuing(0, 2, 1, 2, 11), 2, []int{0, 3}},
		{queuing(0, 2, 1, bottom, 2, top, 3), 2, []int{0, 1, 3}},
		{queuing(0, 2, 1, 1<<32+2), 2, []int{0}},
		{queuing(0, 2, 1, 6), 2, []int{0}},
		{queuing(0, 2, 1, 6, 11, 6), 2, []int{0}},
		{queuing(0, 2, 1, 2, 7), 2, []int{-4, 3}},
		{queuing(0, 2, 1, 8, 7, 0, 2), 2, []int{-4, 0, 3, 77}},
		{queuing(0, 2, 1, 10, 9), 2, []int{bottom, top}},
		{api.Channel{Kind: 7, From: 1, To: []int{5, 3}, Phase: -1, Period: -1}, 2, []int{1, 2}},
		{sampling(3, 2, 1), 1, []int{2, 3}},
	} {
		// It is the same wherever the channel stands.
		partsAre(t, image(3, ports, row.c), 1, row.from, row.to...)
		partsAre(t, image(0, ports, sampling(0, 4), row.c, sampling(5, 5)), 2, row.from, row.to...)
		partsAre(t, image(3, ports, sampling(0, 4), queuing(0, 1, 4), row.c), 3, row.from, row.to...)
	}
	partsAre(t, image(2, nil, queuing(0, 1, 1, 1, 2)), 1, 0, 0)
	partsAre(t, fan(), 1, 5, 1, 2, 3, 4, 5, 6)
}

// TestPartsOfNone (P18.4): a channel that is not there is ErrArg.
func TestPartsOfNone(t *testing.T) {
	noParts(t, api.Image{}, bottom, -1, 0, 1, 2, top)
	noParts(t, image(3, plain().Ports), bottom, -1, 0, 1, 2, top)
	for n := range 5 {
		x := with(chapter(), slices.Repeat([]api.Channel{queuing(0, 2, 1, 2)}, n)...)
		noParts(t, x, bottom, bottom+1, -n-1, -n, -1, 0, n+1, n+2, 64, 65, 1<<32, 1<<32+1, top-1, top)
		for number := 1; number <= n; number++ {
			partsAre(t, x, number, 2, 3)
		}
	}
	noParts(t, crowd(), 0, api.MaxChannels+1)
	partsAre(t, crowd(), api.MaxChannels, 1, 0)
	many := with(chapter(), slices.Repeat([]api.Channel{queuing(0, 2, 1, 2)}, 200)...)
	noParts(t, many, 0, 201)
	partsAre(t, many, 200, 2, 3)
}

// TestOutletAndInlet (P18.5): a partition's channels, by the ports that are there.
func TestOutletAndInlet(t *testing.T) {
	ports := []api.Port{queuingOut(2, 1), queuingIn(3, 1), queuingIn(1, 1), queuingOut(3, 1), queuingIn(3, 1), queuingOut(2, 1), queuingIn(9, 1), queuingOut(9, 1)}
	x := image(3, ports,
		queuing(0, 2, 1, 2, 3),
		queuing(0, 2, 4, 5),
		sampling(0, 2),
		queuing(0, 2, 6),
		queuing(0, 2, 9, 3),
		queuing(0, 2, 1, 9),
		queuing(0, 2, 4, 2, 5, 2),
		api.Channel{Kind: 9, From: 6, To: []int{0, 1, -1}},
		queuing(0, 2, 8, 7),
		queuing(0, 2, top, bottom),
		queuing(0, 2, -1, 1<<32+3),
	)
	for part, want := range map[int][]int{1: nil, 2: {1, 4, 6, 8}, 3: {2, 7}, 4: nil, 9: {9}, 1<<32 + 2: nil, top: nil, 0: nil, -1: nil, -2: nil, bottom: nil} {
		lists(t, "Outlet", channel.Outlet(x, part), want...)
	}
	for part, want := range map[int][]int{1: {1, 5}, 2: {8}, 3: {1, 2, 3, 7}, 4: nil, 9: {9}, 1<<32 + 3: nil, top: nil, 0: nil, -1: nil, -3: nil, bottom: nil} {
		lists(t, "Inlet", channel.Inlet(x, part), want...)
	}
	for _, part := range []int{bottom, -1, 0, 1, 2, 3, top} {
		for what, x := range map[string]api.Image{"nothing": {}, "ports alone": image(3, ports), "channels without ports": image(3, nil, x.Channels...)} {
			lists(t, what, channel.Outlet(x, part))
			lists(t, what, channel.Inlet(x, part))
		}
	}
}

// TestPartsBelowOne (P18.5): below 1 there is no partition, even where a port says so.
func TestPartsBelowOne(t *testing.T) {
	for _, part := range []int{bottom, bottom + 1, -3, -1, 0} {
		x := image(3, []api.Port{queuingOut(part, 1), queuingIn(part, 1), queuingOut(1, 1)}, queuing(0, 2, 1, 2), queuing(0, 2, 3, 2), queuing(0, 2, 0), queuing(0, 2, 9, 9, 1, 2))
		lists(t, "Outlet", channel.Outlet(x, part))
		lists(t, "Inlet", channel.Inlet(x, part))
		lists(t, "Outlet(1)", channel.Outlet(x, 1), 2)
		lists(t, "Inlet(1)", channel.Inlet(x, 1))
		partsAre(t, x, 1, part, part)
	}
	// Above the number of partitions it goes by what the port says.
	for _, part := range []int{4, 33, 1 << 32, top} {
		x := image(3, []api.Port{queuingOut(part, 1), queuingIn(part, 1)}, queuing(0, 2, 1, 2), queuing(0, 2, 2, 1), queuing(0, 2, 1))
		lists(t, "Outlet", channel.Outlet(x, part), 1, 2, 3)
		lists(t, "Inlet", channel.Inlet(x, part), 1, 2)
		lists(t, "Outlet(3)", channel.Outlet(x, 3))
		lists(t, "Inlet(3)", channel.Inlet(x, 3))
	}
}

// TestOnlyEndsCount (P18.3, P18.5): of a port its Part alone is asked, of a channel its ends alone.
func TestOnlyEndsCount(t *testing.T) {
	for _, kind := range []int{bottom, -1, api.Sampling, api.Queuing, 2, top} {
		for _, out := range []bool{false, true} {
			for _, number := range []int{bottom, -1, 0, 1, top} {
				q := api.Port{Part: 2, Kind: kind, Out: out, Size: number, Depth: number, Refresh: number}
				x := api.Image{Ports: []api.Port{q, q}, Channels: []api.Channel{{Kind: kind, From: 1, To: []int{2}, Phase: number, Period: number}}}
				lists(t, "Outlet", channel.Outlet(x, 2), 1)
				lists(t, "Inlet", channel.Inlet(x, 2), 1)
				lists(t, "Outlet", channel.Outlet(x, 1))
				lists(t, "Inlet", channel.Inlet(x, 1))
				feeds(t, x, map[int]int{1: 1, 2: 0})
				isFed(t, x, map[int]int{1: 0, 2: 1})
				partsAre(t, x, 1, 2, 2)
			}
		}
	}
}
