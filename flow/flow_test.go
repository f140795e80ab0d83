package flow_test

import (
	"fmt"
	"slices"
	"strings"
	"testing"

	"bulkhead/api"
	"bulkhead/check"
	"bulkhead/flow"
)

// looks wants an image's Text to be these lines, and Direct, Reach and Sources to be what the letters say.
func looks(t *testing.T, what string, x api.Image, lines ...string) {
	t.Helper()
	text := ""
	for i, line := range lines {
		text += fmt.Sprintf("%d %s\n", i+1, line)
	}
	if got := flow.Text(x); got != text {
		t.Errorf("P24.6: %s: Text is\n%swant\n%s", what, got, text)
	}
	direct, reach := flow.Direct(x), flow.Reach(x)
	if len(direct) != len(lines) || len(reach) != len(lines) {
		t.Fatalf("%s: %d and %d rows, want %d", what, len(direct), len(reach), len(lines))
	}
	for i, line := range lines {
		if len(direct[i]) != len(lines) || len(reach[i]) != len(lines) {
			t.Fatalf("%s: row %d: %v, %v", what, i, direct[i], reach[i])
		}
		for j, letter := range line {
			if direct[i][j] != (letter == 'd') {
				t.Errorf("P24.1: %s: Direct at %d, %d: %v", what, i, j, direct[i][j])
			}
			if reach[i][j] != (letter != '.' || i == j) {
				t.Errorf("P24.2: %s: Reach at %d, %d: %v", what, i, j, reach[i][j])
			}
		}
	}
	for part := -1; part <= len(lines)+1; part++ {
		var want []int
		wantErr := api.ErrPart
		if part >= 1 && part <= len(lines) {
			wantErr = api.OK
			for i, line := range lines {
				if line[part-1] != '.' {
					want = append(want, i+1)
				}
			}
		}
		if got, err := flow.Sources(x, part); !slices.Equal(got, want) || err != wantErr {
			t.Errorf("P24.3: %s: Sources(%d) = %v, %d, want %v, %d", what, part, got, err, want, wantErr)
		}
	}
}

// lines are the lines of a table.
func lines(text string) []string { return strings.Fields(text) }

func TestP24_1_2_3_6_Examples(t *testing.T) {
	x := chapter()
	if got, want := flow.Direct(x), [][]bool{{false, true, false}, {false, false, true}, {false, false, false}}; !sameRows(got, want) {
		t.Errorf("P24.1: %v", got)
	}
	if got, want := flow.Reach(x), [][]bool{{true, true, true}, {false, true, true}, {false, false, true}}; !sameRows(got, want) {
		t.Errorf("P24.2: %v", got)
	}
	for part, want := range map[int][]int{1: {1}, 2: {1, 2}, 3: {1, 2, 3}} {
		if got, err := flow.Sources(x, part); !slices.Equal(got, want) || err != api.OK {
			t.Errorf("P24.3: Sources(%d) = %v, %d", part, got, err)
		}
	}
	for _, part := range []int{4, 0, -1, 5, top, bottom} {
		if got, err := flow.Sources(x, part); got != nil || err != api.ErrPart {
			t.Errorf("P24.3: Sources(%d) = %v, %d", part, got, err)
		}
	}
	if got := flow.Text(x); got != "1 =dr\n2 .=d\n3 ..=\n" {
		t.Errorf("P24.6: %q", got)
	}
	looks(t, "the chapter's", x, "=dr", ".=d", "..=")
}

func TestP24_1_2_3_6_NoPartitionsAndOne(t *testing.T) {
	some := ports(0, 1, -1)
	for what, x := range map[string]api.Image{
		"nothing":       {},
		"empty lists":   {Parts: []api.Part{}, Ports: []api.Port{}, Channels: []api.Channel{}},
		"ports alone":   image(0, some),
		"channels too":  image(0, some, road(1, 2, 3), road(2, 2), road(0, 1)),
		"no ports, too": image(0, nil, road(1, 1)),
	} {
		looks(t, what, x)
		if got := flow.Text(x); got != "" {
			t.Errorf("P24.6: %s: %q", what, got)
		}
	}
	looks(t, "one alone", image(1, nil), "=")
	looks(t, "one, not joined", image(1, ports(1, 1)), "=")
	looks(t, "one, to itself", image(1, ports(1, 1), road(1, 2)), "d")
	looks(t, "one, by one port", image(1, ports(1), road(1, 1)), "d")
	looks(t, "one, from outside", image(1, ports(1), road(0, 1)), "=")
	looks(t, "one, to the outside", image(1, ports(1), road(1)), "=")
	looks(t, "one, from outside to outside", image(1, ports(1), road(0)), "=")
}

// A port is there if its number is one of the ports' and its Part one of the partitions'.
func TestP24_1_PortsThatAreThere(t *testing.T) {
	for _, part := range []int{bottom, -2, -1, 0, 3, 4, 1 << 32, 1<<32 + 1, top} {
		what := fmt.Sprintf("a port of %d", part)
		x := image(2, ports(1, 2, part), road(3, 1, 2), road(1, 3), road(3, 3))
		looks(t, what, x, "=.", ".=")
		// The other ends of such a channel count as ever.
		x.Channels = append(x.Channels, road(2, 3, 1, 3))
		looks(t, what+" among others", x, "=.", "d=")
	}
	for _, port := range []int{bottom, -2, -1, 0, 3, 4, 1 << 32, 1<<32 + 1, top} {
		what := fmt.Sprintf("port %d of 2", port)
		looks(t, what+" as From", image(2, ports(1, 2), road(port, 1, 2)), "=.", ".=")
		looks(t, what+" as To", image(2, ports(1, 2), road(1, port), road(2, port, port)), "=.", ".=")
		looks(t, what+" among To", image(2, ports(1, 2), road(1, port, 2, port)), "=d", ".=")
	}
	// The last partition and the last port are there.
	looks(t, "the last ones", image(3, ports(9, 3, 1), road(2, 3), road(3, 2)), "=.d", ".=.", "d.=")
	looks(t, "the first one", image(3, ports(1, 3), road(1, 2)), "=.d", ".=.", "..=")
}

// A channel's other fields, and whether a port is out or in, count for nothing.
func TestP24_1_WhatCountsForNothing(t *testing.T) {
	for _, kind := range []int{api.Sampling, api.Queuing, -1, 7} {
		for _, period := range []int{0, -3, 1, top, bottom} {
			for _, out := range []bool{false, true} {
				x := each(3, road(1, 2), road(3, 1))
				for i := range x.Channels {
					x.Channels[i].Kind, x.Channels[i].Phase, x.Channels[i].Period = kind, period, period
				}
				for i := range x.Ports {
					x.Ports[i] = api.Port{Part: i + 1, Kind: 1 - kind, Out: out, Size: period, Depth: period, Refresh: period}
				}
				looks(t, fmt.Sprintf("kind %d, period %d, %v", kind, period, out), x, "=d.", ".=.", "dr=")
			}
		}
	}
}

func TestP24_1_2_3_6_Roads(t *testing.T) {
	for _, c := range []struct {
		what string
		x    api.Image
		want string
	}{
		{"three alone", each(3), "=.. .=. ..="},
		{"a To that is empty", each(3, road(1), road(2)), "=.. .=. ..="},
		{"a To that is empty, not nil", each(2, api.Channel{From: 1, To: []int{}}), "=. .="},
		{"a port twice", each(3, road(1, 2, 2)), "=d. .=. ..="},
		{"a channel twice", each(3, road(1, 2), road(1, 2)), "=d. .=. ..="},
		{"one to all, itself too", each(3, road(2, 3, 1, 2)), "=.. ddd ..="},
		{"to the own partition", each(3, road(2, 2)), "=.. .d. ..="},
		{"to the own one by another port", image(2, ports(2, 2), road(1, 2)), "=. .d"},
		{"there and back", each(2, road(1, 2), road(2, 1)), "=d d="},
		{"a ring of three", each(3, road(1, 2), road(2, 3), road(3, 1)), "=dr r=d dr="},
		{"a ring the other way", each(3, road(3, 2), road(2, 1), road(1, 3)), "=rd d=r rd="},
		{"a ring and a way in", each(4, road(1, 2), road(2, 3), road(3, 2)), "=dr. .=d. .d=. ...="},
		{"a ring and a way out", each(4, road(1, 2), road(2, 1), road(2, 3), road(3, 4)), "=drr d=dr ..=d ...="},
		{"two rings", each(4, road(1, 2), road(2, 1), road(3, 4), road(4, 3)), "=d.. d=.. ..=d ..d="},
		{"two rings, joined", each(4, road(1, 2), road(2, 1), road(3, 4), road(4, 3), road(2, 3)), "=drr d=dr ..=d ..d="},
		{"a ring with a loop", each(2, road(1, 2, 1), road(2, 1)), "dd d="},
		{"a chain", each(4, road(1, 2), road(2, 3), road(3, 4)), "=drr .=dr ..=d ...="},
		{"a chain backwards", each(4, road(4, 3), road(3, 2), road(2, 1)), "=... d=.. rd=. rrd="},
		{"a chain, channels in another order", each(4, road(3, 4), road(1, 2), road(2, 3)), "=drr .=dr ..=d ...="},
		{"two ways to one", each(4, road(1, 2), road(1, 3), road(2, 4), road(3, 4)), "=ddr .=.d ..=d ...="},
		{"two ways, one of them short", each(3, road(1, 2), road(2, 3), road(1, 3)), "=dd .=d ..="},
		{"two into one", each(3, road(1, 3), road(2, 3)), "=.d .=d ..="},
		{"one into two", each(3, road(3, 1, 2)), "=.. .=. dd="},
		{"from outside, both", each(2, road(0, 1, 2)), "=. .="},
		{"past the outside there is no path", each(2, road(1), road(0, 2)), "=. .="},
		{"one channel from each port", image(2, ports(1, 1, 2, 2), road(2, 3), road(4, 1)), "=d d="},
		{"a port that is in and out", image(3, ports(1, 2, 3), road(1, 2), road(2, 3)), "=dr .=d ..="},
		{"two ports of one partition join its ways", image(3, ports(1, 2, 2, 3), road(3, 4), road(1, 2)), "=dr .=d ..="},
	} {
		looks(t, c.what, c.x, lines(c.want)...)
		reads(t, c.what, c.x)
	}
}

// chain is partitions in a row, each with a channel to the next.
func chain(n int) api.Image {
	x := each(n)
	for i := 1; i < n; i++ {
		x.Channels = append(x.Channels, road(i, i+1))
	}
	return x
}

// As many partitions as may be, and more.
func TestP24_1_2_3_6_Many(t *testing.T) {
	for _, n := range []int{9, 10, 11, api.MaxParts - 1, api.MaxParts, api.MaxParts + 1, 99, 100, 101, 300} {
		row := func(i int) string {
			s := strings.Repeat(".", i) + "="
			if i+1 < n {
				s += "d" + strings.Repeat("r", n-i-2)
			}
			return s
		}
		var open, closed []string
		for i := range n {
			open = append(open, row(i))
			line := []byte(strings.Repeat("r", n))
			line[i], line[(i+1)%n] = '=', 'd'
			closed = append(closed, string(line))
		}
		x := chain(n)
		looks(t, fmt.Sprintf("a chain of %d", n), x, open...)
		slices.Reverse(x.Channels)
		looks(t, fmt.Sprintf("a chain of %d, from behind", n), x, open...)
		x.Channels = append(x.Channels, road(n, 1))
		looks(t, fmt.Sprintf("a ring of %d", n), x, closed...)
		// One channel to all.
		all := make([]int, n)
		for i := range all {
			all[i] = n - i
		}
		var star []string
		for i := range n {
			star = append(star, strings.Repeat(".", i)+"="+strings.Repeat(".", n-i-1))
		}
		star[n-1] = strings.Repeat("d", n)
		looks(t, fmt.Sprintf("one to %d", n), each(n, road(n, all...)), star...)
	}
}

// A chain so long that every step taken by a call of its own would fill what memory there is; the last one's sources are all.
func TestP24_3_LongChain(t *testing.T) {
	const n = 200000
	x := chain(n)
	list, err := flow.Sources(x, n)
	if len(list) != n || err != api.OK || list[0] != 1 || list[n-1] != n || !slices.IsSorted(list) {
		t.Errorf("%d sources, %d", len(list), err)
	}
	if list, err := flow.Sources(x, 1); !slices.Equal(list, []int{1}) || err != api.OK {
		t.Errorf("%v, %d", list, err)
	}
	if list, err := flow.Sources(x, n+1); list != nil || err != api.ErrPart {
		t.Errorf("%v, %d", list, err)
	}
	same := copyOf(x)
	if is, err := flow.Alike(x, same, n); !is || err != api.OK {
		t.Errorf("P24.4: %v, %d", is, err)
	}
	same.Parts[0].Words++
	if is, err := flow.Alike(x, same, n); is || err != api.OK {
		t.Errorf("P24.4: %v, %d", is, err)
	}
	in := []api.Input{{Kind: api.InputWake, Target: 1}}
	if is, err := flow.AlikeInputs(x, in, nil, n); is || err != api.OK {
		t.Errorf("P24.5: %v, %d", is, err)
	}
}

// Images that check.Check takes are told as others are.
func TestP24_ImagesThatMayBeBooted(t *testing.T) {
	x := bootable()
	if err, number := check.Check(x); err != api.OK {
		t.Fatalf("%d, %d", err, number)
	}
	looks(t, "bootable", x, "=dr..", ".=d..", "..d..", "..d=.", "....=")
	reads(t, "bootable", x)
	// And the same when it may not be.
	x.Parts[0].Server.Period = 0
	if err, _ := check.Check(x); err == api.OK {
		t.Fatal("it may be")
	}
	looks(t, "not bootable", x, "=dr..", ".=d..", "..d..", "..d=.", "....=")
}

// bootable is an image that check.Check takes: 1 to 2 by a queue, 2 to 3 by a sample, 3 to itself, 4 to 3; 5 has to do with the outside alone.
func bootable() api.Image {
	x := api.Image{
		Ports: []api.Port{
			{Part: 1, Kind: api.Queuing, Out: true, Size: 1, Depth: 2}, {Part: 2, Kind: api.Queuing, Size: 1, Depth: 1},
			{Part: 2, Kind: api.Sampling, Out: true, Size: 2}, {Part: 3, Kind: api.Sampling, Size: 2, Refresh: 5},
			{Part: 3, Kind: api.Queuing, Out: true, Size: 1, Depth: 1}, {Part: 3, Kind: api.Queuing, Size: 1, Depth: 1},
			{Part: 4, Kind: api.Queuing, Out: true, Size: 3, Depth: 1}, {Part: 3, Kind: api.Queuing, Size: 3, Depth: 1},
			{Part: 5, Kind: api.Queuing, Size: 1, Depth: 1}, {Part: 5, Kind: api.Sampling, Out: true, Size: 1},
			{Part: 2, Kind: api.Sampling, Size: 1}, {Part: 4, Kind: api.Queuing, Size: 2, Depth: 2},
		},
		Channels: []api.Channel{
			{Kind: api.Queuing, From: 1, To: []int{2}, Phase: 1, Period: 4}, {Kind: api.Sampling, From: 3, To: []int{4}},
			{Kind: api.Queuing, From: 5, To: []int{6}, Period: 3}, {Kind: api.Queuing, From: 7, To: []int{8}, Period: 9, Phase: 2},
			{Kind: api.Queuing, To: []int{9}}, {Kind: api.Sampling, From: 10}, {Kind: api.Sampling, To: []int{11}}, {Kind: api.Queuing, To: []int{12}},
		},
	}
	for i := range 5 {
		x.Parts = append(x.Parts, api.Part{
			Server: api.Server{Period: 10, Budget: 2, Offset: i, Priority: 9 - i},
			Words:  4, Fixed: 1, Init: []int64{7, int64(i)}, Code: []api.Instr{{Op: 1}, {Op: 2, A: 3, Imm: 4}, {Op: 22}},
			Procs:   []api.Proc{{Priority: 1, Auto: true}, {Entry: 1, Priority: 2, Period: 20, Limit: 10, Capacity: 3}, {Entry: 2}},
			Handler: 3, Health: [api.Faults]int{0, 1, 2, 3, 4, 5, 0, 2},
			Sems: []api.Sem{{Start: 1, Max: 2}, {Max: 1}}, Events: []bool{true, false}, Buffers: []api.Buffer{{Size: 1, Depth: 2}, {Size: 2, Depth: 1}},
		})
	}
	return x
}
