package check_test

import (
	"math"
	"math/rand/v2"
	"reflect"
	"slices"
	"strconv"
	"testing"

	"bulkhead/api"
	"bulkhead/check"
)

const (
	top    = math.MaxInt
	bottom = math.MinInt
)

func server(period, budget, offset, priority int) api.Server {
	return api.Server{Period: period, Budget: budget, Offset: offset, Priority: priority}
}

// part is a partition that may be, with three and more of all that it has.
func part(period, priority int) api.Part {
	return api.Part{
		Server:  api.Server{Period: period, Budget: 2, Offset: 1, Priority: priority},
		Words:   8,
		Fixed:   2,
		Init:    []int64{1, 2, 3},
		Code:    make([]api.Instr, 3),
		Procs:   []api.Proc{{Entry: 2, Priority: 1, Period: 5, Limit: 5, Auto: true}, {}, {Entry: 1, Priority: 255, Limit: 9, Capacity: 7}},
		Handler: 2,
		Health:  [api.Faults]int{0, 1, 2, 3, 4, 5, 0, 1},
		Sems:    []api.Sem{{Start: 0, Max: 1}, {Start: 2, Max: 2}, {Start: 1, Max: api.MaxSem}},
		Events:  []bool{true, false, true},
		Buffers: []api.Buffer{{Size: 1, Depth: 1}, {Size: 16, Depth: 64}, {Size: 2, Depth: 3}},
	}
}

// sound is an image that may be: five partitions; channels of both kinds from port to ports, from outside, to outside; the last three ports are joined by none.
func sound() api.Image {
	return api.Image{
		Parts: []api.Part{part(10, 10), part(20, 255), part(5, 30), part(4, 0), part(40, 50)},
		Ports: []api.Port{
			{Part: 1, Kind: api.Queuing, Out: true, Size: 2, Depth: 1},
			{Part: 2, Kind: api.Queuing, Size: 2, Depth: 64},
			{Part: 3, Kind: api.Queuing, Size: 2, Depth: 3},
			{Part: 2, Kind: api.Queuing, Out: true, Size: 1, Depth: 9},
			{Part: 1, Kind: api.Queuing, Size: 1, Depth: 4},
			{Part: 4, Kind: api.Queuing, Size: 3, Depth: 1},
			{Part: 5, Kind: api.Queuing, Size: 3, Depth: 2},
			{Part: 1, Kind: api.Sampling, Out: true, Size: 2},
			{Part: 2, Kind: api.Sampling, Size: 2, Refresh: 7},
			{Part: 5, Kind: api.Sampling, Size: 2},
			{Part: 3, Kind: api.Sampling, Size: 16, Refresh: 1},
			{Part: 5, Kind: api.Sampling, Out: true, Size: 1},
			{Part: 3, Kind: api.Queuing, Out: true, Size: 4, Depth: 5},
			{Part: 4, Kind: api.Queuing, Size: 2, Depth: 2},
			{Part: 4, Kind: api.Sampling, Out: true, Size: 2},
			{Part: 4, Kind: api.Sampling, Size: 2, Refresh: 2},
		},
		Channels: []api.Channel{
			{Kind: api.Queuing, From: 1, To: []int{2, 3}, Phase: 1, Period: 4},
			{Kind: api.Queuing, From: 4, To: []int{5}, Phase: 0, Period: 7},
			{Kind: api.Queuing, To: []int{6, 7}},
			{Kind: api.Sampling, From: 8, To: []int{9, 10}},
			{Kind: api.Sampling, To: []int{11}},
			{Kind: api.Sampling, From: 12},
			{Kind: api.Queuing, From: 13, Phase: 2, Period: 3},
		},
	}
}

// wantCheck holds Check's answer against what is wanted, and that against the second reading.
func wantCheck(t *testing.T, what string, x api.Image, err api.Errno, number int) {
	t.Helper()
	if e, n := readCheck(x); e != err || n != number {
		t.Fatalf("%s: the second reading says %d, %d, want %d, %d", what, e, n, err, number)
	}
	if e, n := check.Check(x); e != err || n != number {
		t.Errorf("Check of %s: %d, %d, want %d, %d", what, e, n, err, number)
	}
}

func wantServers(t *testing.T, what string, list []api.Server, err api.Errno, number int) {
	t.Helper()
	if e, n := check.Servers(list); e != err || n != number {
		t.Errorf("Servers of %s: %d, %d, want %d, %d", what, e, n, err, number)
	}
}

func wantHyper(t *testing.T, what string, list []api.Server, hyper int, err api.Errno) {
	t.Helper()
	if h, e := readHyper(list); h != hyper || e != err {
		t.Fatalf("%s: the second reading says %d, %d, want %d, %d", what, h, e, hyper, err)
	}
	if h, e := check.Hyper(list); h != hyper || e != err {
		t.Errorf("Hyper of %s: %d, %d, want %d, %d", what, h, e, hyper, err)
	}
}

func wantScript(t *testing.T, what string, x api.Image, inputs []api.Input, err api.Errno, place int) {
	t.Helper()
	if e, n := readScript(x, inputs); e != err || n != place {
		t.Fatalf("%s: the second reading says %d, %d, want %d, %d", what, e, n, err, place)
	}
	if e, n := check.Script(x, inputs); e != err || n != place {
		t.Errorf("Script of %s: %d, %d, want %d, %d", what, e, n, err, place)
	}
}

func TestExamples(t *testing.T) {
	wantServers(t, "none", nil, api.OK, 0)
	wantHyper(t, "none", []api.Server{}, 1, api.OK)
	two := []api.Server{server(10, 3, 9, 5), server(15, 15, 0, 4)}
	wantServers(t, "two", two, api.OK, 0)
	wantHyper(t, "two", two, 30, api.OK)
	for what, s := range map[string]api.Server{"Period 0": server(0, 1, 0, 1), "Budget 11": server(10, 11, 0, 1), "Offset 10": server(10, 1, 10, 1), "Priority 256": server(10, 1, 0, 256), "a priority again": server(10, 1, 0, 5)} {
		wantServers(t, what, []api.Server{two[0], s}, api.ErrServer, 2)
		wantHyper(t, what, []api.Server{two[0], s}, 0, api.ErrServer)
	}
	far := []api.Server{server(1048576, 1, 0, 1), server(3, 1, 0, 2)}
	wantHyper(t, "periods far apart", far, 0, api.ErrHyper)
	wantServers(t, "periods far apart", far, api.OK, 0)
	wantHyper(t, "2097154 releases", []api.Server{server(1048576, 1, 0, 1), server(1, 1, 0, 2)}, 0, api.ErrTable)
	wantHyper(t, "65538 releases", []api.Server{server(32768, 1, 0, 1), server(1, 1, 0, 2)}, 0, api.ErrTable)
	wantHyper(t, "65536 releases", []api.Server{server(32767, 1, 0, 1), server(1, 1, 0, 2)}, 32767, api.OK)
	wantCheck(t, "nothing", api.Image{}, api.OK, 0)
	x := sound()
	wantCheck(t, "the sound image", x, api.OK, 0)
	x.Parts = []api.Part{part(10, 1)}
	x.Ports, x.Channels = nil, nil
	x.Parts[0].Procs = nil
	wantCheck(t, "no processes", x, api.ErrCount, 1)
	x.Parts[0] = part(10, 1)
	x.Parts[0].Code = nil
	wantCheck(t, "no code", x, api.ErrCode, 1)
	for what, c := range map[string]api.Channel{"nowhere to nowhere": {Kind: api.Queuing}, "from an in port": {Kind: api.Queuing, From: 2, Period: 1}, "Phase = Period": {Kind: api.Queuing, From: 13, Phase: 3, Period: 3}} {
		x = sound()
		x.Channels[6] = c
		wantCheck(t, what, x, api.ErrChannel, 7)
	}
	x = sound()
	wantScript(t, "falling ticks", x, []api.Input{wake(5, 1), wake(4, 1)}, api.ErrScript, 1)
	wantScript(t, "two words for three", x, []api.Input{{Kind: api.InputMessage, Target: 3, Data: make([]int64, 2)}}, api.ErrScript, 0)
	wantScript(t, "Wake and data", x, []api.Input{{Kind: api.InputWake, Target: 1, Data: []int64{1}}}, api.ErrScript, 0)
}

// span is a rule that a number is one of least to most.
type span struct {
	what        string
	err         api.Errno
	least, most int
	set         func(x *api.Image, at, v int)
}

// partSpans are those of a partition; at is its place.
func partSpans() []span {
	list := []span{
		{"Words", api.ErrCount, 0, 4096, func(x *api.Image, at, v int) { p := &x.Parts[at]; p.Words, p.Fixed, p.Init = v, 0, nil }},
		{"Fixed of two words", api.ErrMemory, 0, 2, func(x *api.Image, at, v int) { p := &x.Parts[at]; p.Words, p.Fixed, p.Init = 2, v, nil }},
		{"Fixed", api.ErrMemory, 0, 8, func(x *api.Image, at, v int) { x.Parts[at].Fixed = v }},
		{"Budget", api.ErrServer, 1, 4, func(x *api.Image, at, v int) { s := &x.Parts[at].Server; s.Period, s.Budget = 4, v }},
		{"Offset", api.ErrServer, 0, 3, func(x *api.Image, at, v int) { s := &x.Parts[at].Server; s.Period, s.Offset = 4, v }},
		{"Health[0]", api.ErrHealth, 0, 0, func(x *api.Image, at, v int) { x.Parts[at].Health[0] = v }},
		{"Handler", api.ErrHealth, 0, 3, func(x *api.Image, at, v int) {
			x.Parts[at].Procs = make([]api.Proc, 3)
			x.Parts[at].Handler = v
		}},
	}
	for kind := 1; kind < api.Faults; kind++ {
		list = append(list, span{"Health", api.ErrHealth, 0, 5, func(x *api.Image, at, v int) { x.Parts[at].Health[kind] = v }})
	}
	for i := range 3 {
		proc := func(set func(q *api.Proc, v int)) func(x *api.Image, at, v int) {
			return func(x *api.Image, at, v int) {
				x.Parts[at].Handler = 0
				set(&x.Parts[at].Procs[i], v)
			}
		}
		list = append(list,
			span{"Entry", api.ErrProc, 0, 2, proc(func(q *api.Proc, v int) { q.Entry = v })},
			span{"Priority of a process", api.ErrProc, 0, 255, proc(func(q *api.Proc, v int) { q.Priority = v })},
			span{"Period of a process", api.ErrProc, 0, 1<<40 - 1, proc(func(q *api.Proc, v int) { q.Period, q.Limit = v, 0 })},
			span{"Limit without a Period", api.ErrProc, 0, 1<<40 - 1, proc(func(q *api.Proc, v int) { q.Period, q.Limit = 0, v })},
			span{"Limit with a Period", api.ErrProc, 0, 9, proc(func(q *api.Proc, v int) { q.Period, q.Limit = 9, v })},
			span{"Limit with the greatest Period", api.ErrProc, 0, 1<<40 - 1, proc(func(q *api.Proc, v int) { q.Period, q.Limit = 1<<40-1, v })},
			span{"Capacity", api.ErrProc, 0, 1<<31 - 1, proc(func(q *api.Proc, v int) { q.Capacity = v })},
			span{"Max", api.ErrObject, 1, 1<<31 - 1, func(x *api.Image, at, v int) { x.Parts[at].Sems[i] = api.Sem{Max: v} }},
			span{"Start", api.ErrObject, 0, 5, func(x *api.Image, at, v int) { x.Parts[at].Sems[i] = api.Sem{Start: v, Max: 5} }},
			span{"Start of the greatest Max", api.ErrObject, 0, 1<<31 - 1, func(x *api.Image, at, v int) { x.Parts[at].Sems[i] = api.Sem{Start: v, Max: 1<<31 - 1} }},
			span{"Size of a buffer", api.ErrObject, 1, 16, func(x *api.Image, at, v int) { x.Parts[at].Buffers[i].Size = v }},
			span{"Depth of a buffer", api.ErrObject, 1, 64, func(x *api.Image, at, v int) { x.Parts[at].Buffers[i].Depth = v }},
		)
	}
	return list
}

// countSpans are the rules of a partition's lists; no list is shorter than 0.
func countSpans() []span {
	return []span{
		{"Init", api.ErrMemory, 0, 8, func(x *api.Image, at, v int) { x.Parts[at].Init = make([]int64, v) }},
		{"Init of the greatest memory", api.ErrMemory, 0, 4096, func(x *api.Image, at, v int) { x.Parts[at].Words, x.Parts[at].Init = 4096, make([]int64, v) }},
		{"code", api.ErrCount, 3, 1024, func(x *api.Image, at, v int) { x.Parts[at].Code = make([]api.Instr, v) }},
		{"processes", api.ErrCount, 1, 16, func(x *api.Image, at, v int) { x.Parts[at].Handler, x.Parts[at].Procs = 0, make([]api.Proc, v) }},
		{"semaphores", api.ErrCount, 0, 8, func(x *api.Image, at, v int) {
			x.Parts[at].Sems = nil
			for range v {
				x.Parts[at].Sems = append(x.Parts[at].Sems, api.Sem{Max: 1})
			}
		}},
		{"events", api.ErrCount, 0, 8, func(x *api.Image, at, v int) { x.Parts[at].Events = make([]bool, v) }},
		{"buffers", api.ErrCount, 0, 8, func(x *api.Image, at, v int) {
			x.Parts[at].Buffers = nil
			for range v {
				x.Parts[at].Buffers = append(x.Parts[at].Buffers, api.Buffer{Size: 1, Depth: 1})
			}
		}},
	}
}

// spread tries a span at these places: least and most may be; one beyond, and both ends of int, may not.
func spread(t *testing.T, s span, places []int) {
	t.Helper()
	for _, at := range places {
		for _, v := range []int{s.least, s.most} {
			x := sound()
			s.set(&x, at, v)
			wantCheck(t, s.what+" "+strconv.Itoa(v), x, api.OK, 0)
		}
		for _, v := range []int{s.least - 1, s.most + 1, bottom, top} {
			x := sound()
			s.set(&x, at, v)
			wantCheck(t, s.what+" "+strconv.Itoa(v), x, s.err, at+1)
		}
	}
}

func TestP10_3_partitions(t *testing.T) {
	for _, s := range partSpans() {
		spread(t, s, []int{0, 1, 2, 4})
	}
	for _, s := range countSpans() {
		for _, at := range []int{0, 2, 4} {
			for _, v := range []int{s.least, s.most} {
				x := sound()
				s.set(&x, at, v)
				wantCheck(t, s.what+" "+strconv.Itoa(v), x, api.OK, 0)
			}
			x := sound()
			s.set(&x, at, s.most+1)
			wantCheck(t, s.what+", one more", x, s.err, at+1)
		}
	}
	for _, at := range []int{0, 2, 4} {
		x := sound()
		x.Parts[at].Procs = []api.Proc{}
		wantCheck(t, "no process", x, api.ErrCount, at+1)
		x = sound()
		x.Parts[at].Code = []api.Instr{}
		wantCheck(t, "no code", x, api.ErrCode, at+1)
		x = sound()
		x.Parts[at].Code = []api.Instr{{Op: 255, A: 255, B: 255, C: 255, Imm: -1}}
		x.Parts[at].Procs = make([]api.Proc, 2)
		wantCheck(t, "code that is none", x, api.OK, 0)
		x.Parts[at].Procs[1].Entry = 1
		wantCheck(t, "Entry behind the code", x, api.ErrProc, at+1)
		x = sound()
		x.Parts[at].Words, x.Parts[at].Fixed, x.Parts[at].Init = 0, 0, nil
		wantCheck(t, "no memory", x, api.OK, 0)
		x.Parts[at].Init = []int64{0}
		wantCheck(t, "a word of no memory", x, api.ErrMemory, at+1)
		x.Parts[at].Fixed, x.Parts[at].Init = 1, nil
		wantCheck(t, "a fixed word of no memory", x, api.ErrMemory, at+1)
	}
}

func TestP10_3_handlers(t *testing.T) {
	for _, c := range []struct {
		what string
		proc api.Proc
		ok   bool
	}{
		{"nothing of its own", api.Proc{}, true},
		{"entry, priority, capacity", api.Proc{Entry: 2, Priority: 255, Capacity: 9}, true},
		{"a Period", api.Proc{Period: 1}, false},
		{"a Limit", api.Proc{Limit: 1}, false},
		{"Auto", api.Proc{Auto: true}, false},
		{"all of them", api.Proc{Period: 2, Limit: 1, Auto: true}, false},
	} {
		for _, at := range []int{0, 2, 4} {
			for handler := 1; handler <= 3; handler++ {
				x := sound()
				p := &x.Parts[at]
				p.Procs = []api.Proc{{Period: 3, Auto: true}, {Limit: 2}, {Auto: true}}
				p.Procs[handler-1] = c.proc
				p.Handler = 0
				wantCheck(t, "no handler", x, api.OK, 0)
				p.Handler = handler
				if c.ok {
					wantCheck(t, "a handler with "+c.what, x, api.OK, 0)
				} else {
					wantCheck(t, "a handler with "+c.what, x, api.ErrHealth, at+1)
				}
			}
		}
	}
	x := sound()
	for p := range x.Parts {
		x.Parts[p].Health = [api.Faults]int{0, 3, 3, 3, 3, 3, 3, 3}
		x.Parts[p].Handler = 0
	}
	wantCheck(t, "ActHandler without a handler", x, api.OK, 0)
}

func TestP10_3_ports(t *testing.T) {
	port := func(q api.Port, change func(q *api.Port, v int)) func(x *api.Image, at, v int) {
		return func(x *api.Image, at, v int) {
			x.Channels = nil
			for i := range x.Ports {
				x.Ports[i].Part = 1 + i%5
			}
			change(&q, v)
			x.Ports[at] = q
		}
	}
	inQueue := api.Port{Part: 2, Kind: api.Queuing, Size: 3, Depth: 4}
	outQueue := api.Port{Part: 2, Kind: api.Queuing, Out: true, Size: 3, Depth: 4}
	inSample := api.Port{Part: 2, Kind: api.Sampling, Size: 3, Refresh: 4}
	outSample := api.Port{Part: 2, Kind: api.Sampling, Out: true, Size: 3}
	places := []int{0, 7, 15}
	for _, q := range []api.Port{inQueue, outQueue, inSample, outSample} {
		spread(t, span{"Part of a port", api.ErrPort, 1, 5, port(q, func(q *api.Port, v int) { q.Part = v })}, places)
		spread(t, span{"Size of a port", api.ErrPort, 1, 16, port(q, func(q *api.Port, v int) { q.Size = v })}, places)
		depths, refreshes := span{"Depth of a sample", api.ErrPort, 0, 0, nil}, span{"Refresh", api.ErrPort, 0, 0, nil}
		if q.Kind == api.Queuing {
			depths.least, depths.most = 1, 64
		} else if !q.Out {
			refreshes.most = 1<<40 - 1
		}
		depths.set = port(q, func(q *api.Port, v int) { q.Depth = v })
		refreshes.set = port(q, func(q *api.Port, v int) { q.Refresh = v })
		spread(t, depths, places)
		spread(t, refreshes, places)
		q.Depth, q.Refresh = 0, 0
		spread(t, span{"Kind of a port", api.ErrPort, 0, 1, port(q, func(q *api.Port, v int) {
			q.Kind, q.Depth = v, 0
			if v == api.Queuing {
				q.Depth = 1
			}
		})}, places)
	}
	x := sound()
	x.Parts, x.Channels = nil, nil
	wantCheck(t, "ports of nobody", x, api.ErrPort, 1)
}

func TestP10_3_counts(t *testing.T) {
	x := api.Image{}
	for i := range 32 {
		p := part(4, i)
		x.Parts = append(x.Parts, p)
	}
	for range 32 {
		x.Ports = append(x.Ports, api.Port{Part: 32, Kind: api.Queuing, Out: true, Size: 1, Depth: 1}, api.Port{Part: 1, Kind: api.Queuing, Size: 1, Depth: 1})
	}
	for i := range 32 {
		x.Channels = append(x.Channels, api.Channel{Kind: api.Queuing, From: 2*i + 1, Phase: api.MaxPeriod - 1, Period: api.MaxPeriod}, api.Channel{Kind: api.Queuing, To: []int{2*i + 2}})
	}
	wantCheck(t, "as many as may be", x, api.OK, 0)
	for _, c := range []struct {
		what string
		more func(y *api.Image)
	}{
		{"33 partitions", func(y *api.Image) { y.Parts = append(y.Parts, part(4, 32)) }},
		{"65 ports", func(y *api.Image) { y.Ports = append(y.Ports, y.Ports[0]) }},
		{"65 channels", func(y *api.Image) { y.Channels = append(y.Channels, api.Channel{}) }},
		{"all of them", func(y *api.Image) {
			y.Parts, y.Ports, y.Channels = make([]api.Part, 33), make([]api.Port, 65), make([]api.Channel, 65)
		}},
		{"very many", func(y *api.Image) {
			y.Parts, y.Ports, y.Channels = make([]api.Part, 5000), make([]api.Port, 5000), make([]api.Channel, 5000)
		}},
	} {
		y := copied(x)
		c.more(&y)
		wantCheck(t, c.what, y, api.ErrCount, 0)
		y.Parts[0].Words = -1
		wantCheck(t, c.what+" and Words -1", y, api.ErrCount, 0)
	}
	x.Parts[31].Words = -1
	wantCheck(t, "the last partition's Words", x, api.ErrCount, 32)
}

func TestP10_3_servers(t *testing.T) {
	for _, at := range []int{0, 2, 4} {
		for what, s := range map[string]api.Server{
			"Period 0": server(0, 1, 0, 7), "a Period too great": server(1<<20+1, 1, 0, 7), "Budget 0": server(4, 0, 0, 7), "Budget 5 of 4": server(4, 5, 0, 7), "Offset -1": server(4, 1, -1, 7), "Offset 4 of 4": server(4, 1, 4, 7), "Priority -1": server(4, 1, 0, -1), "Priority 256": server(4, 1, 0, 256), "the least numbers": server(bottom, bottom, bottom, bottom), "the greatest numbers": server(top, top, top, top),
		} {
			x := sound()
			x.Parts[at].Server = s
			wantCheck(t, what, x, api.ErrServer, at+1)
			x.Parts[0].Fixed, x.Ports[0].Size, x.Channels[0].Kind = -1, 0, 2
			wantCheck(t, what+" and later errors", x, api.ErrServer, at+1)
		}
	}
	x := sound()
	x.Parts[4].Server.Priority = x.Parts[1].Server.Priority
	wantCheck(t, "a priority twice", x, api.ErrServer, 5)
	x = sound()
	x.Parts[1].Server = api.Server{Period: 1 << 20, Budget: 1, Offset: 0, Priority: 7}
	wantCheck(t, "periods without a hyperperiod", x, api.ErrHyper, 0)
	x = sound()
	for i := range x.Parts {
		x.Parts[i].Server = api.Server{Period: 1 << 16 >> i, Budget: 1, Priority: i}
	}
	wantCheck(t, "62 releases", x, api.OK, 0)
	x.Parts[2].Server.Period = 2
	wantCheck(t, "too many releases", x, api.ErrTable, 0)
}

func TestP10_3_channels(t *testing.T) {
	for _, c := range []struct {
		what string
		at   int
		do   func(c *api.Channel)
		ok   bool
	}{
		{"Kind 2", 0, func(c *api.Channel) { c.Kind = 2 }, false},
		{"Kind -1", 3, func(c *api.Channel) { c.Kind = -1 }, false},
		{"the least Kind", 6, func(c *api.Channel) { c.Kind = bottom }, false},
		{"the greatest Kind", 6, func(c *api.Channel) { c.Kind = top }, false},
		{"a sampling channel of queues", 0, func(c *api.Channel) { c.Kind, c.Phase, c.Period = api.Sampling, 0, 0 }, false},
		{"a queuing channel of samples", 3, func(c *api.Channel) { c.Kind, c.Period = api.Queuing, 1 }, false},
		{"from a sample", 0, func(c *api.Channel) { c.From = 15 }, false},
		{"from a queue", 3, func(c *api.Channel) { c.From = 1 }, false},
		{"from an in port", 0, func(c *api.Channel) { c.From, c.To = 14, nil }, false},
		{"from -1", 6, func(c *api.Channel) { c.From = -1 }, false},
		{"from port 17 of 16", 6, func(c *api.Channel) { c.From = 17 }, false},
		{"from the least number", 0, func(c *api.Channel) { c.From = bottom }, false},
		{"from the greatest number", 0, func(c *api.Channel) { c.From = top }, false},
		{"from one that a channel ahead has", 6, func(c *api.Channel) { c.From = 1 }, false},
		{"from one that a sampling channel ahead has", 5, func(c *api.Channel) { c.From = 8 }, false},
		{"from one that none has", 5, func(c *api.Channel) { c.From = 15 }, true},
		{"to an out port", 0, func(c *api.Channel) { c.To = []int{13} }, false},
		{"to its own From", 0, func(c *api.Channel) { c.To = []int{1} }, false},
		{"to a sample", 0, func(c *api.Channel) { c.To = []int{2, 3, 16} }, false},
		{"to a queue", 3, func(c *api.Channel) { c.To = []int{9, 10, 14} }, false},
		{"to 0", 0, func(c *api.Channel) { c.To = []int{0, 2, 3} }, false},
		{"to 0 alone", 4, func(c *api.Channel) { c.To = []int{0} }, false},
		{"to -1", 4, func(c *api.Channel) { c.To = []int{-1, 11} }, false},
		{"to port 17 of 16", 4, func(c *api.Channel) { c.To = []int{11, 17} }, false},
		{"to the least number", 4, func(c *api.Channel) { c.To = []int{bottom} }, false},
		{"to the greatest number", 4, func(c *api.Channel) { c.To = []int{11, top} }, false},
		{"to falling ones", 0, func(c *api.Channel) { c.To = []int{3, 2} }, false},
		{"to falling ones at the end", 3, func(c *api.Channel) { c.To = []int{9, 16, 10} }, false},
		{"to one twice", 0, func(c *api.Channel) { c.To = []int{2, 2, 3} }, false},
		{"to one twice at the end", 0, func(c *api.Channel) { c.To = []int{2, 3, 3} }, false},
		{"to one more", 0, func(c *api.Channel) { c.To = []int{2, 3, 14} }, true},
		{"to another one", 3, func(c *api.Channel) { c.To = []int{16} }, true},
		{"to one that the first channel has", 6, func(c *api.Channel) { c.From, c.To, c.Phase, c.Period = 0, []int{3}, 0, 0 }, false},
		{"to one that a sampling channel has", 4, func(c *api.Channel) { c.To = []int{10, 11} }, false},
		{"to one of another Size", 1, func(c *api.Channel) { c.To = []int{5, 14} }, false},
		{"From of another Size", 1, func(c *api.Channel) { c.To = []int{14} }, false},
		{"To of two Sizes from outside", 4, func(c *api.Channel) { c.To = []int{11, 16} }, false},
		{"to the outside", 0, func(c *api.Channel) { c.To = []int{} }, true},
		{"samples to the outside", 3, func(c *api.Channel) { c.To = nil }, true},
		{"nowhere to nowhere", 2, func(c *api.Channel) { c.To = nil }, false},
		{"no samples to nobody", 4, func(c *api.Channel) { c.To = []int{} }, false},
		{"the last, nowhere to nowhere", 6, func(c *api.Channel) { *c = api.Channel{} }, false},
		{"Period 0", 0, func(c *api.Channel) { c.Phase, c.Period = 0, 0 }, false},
		{"Period 1", 0, func(c *api.Channel) { c.Phase, c.Period = 0, 1 }, true},
		{"Phase 1 of 1", 0, func(c *api.Channel) { c.Phase, c.Period = 1, 1 }, false},
		{"Period -1", 0, func(c *api.Channel) { c.Phase, c.Period = 0, -1 }, false},
		{"Period -1, Phase -2", 0, func(c *api.Channel) { c.Phase, c.Period = -2, -1 }, false},
		{"the greatest Period", 6, func(c *api.Channel) { c.Phase, c.Period = 0, 1<<20 }, true},
		{"the greatest Phase", 6, func(c *api.Channel) { c.Phase, c.Period = 1<<20-1, 1<<20 }, true},
		{"a Period too great", 6, func(c *api.Channel) { c.Phase, c.Period = 0, 1<<20+1 }, false},
		{"Phase = Period", 0, func(c *api.Channel) { c.Phase = 4 }, false},
		{"Phase = Period at the last", 6, func(c *api.Channel) { c.Phase, c.Period = 1<<20, 1<<20 }, false},
		{"Phase -1", 1, func(c *api.Channel) { c.Phase = -1 }, false},
		{"the least Period", 1, func(c *api.Channel) { c.Period = bottom }, false},
		{"the greatest int as Period", 1, func(c *api.Channel) { c.Period = top }, false},
		{"the least Phase", 1, func(c *api.Channel) { c.Phase = bottom }, false},
		{"the greatest int as Phase", 1, func(c *api.Channel) { c.Phase = top }, false},
		{"a sample's Period", 3, func(c *api.Channel) { c.Period = 1 }, false},
		{"a sample's Phase", 3, func(c *api.Channel) { c.Phase = -1 }, false},
		{"a sample's Phase and Period", 5, func(c *api.Channel) { c.Phase, c.Period = 1, 2 }, false},
		{"a Period from outside", 2, func(c *api.Channel) { c.Period = 1 }, false},
		{"a Phase from outside", 2, func(c *api.Channel) { c.Phase = 1 }, false},
		{"a Period and a Phase from outside", 2, func(c *api.Channel) { c.Phase, c.Period = 1, 2 }, false},
		{"samples with a Period from outside", 4, func(c *api.Channel) { c.Period = 1 }, false},
	} {
		x := sound()
		c.do(&x.Channels[c.at])
		if c.ok {
			wantCheck(t, c.what, x, api.OK, 0)
		} else {
			wantCheck(t, c.what, x, api.ErrChannel, c.at+1)
		}
	}
	x := sound()
	x.Ports = x.Ports[:0]
	wantCheck(t, "channels without ports", x, api.ErrChannel, 1)
	x = sound()
	x.Channels = nil
	wantCheck(t, "ports without channels", x, api.OK, 0)
}

// A port that two channels feed, or that feeds two, is the later one's fault, wherever the two stand.
func TestP10_3_portsOfTwoChannels(t *testing.T) {
	for first := range 6 {
		for second := first + 1; second < 6; second++ {
			for _, out := range []bool{false, true} {
				x := sound()
				x.Ports, x.Channels = nil, nil
				for i := range 6 {
					x.Ports = append(x.Ports, api.Port{Part: 1, Out: true, Size: 1}, api.Port{Part: 2, Size: 1})
					x.Channels = append(x.Channels, api.Channel{From: 2*i + 1, To: []int{2*i + 2}})
				}
				wantCheck(t, "six channels", x, api.OK, 0)
				if out {
					x.Channels[second].From = x.Channels[first].From
				} else {
					x.Channels[second].To[0] = x.Channels[first].To[0]
				}
				wantCheck(t, "a port of two channels", x, api.ErrChannel, second+1)
			}
		}
	}
}

// breach breaks one rule; step and order tell where P10.3 has it.
type breach struct {
	what        string
	step, order int
	err         api.Errno
	field       string // which part of the image it writes
	do          func(x *api.Image, at int)
}

func breaches() []breach {
	return []breach{
		{"Words", 2, 0, api.ErrCount, "Words", func(x *api.Image, at int) { x.Parts[at].Words = 4097 }},
		{"code", 2, 0, api.ErrCount, "Code", func(x *api.Image, at int) { x.Parts[at].Code = make([]api.Instr, 1025) }},
		{"processes", 2, 0, api.ErrCount, "Procs", func(x *api.Image, at int) { x.Parts[at].Procs = make([]api.Proc, 17) }},
		{"events", 2, 0, api.ErrCount, "Events", func(x *api.Image, at int) { x.Parts[at].Events = make([]bool, 9) }},
		{"Period", 3, 0, api.ErrServer, "Server", func(x *api.Image, at int) { x.Parts[at].Server.Period = 0 }},
		{"Priority", 3, 0, api.ErrServer, "Priority", func(x *api.Image, at int) { x.Parts[at].Server.Priority = 256 }},
		{"Fixed", 4, 1, api.ErrMemory, "Fixed", func(x *api.Image, at int) { x.Parts[at].Fixed = 5000 }},
		{"Init", 4, 1, api.ErrMemory, "Init", func(x *api.Image, at int) { x.Parts[at].Init = make([]int64, 5000) }},
		{"no code", 4, 2, api.ErrCode, "Code", func(x *api.Image, at int) { x.Parts[at].Code = nil }},
		{"Entry", 4, 3, api.ErrProc, "Procs", func(x *api.Image, at int) { x.Parts[at].Procs[2].Entry = 2000 }},
		{"Max", 4, 4, api.ErrObject, "Sems", func(x *api.Image, at int) { x.Parts[at].Sems[2].Max = 0 }},
		{"Depth", 4, 4, api.ErrObject, "Buffers", func(x *api.Image, at int) { x.Parts[at].Buffers[2].Depth = 65 }},
		{"action", 4, 5, api.ErrHealth, "Health", func(x *api.Image, at int) { x.Parts[at].Health[7] = 6 }},
		{"Handler", 4, 5, api.ErrHealth, "Handler", func(x *api.Image, at int) { x.Parts[at].Handler = 99 }},
		{"Size", 5, 0, api.ErrPort, "Size", func(x *api.Image, at int) { x.Ports[at].Size = 17 }},
		{"Part", 5, 0, api.ErrPort, "Part", func(x *api.Image, at int) { x.Ports[at].Part = 6 }},
		{"Kind", 6, 0, api.ErrChannel, "Kind", func(x *api.Image, at int) { x.Channels[at].Kind = 2 }},
		{"To", 6, 0, api.ErrChannel, "To", func(x *api.Image, at int) { x.Channels[at].To = []int{99} }},
	}
}

// ahead tells which of two breaches at these places the chapter names first.
func ahead(a breach, atA int, b breach, atB int) bool {
	if a.step != b.step {
		return a.step < b.step
	}
	if atA != atB {
		return atA < atB
	}
	return a.order <= b.order
}

func TestP10_1_orderOfErrors(t *testing.T) {
	places := []int{0, 2, 4}
	for _, a := range breaches() {
		for _, b := range breaches() {
			for _, atA := range places {
				for _, atB := range places {
					if a.field == b.field && atA == atB {
						continue
					}
					x := sound()
					a.do(&x, atA)
					b.do(&x, atB)
					what := a.what + " at " + strconv.Itoa(atA) + ", " + b.what + " at " + strconv.Itoa(atB)
					if ahead(a, atA, b, atB) {
						wantCheck(t, what, x, a.err, atA+1)
					} else {
						wantCheck(t, what, x, b.err, atB+1)
					}
					x.Ports = append(x.Ports, make([]api.Port, 60)...)
					wantCheck(t, what+", too many ports", x, api.ErrCount, 0)
				}
			}
		}
	}
}

// The hyperperiod's errors go behind every server's own and ahead of every partition's.
func TestP10_1_orderOfTiming(t *testing.T) {
	for _, b := range breaches() {
		for what, s := range map[api.Errno]api.Server{api.ErrHyper: server(1<<20, 1, 0, 7), api.ErrTable: server(40000, 1, 0, 7)} {
			x := sound()
			x.Parts[0].Server = s
			x.Parts[1].Server.Period, x.Parts[1].Server.Budget, x.Parts[1].Server.Offset = 1, 1, 0
			wantCheck(t, "timing", x, what, 0)
			b.do(&x, 4)
			if b.step <= 3 {
				wantCheck(t, "timing and "+b.what, x, b.err, 5)
			} else {
				wantCheck(t, "timing and "+b.what, x, what, 0)
			}
		}
	}
	both := []api.Server{server(1<<20, 1, 0, 1), server(3, 1, 0, 2), server(1, 1, 0, 3)}
	wantHyper(t, "no hyperperiod and far too many releases", both, 0, api.ErrHyper)
	many := make([]api.Server, 33)
	wantServers(t, "33 that may not be", many, api.ErrCount, 0)
	wantHyper(t, "33 that may not be", many, 0, api.ErrCount)
}

// fair is a list of so many servers that may be.
func fair(n int) []api.Server {
	list := make([]api.Server, n)
	for i := range list {
		list[i] = api.Server{Period: 16, Budget: 1 + i%16, Offset: i % 16, Priority: i * 255 / 31}
	}
	return list
}

func TestP10_2_servers(t *testing.T) {
	for n := range 33 {
		wantServers(t, strconv.Itoa(n)+" servers", fair(n), api.OK, 0)
	}
	wantServers(t, "33 servers", append(fair(32), api.Server{Period: 16, Budget: 1, Priority: 1}), api.ErrCount, 0)
	wantServers(t, "very many servers", make([]api.Server, 100000), api.ErrCount, 0)
	for _, c := range []struct {
		what        string
		least, most int
		set         func(s *api.Server, v int)
	}{
		{"Period", 1, 1 << 20, func(s *api.Server, v int) { s.Period, s.Budget, s.Offset = v, 1, 0 }},
		{"Period, all of it Budget", 1, 1 << 20, func(s *api.Server, v int) { s.Period, s.Budget, s.Offset = v, v, 0 }},
		{"Budget of 1", 1, 1, func(s *api.Server, v int) { s.Period, s.Budget, s.Offset = 1, v, 0 }},
		{"Budget of 7", 1, 7, func(s *api.Server, v int) { s.Period, s.Budget, s.Offset = 7, v, 0 }},
		{"Budget of the greatest", 1, 1 << 20, func(s *api.Server, v int) { s.Period, s.Budget, s.Offset = 1<<20, v, 0 }},
		{"Offset of 1", 0, 0, func(s *api.Server, v int) { s.Period, s.Budget, s.Offset = 1, 1, v }},
		{"Offset of 7", 0, 6, func(s *api.Server, v int) { s.Period, s.Budget, s.Offset = 7, 7, v }},
		{"Offset of the greatest", 0, 1<<20 - 1, func(s *api.Server, v int) { s.Period, s.Budget, s.Offset = 1<<20, 1, v }},
		{"Priority", 0, 255, func(s *api.Server, v int) { s.Priority = v }},
	} {
		for _, n := range []int{1, 3, 32} {
			for _, at := range []int{0, n / 2, n - 1} {
				list := fair(n)
				for i := range list {
					list[i].Priority = 100 + i
				}
				for _, v := range []int{c.least, c.most} {
					c.set(&list[at], v)
					wantServers(t, c.what, list, api.OK, 0)
				}
				for _, v := range []int{c.least - 1, c.most + 1, bottom, top} {
					c.set(&list[at], v)
					wantServers(t, c.what+" "+strconv.Itoa(v), list, api.ErrServer, at+1)
					wantHyper(t, c.what+" "+strconv.Itoa(v), list, 0, api.ErrServer)
				}
			}
		}
	}
}

func TestP10_2_priorities(t *testing.T) {
	for first := range 32 {
		for second := first + 1; second < 32; second++ {
			list := fair(32)
			list[second].Priority = list[first].Priority
			wantServers(t, "a priority twice", list, api.ErrServer, second+1)
		}
	}
	list := fair(5)
	list[1].Priority, list[2].Priority, list[3].Budget = list[4].Priority, list[0].Priority, 0
	wantServers(t, "two priorities twice and no budget", list, api.ErrServer, 3)
	list[2].Priority = 77
	wantServers(t, "a priority twice and no budget", list, api.ErrServer, 4)
}

func TestP10_2_hyper(t *testing.T) {
	doubling := func(from, most int, more ...int) []int {
		var list []int
		for period := from; period <= most; period *= 2 {
			list = append(list, period)
		}
		return append(list, more...)
	}
	for _, c := range []struct {
		what    string
		periods []int
		hyper   int
		err     api.Errno
	}{
		{"one of 1", []int{1}, 1, api.OK},
		{"two of 1", []int{1, 1}, 1, api.OK},
		{"32 of 1", slices.Repeat([]int{1}, 32), 1, api.OK},
		{"one of the greatest", []int{1 << 20}, 1 << 20, api.OK},
		{"unlike ones", []int{4, 6, 10}, 60, api.OK},
		{"a multiple of just the greatest", []int{1 << 10, 1 << 20, 1 << 8}, 1 << 20, api.OK},
		{"a product one below the greatest", []int{1023, 1025}, 1<<20 - 1, api.OK},
		{"a product above it", []int{1024, 1025}, 0, api.ErrHyper},
		{"three with a product above it", []int{1023, 1025, 2}, 0, api.ErrHyper},
		{"the greatest and one below it", []int{1 << 20, 1<<20 - 1}, 0, api.ErrHyper},
		{"3 and the greatest", []int{3, 1 << 20}, 0, api.ErrHyper},
		{"a product that wraps round to 0", slices.Repeat([]int{1 << 20}, 4), 1 << 20, api.OK},
		{"a product of 640 bits", slices.Repeat([]int{1 << 20}, 32), 1 << 20, api.OK},
		{"a multiple that wraps round", []int{1048573, 1048571, 1048559, 1048549, 1048517}, 0, api.ErrHyper},
		{"primes", []int{2, 3, 5, 7, 11, 13, 17}, 0, api.ErrTable},
		{"65534 releases of two", []int{1, 32766}, 32766, api.OK},
		{"65536 releases of two", []int{1, 32767}, 32767, api.OK},
		{"65538 releases of two", []int{1, 32768}, 0, api.ErrTable},
		{"65534 releases of three", []int{1, 2, 21844}, 21844, api.OK},
		{"65540 releases of three", []int{2, 21846, 1}, 0, api.ErrTable},
		{"65534 releases in twice the greatest", doubling(64, 1<<20), 1 << 20, api.OK},
		{"65536 releases in twice the greatest", doubling(64, 1<<20, 1<<20), 1 << 20, api.OK},
		{"65538 releases in twice the greatest", doubling(64, 1<<20, 1<<20, 1<<20), 0, api.ErrTable},
		{"65536 releases and 2", []int{32, 1 << 20}, 0, api.ErrTable},
		{"32768 releases and 2", []int{64, 1 << 20}, 1 << 20, api.OK},
		{"the most releases of all", append(slices.Repeat([]int{1}, 31), 1<<20), 0, api.ErrTable},
	} {
		var list []api.Server
		for i, period := range c.periods {
			list = append(list, server(period, 1, 0, i))
		}
		wantHyper(t, c.what, list, c.hyper, c.err)
		wantServers(t, c.what, list, api.OK, 0)
		slices.Reverse(list)
		wantHyper(t, c.what+" the other way round", list, c.hyper, c.err)
	}
}

// chosen is one of a list, by chance.
func chosen[T any](r *rand.Rand, list ...T) T { return list[r.IntN(len(list))] }

func TestP10_2_byChance(t *testing.T) {
	r := rand.New(rand.NewPCG(10, 2))
	seen := map[api.Errno]int{}
	for range 50000 {
		list := make([]api.Server, r.IntN(7))
		if r.IntN(50) == 0 {
			list = make([]api.Server, 30+r.IntN(5))
		}
		for i := range list {
			period := chosen(r, 1+r.IntN(12), 1<<r.IntN(21), 1<<20-r.IntN(5), 1+r.IntN(1<<20), 6*(1+r.IntN(100)))
			list[i] = api.Server{Period: period, Budget: 1 + r.IntN(period), Offset: r.IntN(period), Priority: r.IntN(8)*32 + i%32}
			if r.IntN(30) == 0 {
				*chosen(r, &list[i].Period, &list[i].Budget, &list[i].Offset, &list[i].Priority) = chosen(r, bottom, -1, 0, period, period+1, 255, 256, 1<<20, 1<<20+1, top)
			}
		}
		err, number := readServers(list)
		wantServers(t, "chance", list, err, number)
		hyper, err := readHyper(list)
		wantHyper(t, "chance", list, hyper, err)
		seen[err]++
	}
	for _, err := range []api.Errno{api.OK, api.ErrCount, api.ErrServer, api.ErrHyper, api.ErrTable} {
		if seen[err] < 200 {
			t.Errorf("chance has met the answer %d only %d times", err, seen[err])
		}
	}
}

// numbers are all places of an image at which a number stands.
func numbers(x *api.Image) []*int {
	var list []*int
	var walk func(v reflect.Value)
	walk = func(v reflect.Value) {
		switch v.Kind() {
		case reflect.Int:
			list = append(list, v.Addr().Interface().(*int))
		case reflect.Struct:
			for i := range v.NumField() {
				walk(v.Field(i))
			}
		case reflect.Slice, reflect.Array:
			for i := range v.Len() {
				walk(v.Index(i))
			}
		}
	}
	walk(reflect.ValueOf(x).Elem())
	return list
}

// edges are the numbers at which a rule may turn, of a place that holds v.
func edges(v int) []int {
	list := []int{bottom, bottom + 1, top - 1, top, v - 1, v + 1, -1}
	for _, n := range []int{0, 5, 8, 16, 32, 64, 255, 1024, 4096, 65536, 1 << 20, 1 << 31, 1 << 40} {
		list = append(list, n-1, n, n+1)
	}
	return list
}

// Every number of the sound image, one by one, at every edge.
func TestP10_3_everyNumber(t *testing.T) {
	x := sound()
	seen := map[api.Errno]int{}
	for i, place := range numbers(&x) {
		held := *place
		for _, v := range edges(held) {
			*place = v
			err, number := readCheck(x)
			wantCheck(t, "number "+strconv.Itoa(i)+" as "+strconv.Itoa(v), x, err, number)
			seen[err]++
		}
		*place = held
	}
	for _, err := range []api.Errno{api.OK, api.ErrCount, api.ErrServer, api.ErrHyper, api.ErrMemory, api.ErrProc, api.ErrObject, api.ErrHealth, api.ErrPort, api.ErrChannel} {
		if seen[err] == 0 {
			t.Errorf("no number has met the answer %d", err)
		}
	}
}

// spoil changes something of an image by chance.
func spoil(r *rand.Rand, x *api.Image) {
	if len(x.Parts) > 0 && r.IntN(3) == 0 {
		p := &x.Parts[r.IntN(len(x.Parts))]
		switch r.IntN(9) {
		case 0:
			p.Init = make([]int64, chosen(r, 0, max(p.Words, 0)%5000, max(p.Words, 0)%5000+1, 4097))
		case 1:
			p.Code = make([]api.Instr, chosen(r, 0, 1, 1024, 1025))
		case 2:
			p.Procs = make([]api.Proc, chosen(r, 0, 1, 16, 17))
		case 3:
			p.Sems = make([]api.Sem, chosen(r, 0, 1, 8, 9))
		case 4:
			p.Events = make([]bool, chosen(r, 0, 1, 8, 9))
		case 5:
			p.Buffers = make([]api.Buffer, chosen(r, 0, 1, 8, 9))
		case 6:
			x.Parts = x.Parts[:r.IntN(len(x.Parts)+1)]
		default:
			if len(p.Procs) > 0 {
				q := &p.Procs[r.IntN(len(p.Procs))]
				q.Auto = !q.Auto
			}
		}
		return
	}
	if len(x.Ports) > 0 && r.IntN(6) == 0 {
		q := &x.Ports[r.IntN(len(x.Ports))]
		q.Out = !q.Out
		return
	}
	if len(x.Channels) > 0 && r.IntN(4) == 0 {
		c := &x.Channels[r.IntN(len(x.Channels))]
		c.To = append([]int(nil), c.To...)
		if len(c.To) > 0 && r.IntN(2) == 0 {
			c.To = c.To[:len(c.To)-1]
		} else {
			c.To = append(c.To, r.IntN(len(x.Ports)+2))
		}
		return
	}
	list := numbers(x)
	if len(list) == 0 {
		return
	}
	place := list[r.IntN(len(list))]
	*place = chosen(r, edges(*place)...)
}

// Two, three and four changes at once; no answer is a panic, whatever stands there.
func TestP10_3_byChance(t *testing.T) {
	r := rand.New(rand.NewPCG(10, 3))
	seen := map[api.Errno]int{}
	for range 60000 {
		x := sound()
		for range 1 + r.IntN(4) {
			spoil(r, &x)
		}
		err, number := readCheck(x)
		wantCheck(t, "chance", x, err, number)
		seen[err]++
	}
	for _, err := range []api.Errno{api.OK, api.ErrCount, api.ErrServer, api.ErrHyper, api.ErrTable, api.ErrMemory, api.ErrCode, api.ErrProc, api.ErrObject, api.ErrHealth, api.ErrPort, api.ErrChannel} {
		if seen[err] < 20 {
			t.Errorf("chance has met the answer %d only %d times", err, seen[err])
		}
	}
}
