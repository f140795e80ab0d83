package rta_test

import (
	"fmt"
	"math"
	"slices"
	"testing"

	"bulkhead/api"
	"bulkhead/isa"
	"bulkhead/occ"
	"bulkhead/rta"
)

// tells wants what all calls tell of a partition that fits, and the second reading to say the same.
func tells(t *testing.T, what string, x api.Image, part, span int, in bool, worst ...int) {
	t.Helper()
	want := answer{api.OK, worst, in, span}
	if second := read(x, part); !second.same(want) {
		t.Fatalf("%s: the second reading says %+v, want %+v", what, second, want)
	}
	if got := ask(t, what, x, part); !got.same(want) {
		t.Errorf("%s: %+v, want %+v", what, got, want)
	}
}

// refuses wants all calls to have an error, and to tell nothing else.
func refuses(t *testing.T, what string, x api.Image, part int, err api.Errno) {
	t.Helper()
	if second := read(x, part); !second.same(answer{err: err}) {
		t.Fatalf("%s: the second reading says %+v, want %d", what, second, err)
	}
	if got := ask(t, what, x, part); !got.same(answer{err: err}) || got.worst != nil {
		t.Errorf("P25.1: %s, partition %d: %+v, want %d", what, part, got, err)
	}
}

func TestExamples(t *testing.T) {
	x := chapter(3)
	tells(t, "the example", x, 1, 16, true, 1, 6)
	tells(t, "with the Capacity of 2 made 4", chapter(4), 1, 16, false, 1, api.Never)
	x.Parts[0].Procs = append(x.Parts[0].Procs, proc(0, 8, 8, 1))
	tells(t, "with a third process", x, 1, 16, false, 1, 6, api.Never)
	x = chapter(3)
	x.Parts[0].Procs[1].Limit = 5
	tells(t, "with the Limit of 2 made 5", x, 1, 16, false, 1, 6)
	x = chapter(3)
	x.Parts[0].Procs[1].Auto = false
	refuses(t, "with a process that is not Auto", x, 1, api.ErrUnfit)
	x = chapter(3)
	x.Parts[0].Procs[1].Priority = 9
	refuses(t, "with two of one Priority", x, 1, api.ErrUnfit)
	x = chapter(3)
	x.Parts[0].Code = append(x.Parts[0].Code, api.Instr{Op: 27, Imm: 2})
	refuses(t, "with an instruction sys 2", x, 1, api.ErrUnfit)
	x = chapter(3)
	x.Parts[0].Procs[1].Period = 1048573
	refuses(t, "with a Period of 1048573", x, 1, api.ErrHyper)
	refuses(t, "partition 2", chapter(3), 2, api.ErrPart)
}

// full is an image of three partitions that all fit, with ports, channels and objects.
func full() api.Image {
	x := image([]api.Server{server(4, 2, 0, 1), server(8, 1, 3, 7), server(8, 8, 0, 0)}, proc(9, 8, 4, 1), proc(5, 8, 8, 3))
	x.Parts[1].Procs = []api.Proc{proc(1, 16, 16, 1)}
	x.Parts[2].Procs = []api.Proc{proc(4, 8, 8, 1), proc(7, 24, 20, 2)}
	for i := range x.Parts {
		p := &x.Parts[i]
		p.Words, p.Fixed, p.Init = 4, 1, []int64{7}
		p.Sems, p.Events, p.Buffers = []api.Sem{{Max: 1}}, []bool{true}, []api.Buffer{{Size: 1, Depth: 1}}
	}
	x.Ports = []api.Port{{Part: 1, Kind: api.Sampling, Out: true, Size: 1}, {Part: 2, Kind: api.Sampling, Size: 1, Refresh: 3}}
	x.Channels = []api.Channel{{Kind: api.Sampling, From: 1, To: []int{2}}}
	return x
}

// refused are images that check.Check does not take, each made of the full one.
func refused() map[string]struct {
	err    api.Errno
	change func(x *api.Image)
} {
	type row = struct {
		err    api.Errno
		change func(x *api.Image)
	}
	return map[string]row{
		"too many partitions":   {api.ErrCount, func(x *api.Image) { x.Parts = append(x.Parts, make([]api.Part, 30)...) }},
		"too many ports":        {api.ErrCount, func(x *api.Image) { x.Ports = append(x.Ports, make([]api.Port, 63)...) }},
		"too many channels":     {api.ErrCount, func(x *api.Image) { x.Channels = append(x.Channels, make([]api.Channel, 64)...) }},
		"words below 0":         {api.ErrCount, func(x *api.Image) { x.Parts[1].Words = -1 }},
		"no processes":          {api.ErrCount, func(x *api.Image) { x.Parts[0].Procs = nil }},
		"no process elsewhere":  {api.ErrCount, func(x *api.Image) { x.Parts[2].Procs = []api.Proc{} }},
		"too many processes":    {api.ErrCount, func(x *api.Image) { x.Parts[0].Procs = make([]api.Proc, 17) }},
		"too much code":         {api.ErrCount, func(x *api.Image) { x.Parts[0].Code = slices.Repeat(x.Parts[0].Code, 1025) }},
		"too many semaphores":   {api.ErrCount, func(x *api.Image) { x.Parts[1].Sems = slices.Repeat(x.Parts[1].Sems, 9) }},
		"no budget":             {api.ErrServer, func(x *api.Image) { x.Parts[0].Server.Budget = 0 }},
		"a priority twice":      {api.ErrServer, func(x *api.Image) { x.Parts[2].Server.Priority = 7 }},
		"no hyperperiod":        {api.ErrHyper, func(x *api.Image) { x.Parts[2].Server.Period = 1048573 }},
		"too many releases":     {api.ErrTable, func(x *api.Image) { x.Parts[1].Server, x.Parts[2].Server.Period = server(1, 1, 0, 7), 1<<15 }},
		"no memory to be fixed": {api.ErrMemory, func(x *api.Image) { x.Parts[0].Fixed = 5 }},
		"no memory for Init":    {api.ErrMemory, func(x *api.Image) { x.Parts[1].Init = make([]int64, 5) }},
		"no code":               {api.ErrCode, func(x *api.Image) { x.Parts[0].Code = nil }},
		"Entry behind the code": {api.ErrProc, func(x *api.Image) { x.Parts[0].Procs[1].Entry = 1 }},
		"Limit above Period":    {api.ErrProc, func(x *api.Image) { x.Parts[0].Procs[1].Limit = 9 }},
		"Period below 0":        {api.ErrProc, func(x *api.Image) { x.Parts[0].Procs[1].Period = -8 }},
		"Period of MaxTick":     {api.ErrProc, func(x *api.Image) { x.Parts[0].Procs[0].Period = api.MaxTick }},
		"Limit below 0":         {api.ErrProc, func(x *api.Image) { x.Parts[0].Procs[0].Limit = -1 }},
		"Capacity below 0":      {api.ErrProc, func(x *api.Image) { x.Parts[0].Procs[0].Capacity = -1 }},
		"Capacity of 2^31":      {api.ErrProc, func(x *api.Image) { x.Parts[0].Procs[0].Capacity = 1 << 31 }},
		"a process's priority":  {api.ErrProc, func(x *api.Image) { x.Parts[0].Procs[0].Priority = 256 }},
		"a process elsewhere":   {api.ErrProc, func(x *api.Image) { x.Parts[2].Procs[1].Entry = -1 }},
		"a semaphore":           {api.ErrObject, func(x *api.Image) { x.Parts[0].Sems[0].Max = 0 }},
		"a buffer":              {api.ErrObject, func(x *api.Image) { x.Parts[2].Buffers[0].Depth = 65 }},
		"an action":             {api.ErrHealth, func(x *api.Image) { x.Parts[0].Health[3] = 6 }},
		"a handler that starts": {api.ErrHealth, func(x *api.Image) { x.Parts[0].Handler = 1 }},
		"a handler below 0":     {api.ErrHealth, func(x *api.Image) { x.Parts[0].Handler = -1 }},
		"a port of nobody":      {api.ErrPort, func(x *api.Image) { x.Ports[1].Part = 4 }},
		"a channel of no kind":  {api.ErrChannel, func(x *api.Image) { x.Channels[0].Kind = 2 }},
		"a channel to nowhere":  {api.ErrChannel, func(x *api.Image) { x.Channels[0].To = []int{3} }},
	}
}

// The error of check.Check comes first, whatever the partition is.
func TestP25_1_RefusedByCheck(t *testing.T) {
	seen := map[api.Errno]int{}
	for what, c := range refused() {
		for _, part := range []int{1, 2, 3, 4, 0, -1, bottom, top} {
			x := full()
			c.change(&x)
			refuses(t, what, x, part, c.err)
		}
		seen[c.err]++
	}
	for err := api.ErrCount; err <= api.ErrMemory; err++ {
		if seen[err] == 0 {
			t.Errorf("no image has the error %d", err)
		}
	}
}

func TestP25_1_NoSuchPartition(t *testing.T) {
	for _, part := range []int{bottom, bottom + 1, -2, -1, 0, 4, 5, 32, 33, 1<<32 + 1, 1<<32 + 2, top} {
		refuses(t, "three partitions", full(), part, api.ErrPart)
	}
	for _, part := range []int{-1, 0, 1, 2} {
		refuses(t, "no partitions", api.Image{}, part, api.ErrPart)
		refuses(t, "no partitions, but a port", api.Image{Parts: []api.Part{}}, part, api.ErrPart)
	}
	x := full()
	tells(t, "the first", x, 1, 16, true, 1, 6)
	tells(t, "the second", x, 2, 32, true, 4)
	tells(t, "the last", x, 3, 48, true, 8, 7)
}

// many are sixteen processes, each of a priority of its own.
func many() []api.Proc {
	var list []api.Proc
	for i := range api.MaxProcs {
		list = append(list, proc(17*(i*5%16), 16, 16, 1))
	}
	return list
}

func TestP25_1_UnfitProcesses(t *testing.T) {
	whole := server(1, 1, 0, 0)
	tells(t, "sixteen", alone(whole, many()...), 1, 32, true, 16, 11, 6, 1, 12, 7, 2, 13, 8, 3, 14, 9, 4, 15, 10, 5)
	for what, change := range map[string]func(q *api.Proc){
		"not Auto":            func(q *api.Proc) { q.Auto = false },
		"no Period":           func(q *api.Proc) { q.Period = 0 },
		"no Limit":            func(q *api.Proc) { q.Limit = 0 },
		"no Capacity":         func(q *api.Proc) { q.Capacity = 0 },
		"neither":             func(q *api.Proc) { q.Period, q.Limit, q.Capacity = 0, 0, 0 },
		"nothing at all":      func(q *api.Proc) { *q = api.Proc{Priority: q.Priority} },
		"no Period, far away": func(q *api.Proc) { q.Period, q.Limit = 0, api.MaxTick-1 },
	} {
		for i := range api.MaxProcs {
			x := alone(whole, many()...)
			change(&x.Parts[0].Procs[i])
			refuses(t, fmt.Sprintf("%s: process %d", what, i+1), x, 1, api.ErrUnfit)
		}
		refuses(t, what+": the only one", func() api.Image {
			x := alone(whole, proc(3, 4, 4, 1))
			change(&x.Parts[0].Procs[0])
			return x
		}(), 1, api.ErrUnfit)
	}
	for i := range api.MaxProcs {
		for k := range i {
			x := alone(whole, many()...)
			x.Parts[0].Procs[i].Priority = x.Parts[0].Procs[k].Priority
			refuses(t, fmt.Sprintf("%d and %d of one Priority", k+1, i+1), x, 1, api.ErrUnfit)
		}
	}
	for _, priority := range []int{0, 128, 255} {
		refuses(t, "two of one Priority", alone(whole, proc(priority, 4, 4, 1), proc(priority, 8, 8, 2)), 1, api.ErrUnfit)
	}
	tells(t, "Priorities side by side, at both ends", alone(whole, proc(0, 4, 4, 1), proc(1, 4, 4, 1), proc(254, 4, 4, 1), proc(255, 4, 4, 1)), 1, 8, true, 4, 3, 2, 1)
}

func TestP25_1_Handler(t *testing.T) {
	for handler := 1; handler <= 3; handler++ {
		x := chapter(3)
		x.Parts[0].Procs = slices.Insert(x.Parts[0].Procs, handler-1, api.Proc{Priority: 77, Capacity: 5})
		x.Parts[0].Handler = handler
		refuses(t, fmt.Sprintf("the handler is process %d", handler), x, 1, api.ErrUnfit)
	}
	x := chapter(3)
	x.Parts[0].Procs, x.Parts[0].Handler = []api.Proc{{}}, 1
	refuses(t, "a handler alone", x, 1, api.ErrUnfit)
}

// withCode is the chapter's image with other code.
func withCode(code ...api.Instr) api.Image {
	x := chapter(3)
	x.Parts[0].Code = code
	return x
}

func TestP25_1_Calls(t *testing.T) {
	var numbers []int32
	for n := int32(-300); n <= 600; n++ {
		numbers = append(numbers, n)
	}
	for _, n := range []int32{1, 3, 12, 14, 15, 16, 19} {
		numbers = append(numbers, n+1<<16, n+1<<24, n+math.MinInt32, math.MaxInt32-n)
	}
	numbers = append(numbers, math.MinInt32, math.MaxInt32)
	fit := 0
	for _, n := range numbers {
		x := withCode(api.Instr{Op: 1}, api.Instr{Op: 27, Imm: n})
		if slices.Contains([]int32{api.CallNow, api.CallPeriodicWait, api.CallStatus, api.CallLog, api.CallWrite, api.CallRead, api.CallPortStatus}, n) {
			tells(t, fmt.Sprintf("sys %d", n), x, 1, 16, true, 1, 6)
			fit++
		} else {
			refuses(t, fmt.Sprintf("sys %d", n), x, 1, api.ErrUnfit)
		}
	}
	if fit != 7 {
		t.Errorf("%d calls fit", fit)
	}
}

func TestP25_1_Instructions(t *testing.T) {
	// One legal instruction of each operation but sys; where it has a number, that of a call that does not fit.
	legal := []api.Instr{
		{Op: 1}, {Op: 2, A: 15, Imm: 2}, {Op: 3, A: 1, Imm: -2}, {Op: 4, A: 15, B: 15}, {Op: 5, A: 1, B: 2, Imm: 2}, {Op: 6, A: 1, B: 2, Imm: 17},
		{Op: 7, A: 1, B: 2, C: 3}, {Op: 8, C: 15}, {Op: 9}, {Op: 10, A: 1}, {Op: 11, B: 1}, {Op: 12}, {Op: 13}, {Op: 14}, {Op: 15}, {Op: 16}, {Op: 17},
		{Op: 18, A: 1, B: 1, Imm: 27}, {Op: 19}, {Op: 20}, {Op: 21}, {Op: 22, Imm: 2}, {Op: 23, A: 4, Imm: 2}, {Op: 24, A: 4, Imm: -1}, {Op: 25, A: 9}, {Op: 26, Imm: 2},
	}
	tells(t, "one of each operation", withCode(legal...), 1, 16, true, 1, 6)
	for _, one := range legal {
		tells(t, fmt.Sprintf("%+v", one), withCode(one), 1, 16, true, 1, 6)
	}
	illegal := []api.Instr{
		{}, {Op: 28}, {Op: 255}, {Op: 128}, {Op: 0, Imm: 3}, {Op: 28, Imm: 3}, {Op: 1, Imm: 5}, {Op: 1, A: 1}, {Op: 4, A: 15, B: 16}, {Op: 4, Imm: 1}, {Op: 7, A: 1, B: 2, C: 3, Imm: 1},
		{Op: 7, C: 255}, {Op: 22, A: 1}, {Op: 25, A: 16}, {Op: 25, Imm: 1}, {Op: 27, A: 1, Imm: 3}, {Op: 27, B: 1, Imm: 3}, {Op: 27, C: 1, Imm: 3}, {Op: 27, A: 255, Imm: 1},
	}
	for _, one := range illegal {
		if isa.Legal(one) {
			t.Fatalf("%+v is legal", one)
		}
		for _, place := range []int{0, 1, len(legal)} {
			refuses(t, fmt.Sprintf("%+v at %d", one, place), withCode(slices.Insert(slices.Clone(legal), place, one)...), 1, api.ErrUnfit)
		}
	}
	long := slices.Repeat([]api.Instr{{Op: 27, Imm: 3}}, api.MaxCode)
	tells(t, "the longest code", withCode(long...), 1, 16, true, 1, 6)
	for _, place := range []int{0, 511, api.MaxCode - 1} {
		for _, one := range []api.Instr{{}, {Op: 27, Imm: 2}, {Op: 27}} {
			code := slices.Clone(long)
			code[place] = one
			refuses(t, fmt.Sprintf("%+v at %d of the longest code", one, place), withCode(code...), 1, api.ErrUnfit)
		}
	}
}

// Whether a partition fits hangs on nothing of the other ones.
func TestP25_1_OthersMayBeUnfit(t *testing.T) {
	x := full()
	x.Parts[1].Procs = []api.Proc{{}, {Auto: true}, {Priority: 3}, {Period: 1048573}}
	x.Parts[1].Handler = 1
	x.Parts[1].Code = []api.Instr{{}, {Op: 27, Imm: 2}}
	refuses(t, "the second", x, 2, api.ErrUnfit)
	tells(t, "the first", x, 1, 16, true, 1, 6)
	tells(t, "the third", x, 3, 48, true, 8, 7)
	x = full()
	x.Parts[1].Procs[0].Period = 1048573
	refuses(t, "the second", x, 2, api.ErrHyper)
	tells(t, "the third", x, 3, 48, true, 8, 7)
}

func TestP25_1_TooLong(t *testing.T) {
	one := server(1, 1, 0, 0)
	const most = api.MaxHyper // 2^20; the number behind it is 17 * 61681, the one ahead of it 33 * 31775
	for what, x := range map[string]api.Image{
		"MaxHyper + 1":                   alone(one, proc(1, most+1, 1, 1)),
		"17 and 61681":                   alone(one, proc(1, 17, 1, 1), proc(2, 61681, 1, 1)),
		"17 of a server and 61681":       alone(server(17, 1, 0, 0), proc(2, 61681, 1, 1)),
		"17 of another and 61681":        image([]api.Server{one, server(17, 1, 0, 9)}, proc(2, 61681, 1, 1)),
		"MaxHyper of a server and 3":     alone(server(most, 1, 0, 0), proc(2, 3, 1, 1)),
		"MaxHyper of a server, twice it": alone(server(most, 1, 0, 0), proc(2, 2*most, 1, 1)),
		"twice MaxHyper":                 alone(one, proc(2, 2*most, 1, 1)),
		"without a common factor":        alone(one, proc(1, 101, 1, 1), proc(2, 103, 1, 1), proc(3, 107, 1, 1)),
		"the last of many is too long":   alone(one, append(many()[:15], proc(187, most+1, 1, 1))...),
		"the greatest Period":            alone(one, proc(1, api.MaxTick-1, 1, 1)),
		"the greatest ones":              alone(server(1048573, 1, 0, 0), proc(1, api.MaxTick-1, 1, 1), proc(2, api.MaxTick-2, 1, 1), proc(3, api.MaxTick-3, 1, 1)),
		"a product beyond an int":        alone(one, proc(1, 1<<39+1, 1, 1), proc(2, 1<<39+3, 1, 1), proc(3, 1<<39+5, 1, 1)),
	} {
		refuses(t, what, x, 1, api.ErrHyper)
	}
}

func TestP25_1_JustShortEnough(t *testing.T) {
	const most = api.MaxHyper
	one := server(1, 1, 0, 0)
	tells(t, "MaxHyper", alone(one, proc(1, most, most, most)), 1, 2*most, true, most)
	tells(t, "MaxHyper, one too many", alone(one, proc(1, most, most, most+1)), 1, 2*most, false, api.Never)
	tells(t, "MaxHyper, very many", alone(one, proc(1, most, most, 1<<31-1)), 1, 2*most, false, api.Never)
	tells(t, "33 and 31775", alone(one, proc(1, 33, 33, 1), proc(0, 31775, 31775, 2)), 1, 2*(most-1), true, 1, 3)
	tells(t, "MaxHyper of a server", alone(server(most, 3, most-3, 0), proc(1, 1<<19, 1<<19, 1), proc(0, most, most, 2)), 1, 2*most, false, api.Never, api.Never)
	tells(t, "MaxHyper of a server alone", alone(server(most, 3, most-3, 0), proc(0, most, most, 2)), 1, 2*most, true, most-1)
	tells(t, "MaxHyper of another", image([]api.Server{one, server(1<<14, 1, 5, 9)}, proc(0, most, most, 6), proc(7, 2, 2, 1)), 1, 2*most, true, 14, 1)
	tells(t, "1 and MaxHyper", alone(one, proc(0, most, most, 1), proc(1, 1, 1, 1)), 1, 2*most, false, api.Never, 1)
}

// A turn may have one slot more than package occ tells in a call: each of its releases is a slot, with a tick of nobody ahead of it and one behind.
func TestP25_2_ManySlots(t *testing.T) {
	const hyper = 131068
	x := image([]api.Server{server(4, 1, 1, 1), server(hyper, 1, 3, 9)}, proc(5, 28, 20, 3), proc(4, 124, 90, 11), proc(3, hyper, hyper, 9))
	x.Parts[1].Procs = []api.Proc{proc(1, hyper, hyper, 1)}
	for _, from := range []int{0, hyper} {
		if _, err := occ.Runs([]api.Server{x.Parts[0].Server, x.Parts[1].Server}, from, from+hyper); err != api.ErrLong {
			t.Fatalf("the occupants from %d on: %d, want ErrLong", from, err)
		}
	}
	reads(t, "the first", x, 1)
	tells(t, "the second", x, 2, 2*hyper, true, 4)
	// Each tick is a slot.
	x = image([]api.Server{server(65534, 65534, 0, 1), server(2, 1, 1, 9)}, proc(5, 6, 6, 1), proc(4, 65534, 65534, 9), proc(3, 2*3*32767, 65534, 10))
	x.Parts[1].Procs = []api.Proc{proc(9, 14, 14, 3), proc(7, 6, 6, 1), proc(5, 32767, 32767, 9)}
	reads(t, "every other tick", x, 1)
	reads(t, "of the other partition", x, 2)
}

// What is named first is answered, where several errors hold.
func TestP25_1_ErrorsInOrder(t *testing.T) {
	unfit := func(p *api.Part) { p.Procs[0].Auto = false }
	long := func(p *api.Part) { p.Procs[0].Period = 1048573 }
	for what, c := range refused() {
		for _, part := range []int{1, 3, 9} {
			x := full()
			for i := range x.Parts {
				unfit(&x.Parts[i])
				long(&x.Parts[i])
			}
			c.change(&x)
			refuses(t, what+", too long and unfit", x, part, c.err)
		}
	}
	x := full()
	for i := range x.Parts {
		long(&x.Parts[i])
		unfit(&x.Parts[i])
	}
	refuses(t, "too long and unfit, of no partition", x, 4, api.ErrPart)
	refuses(t, "too long and unfit", x, 3, api.ErrUnfit)
	for what, change := range map[string]func(p *api.Part){
		"not Auto":     unfit,
		"no Limit":     func(p *api.Part) { p.Procs[1].Limit = 0 },
		"no Capacity":  func(p *api.Part) { p.Procs[1].Capacity = 0 },
		"no Period":    func(p *api.Part) { p.Procs[1].Period = 0 },
		"one Priority": func(p *api.Part) { p.Procs[1].Priority = 9 },
		"code":         func(p *api.Part) { p.Code = []api.Instr{{Op: 1}, {Op: 27, Imm: 2}} },
		"illegal code": func(p *api.Part) { p.Code = []api.Instr{{Op: 1}, {}} },
		"a handler":    func(p *api.Part) { p.Procs, p.Handler = append(p.Procs, api.Proc{}), 3 },
	} {
		x := full()
		long(&x.Parts[0])
		refuses(t, "too long", x, 1, api.ErrHyper)
		change(&x.Parts[0])
		refuses(t, "too long, and "+what, x, 1, api.ErrUnfit)
	}
}

func TestP25_4_Span(t *testing.T) {
	whole := server(1, 1, 0, 0)
	for _, c := range []struct {
		servers []api.Server
		periods []int
		want    int
	}{
		{[]api.Server{whole}, []int{1}, 2},
		{[]api.Server{whole}, []int{7}, 14},
		{[]api.Server{server(4, 2, 0, 1)}, []int{6}, 24},
		{[]api.Server{server(4, 2, 0, 1)}, []int{2}, 8},
		{[]api.Server{server(4, 2, 0, 1)}, []int{4, 8, 16}, 32},
		{[]api.Server{server(4, 2, 0, 1)}, []int{16, 8, 4}, 32},
		{[]api.Server{whole}, []int{3, 5, 7}, 210},
		{[]api.Server{whole, server(11, 1, 0, 9)}, []int{3, 5, 7}, 2310},
		{[]api.Server{server(6, 1, 0, 1), server(10, 1, 0, 9)}, []int{4, 15}, 120},
		{[]api.Server{server(6, 1, 0, 9), server(10, 1, 0, 1)}, []int{7}, 420},
	} {
		x := image(c.servers)
		for i, period := range c.periods {
			x.Parts[0].Procs = append(x.Parts[0].Procs, proc(i, period, period, 1))
		}
		if span, err := rta.Span(x, 1); span != c.want || err != api.OK {
			t.Errorf("P25.4: %v, %v: %d, %d, want %d", c.servers, c.periods, span, err, c.want)
		}
	}
}
