package report_test

import (
	"slices"
	"testing"

	"bulkhead/api"
	"bulkhead/asm"
	imagebytes "bulkhead/image"
	"bulkhead/kernel"
	"bulkhead/report"
	"bulkhead/script"
	"bulkhead/trace"
)

// codeOf is a text's code.
func codeOf(t *testing.T, text string) []api.Instr {
	t.Helper()
	code, err, line := asm.Assemble([]byte(text))
	if err != api.OK {
		t.Fatalf("line %d: %d", line, err)
	}
	return code
}

// runOf is a kernel of an image and its inputs, run to a tick.
func runOf(t *testing.T, x api.Image, inputs []api.Input, how, ticks int) *kernel.Kernel {
	t.Helper()
	b, err := imagebytes.Encode(x)
	if err != api.OK {
		t.Fatal(err)
	}
	s, err := script.Encode(inputs)
	if err != api.OK {
		t.Fatal(err)
	}
	k, err := kernel.Boot(b, s, how)
	if err != api.OK {
		t.Fatal(err)
	}
	if err := k.Run(ticks, 1<<30); err != api.OK {
		t.Fatal(err)
	}
	return k
}

// example is the document's: partition 1 sends its word to partition 2.
func example(t *testing.T) api.Image {
	part := func(offset, priority int, code string) api.Part {
		return api.Part{Server: server(4, 2, offset, priority), Words: 1, Init: []int64{42}, Code: codeOf(t, code), Procs: []api.Proc{{Auto: true}}}
	}
	return api.Image{
		Parts: []api.Part{
			part(0, 2, "ldi r1 1\nldi r2 0\nldi r3 -1\nsys 17\njmp 0"),
			part(2, 1, "ldi r1 2\nldi r2 0\nldi r3 -1\nsys 18\njmp 3"),
		},
		Ports:    []api.Port{{Part: 1, Kind: api.Queuing, Out: true, Size: 1, Depth: 1}, {Part: 2, Kind: api.Queuing, Size: 1, Depth: 1}},
		Channels: []api.Channel{{Kind: api.Queuing, From: 1, To: []int{2}, Period: 4}},
	}
}

// busy is an image of which a run has events of every kind.
func busy(t *testing.T) (api.Image, []api.Input) {
	part := func(offset, priority int, code string, proc api.Proc) api.Part {
		proc.Auto = true
		return api.Part{Server: server(10, 2, offset, priority), Words: 1, Code: codeOf(t, code), Procs: []api.Proc{proc}}
	}
	x := api.Image{
		Parts: []api.Part{
			part(0, 40, "ldi r1 1\nldi r2 0\nldi r3 5\nsys 17\nldi r1 3\nsys 15\njmp 0", api.Proc{}), // sends to partition 3, and writes to the outside
			part(2, 30, "ldi r1 7\nsys 14\nld r1 r0 99", api.Proc{}),                                 // logs, has a fault, and boots anew
			part(3, 20, "jmp 0", api.Proc{Period: 16, Limit: 9}),                                     // is never done, and never takes a message
			part(7, 10, "ldi r1 0\nsys 13", api.Proc{}),                                              // idles till it is woken
		},
		Ports: []api.Port{
			{Part: 1, Kind: api.Queuing, Out: true, Size: 1, Depth: 2}, {Part: 3, Kind: api.Queuing, Size: 1, Depth: 1},
			{Part: 1, Kind: api.Sampling, Out: true, Size: 1},
		},
		Channels: []api.Channel{{Kind: api.Queuing, From: 1, To: []int{2}, Phase: 1, Period: 7}, {Kind: api.Sampling, From: 3}},
	}
	x.Parts[1].Health[api.FaultMemory] = api.ActRestart
	return x, []api.Input{{Tick: 33, Kind: api.InputWake, Target: 4}, {Tick: 101, Kind: api.InputWake, Target: 4}}
}

// The document's example, up to tick 12: what each partition has used, and what has happened to it.
func TestTheDocumentsExample(t *testing.T) {
	t.Parallel()
	x := example(t)
	events := runOf(t, x, nil, api.Online, 12).Trace()
	wantCounts(t, "the document's example", events, 1, twelve(api.EventStart, 1, api.EventCall, 1))
	wantCounts(t, "the document's example", events, 2, twelve(api.EventStart, 1, api.EventArrive, 1, api.EventCall, 1))
	wantCounts(t, "the document's example", events, 3, twelve())
	list := serversOf(x)
	wantChart(t, "the document's example", list, 0, 12, "AABBAABBAABB", api.OK)
	wantUsed(t, "the document's example", list, 0, 12, []int{0, 6, 6}, api.OK)
	wantShares(t, "the document's example", list, []int{0, 500000, 500000}, api.OK)
	wantText(t, "the document's example", x, "hyperperiod 4 load 4 of 4 admitted\npartition 1: budget 2 of 4 from 0 priority 2 share 500000 blackout 2\npartition 2: budget 2 of 4 from 2 priority 1 share 500000 blackout 2\nnobody: share 0\n", api.OK)
}

// Of a run that has events of every kind each is counted once, and the same with either scheduler.
func TestP27_3_6_CountsOfARun(t *testing.T) {
	t.Parallel()
	x, inputs := busy(t)
	events := runOf(t, x, inputs, api.Online, 400).Trace()
	table := runOf(t, x, inputs, api.ByTable, 400).Trace()
	all := twelve()
	for part := range len(x.Parts) + 2 {
		counts := report.Counts(events, part)
		wantCounts(t, "by the table", table, part, counts)
		wantCounts(t, "a partition's own", trace.Project(events, part), part, counts)
		if sumOf(counts) != len(trace.Project(events, part)) {
			t.Errorf("P27.6: partition %d has %v, and %d events", part, counts, len(trace.Project(events, part)))
		}
		for i, number := range counts {
			all[i] += number
		}
	}
	if sumOf(all) != len(events) || slices.Contains(all, 0) {
		t.Errorf("P27.6: %v of %d events", all, len(events))
	}
	// Partition 4 goes idle thrice, is woken twice and so starts thrice.
	wantCounts(t, "the one that idles", events, 4, twelve(api.EventIdle, 3, api.EventWake, 2, api.EventStart, 3))
	// Partition 2 has two ticks of ten: of each three the first does ldi, the second LOG, the third has the fault: 80 ticks.
	wantCounts(t, "the one with faults", events, 2, twelve(api.EventCall, 27, api.EventLog, 27, api.EventFault, 26, api.EventRestart, 26, api.EventStart, 27))
	// Partition 1 has 80 ticks too, and goes round every seven: 11 times it sends, and writes. Partition 3 has room for one message.
	wantCounts(t, "the one that sends", events, 1, twelve(api.EventCall, 22, api.EventOut, 11, api.EventStart, 1))
	wantCounts(t, "the one that is never done", events, 3, twelve(api.EventStart, 1, api.EventMiss, 1, api.EventOverrun, 1, api.EventArrive, 1, api.EventLost, 10))
}

// What the kernel does is what a chart tells: its occupants letter by letter, and one instruction in each tick of who never waits.
func TestWhoHasUsedWhat(t *testing.T) {
	t.Parallel()
	for what, list := range families() {
		x := image(list...)
		for i := range x.Parts {
			x.Parts[i].Code, x.Parts[i].Procs = codeOf(t, "addi r1 r1 1\njmp 0"), []api.Proc{{Auto: true}}
		}
		for _, how := range []int{api.Online, api.ByTable} {
			k := runOf(t, x, nil, how, 300)
			counts := used(t, list, 0, 300)
			if k.Steps() != 300-counts[0] {
				t.Errorf("%s: %d instructions, and %v", what, k.Steps(), counts)
			}
			line, err := report.Chart(list, 0, 300)
			if err != api.OK {
				t.Fatal(what, err)
			}
			for tick, letter := range line {
				if part, err := k.Occupant(tick); err != api.OK || letter != rune(letters[part]) {
					t.Fatalf("%s: tick %d: %q, and the kernel's occupant is %d", what, tick, letter, part)
				}
			}
			for i := range list {
				state, err := k.Part(i + 1)
				if err != api.OK || state.Procs[0].Regs[1] != int64(counts[i+1]+1)/2 {
					t.Errorf("%s: partition %d has counted to %d in %d ticks", what, i+1, state.Procs[0].Regs[1], counts[i+1])
				}
			}
		}
	}
}
