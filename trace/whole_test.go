package trace_test

import (
	"slices"
	"testing"

	"bulkhead/api"
	"bulkhead/asm"
	"bulkhead/image"
	"bulkhead/kernel"
	"bulkhead/script"
	"bulkhead/trace"
)

// exampleOf is the document's example: partition 1 sends its word to partition 2.
func exampleOf(t *testing.T, word int64) []byte {
	t.Helper()
	part := func(offset, priority int, code string, word int64) api.Part {
		list, err, line := asm.Assemble([]byte(code))
		if err != api.OK {
			t.Fatalf("line %d: %d", line, err)
		}
		server := api.Server{Period: 4, Budget: 2, Offset: offset, Priority: priority}
		return api.Part{Server: server, Words: 1, Init: []int64{word}, Code: list, Procs: []api.Proc{{Auto: true}}}
	}
	b, err := image.Encode(api.Image{
		Parts: []api.Part{
			part(0, 2, "ldi r1 1\nldi r2 0\nldi r3 -1\nsys 17\njmp 0", word),
			part(2, 1, "ldi r1 2\nldi r2 0\nldi r3 -1\nsys 18\nld r1 r2 0\nsys 14\njmp 0", 0),
		},
		Ports:    []api.Port{{Part: 1, Kind: api.Queuing, Out: true, Size: 1, Depth: 1}, {Part: 2, Kind: api.Queuing, Size: 1, Depth: 1}},
		Channels: []api.Channel{{Kind: api.Queuing, From: 1, To: []int{2}, Period: 4}},
	})
	if err != api.OK {
		t.Fatal(err)
	}
	return b
}

// traceOf is what has happened below a tick.
func traceOf(t *testing.T, word int64, mode, until int) []api.Event {
	t.Helper()
	inputs, err := script.Encode(nil)
	if err != api.OK {
		t.Fatal(err)
	}
	k, err := kernel.Boot(exampleOf(t, word), inputs, mode)
	if err != api.OK {
		t.Fatal(err)
	}
	if err := k.Run(until, 1<<20); err != api.OK {
		t.Fatal(err)
	}
	return k.Trace()
}

// What a kernel has done is told line by line, and its twin, booted by the table, has done the same.
func TestATraceOfTheKernel(t *testing.T) {
	events := traceOf(t, 42, api.Online, 13)
	var lines []string
	for _, e := range events {
		line, ok := trace.Show(e)
		if !ok {
			t.Fatalf("%v has no line", e)
		}
		lines = append(lines, line)
	}
	want := []string{"0 1 start 1 0 0", "0 2 start 1 0 0", "5 1 call 1 17 0", "8 2 arrive 0 2 0", "8 2 call 1 18 0", "11 2 log 1 42 0", "11 2 call 1 14 0"}
	if !slices.Equal(lines, want) {
		t.Errorf("%q, want %q", lines, want)
	}
	events = traceOf(t, 42, api.Online, 1000)
	if !trace.Valid(events) || len(events) < 200 {
		t.Errorf("%d events, which are valid: %v", len(events), trace.Valid(events))
	}
	thereAndBack(t, events)
	if place := trace.Differ(events, traceOf(t, 42, api.ByTable, 1000)); place != -1 {
		t.Errorf("the twins differ at %d", place)
	}
}

// Another word is seen by who receives it, and by nobody else.
func TestWhoLearnsOfAnotherWord(t *testing.T) {
	a, b := traceOf(t, 42, api.Online, 1000), traceOf(t, 43, api.Online, 1000)
	if place := trace.Differ(a, b); place != 5 {
		t.Errorf("they differ at %d", place)
	}
	if place := trace.Differ(trace.Project(a, 1), trace.Project(b, 1)); place != -1 {
		t.Errorf("partition 1's events differ at %d", place)
	}
	if place := trace.Differ(trace.Project(a, 2), trace.Project(b, 2)); place != 3 {
		t.Errorf("partition 2's events differ at %d", place)
	}
}
