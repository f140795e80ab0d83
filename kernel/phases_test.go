package kernel_test

import (
	"fmt"
	"slices"
	"testing"

	"bulkhead/api"
)

// Servers that part the time in turns of 20 ticks: the first has twelve, the second the other eight.
func twelve() api.Server { return api.Server{Period: 20, Budget: 12, Priority: 2} }
func eight() api.Server  { return api.Server{Period: 20, Budget: 8, Offset: 12, Priority: 1} }

func queueIn(part, size, depth int) api.Port {
	return api.Port{Part: part, Kind: api.Queuing, Size: size, Depth: depth}
}

func queueOut(part, size, depth int) api.Port {
	return api.Port{Part: part, Kind: api.Queuing, Out: true, Size: size, Depth: depth}
}

func sampleIn(part, size, refresh int) api.Port {
	return api.Port{Part: part, Kind: api.Sampling, Size: size, Refresh: refresh}
}

func sampleOut(part, size int) api.Port {
	return api.Port{Part: part, Kind: api.Sampling, Out: true, Size: size}
}

func message(tick, channel int, data ...int64) api.Input {
	return api.Input{Tick: tick, Kind: api.InputMessage, Target: channel, Data: data}
}

func wake(tick, part int) api.Input {
	return api.Input{Tick: tick, Kind: api.InputWake, Target: part}
}

// receive is code that receives a word from a port, to an address, within a time.
func receive(port, addr, time int) string {
	return fmt.Sprintf("ldi r1 %d, ldi r2 %d, ldi r3 %d, sys 18", port, addr, time)
}

// send is code that sends the word at an address.
func send(port, addr, time int) string {
	return fmt.Sprintf("ldi r1 %d, ldi r2 %d, ldi r3 %d, sys 17", port, addr, time)
}

// everything is two partitions, in the first of which an input, a transfer and a timer fall on one tick: process 1 is woken there, 2 is waiting for the input, 3 for the transfer, 4 loops.
func everything(tick int) (api.Image, []api.Input) {
	x := api.Image{
		Parts: []api.Part{
			partition(twelve(),
				auto(9, fmt.Sprintf("ldi r1 %d, sys 2, sys 14, sys 4", tick-1)),
				auto(8, receive(1, 0, -1)+", sys 4"), auto(7, receive(2, 1, -1)+", sys 4"), auto(1, "jmp 0")),
			partition(eight(), auto(1, send(3, 0, -1)+", sys 4")),
		},
		Ports:    []api.Port{queueIn(1, 1, 1), queueIn(1, 1, 1), queueOut(2, 1, 1)},
		Channels: []api.Channel{{Kind: api.Queuing, To: []int{1}}, {Kind: api.Queuing, From: 3, To: []int{2}, Phase: tick % 20, Period: 20}},
	}
	x.Parts[1].Init = []int64{66}
	return x, []api.Input{message(tick, 1, 55)}
}

// All four phases of one tick, in their order, inside the partition's slot and outside of it (P22.3, rules 5 and 9).
func TestP22_3_AllPhasesOfOneTick(t *testing.T) {
	const ahead = `
		0/1 start p1
		0/1 start p2
		0/1 start p3
		0/1 start p4
		0/2 start p1
		15/2 call p1 a17
	`
	x, inputs := everything(24)
	k := plays(t, x, inputs, 25, ahead+`
		24/1 arrive a1
		24/1 call p2 a18
		24/1 arrive a2
		24/1 call p3 a18
		24/1 call p1 a2
		24/1 log p1 a23
		24/1 call p1 a14
	`)
	if s := stands(t, k, 1); !slices.Equal(s.Memory[:2], []int64{55, 66}) {
		t.Errorf("memory %v", s.Memory)
	}
	x, inputs = everything(34)
	plays(t, x, inputs, 43, ahead+`
		34/1 arrive a1
		34/1 call p2 a18
		34/1 arrive a2
		34/1 call p3 a18
		34/1 call p1 a2
		40/1 log p1 a33
		40/1 call p1 a14
	`)
}

// A tick's input, transfer, timer and instruction are one stop; so is each of them alone (P22.7).
func TestP22_7_StopsOfAllPhases(t *testing.T) {
	x, inputs := everything(24)
	k := plays(t, x, inputs, 12, `
		0/1 start p1
		0/1 start p2
		0/1 start p3
		0/1 start p4
		0/2 start p1
	`)
	if k.Steps() != 12 || k.Stops() != 12 {
		t.Errorf("Steps %d, Stops %d at 12", k.Steps(), k.Stops())
	}
	// 12 ticks of the first, 5 of the second (16 ahead of its end), and 12 of the first again: tick 24 is one of them.
	runs(t, k, 32, plenty)
	if k.Steps() != 29 || k.Stops() != 29 {
		t.Errorf("Steps %d, Stops %d at 32", k.Steps(), k.Stops())
	}
	// Outside of the slot the tick is a stop of its own.
	x, inputs = everything(34)
	k = ways()[0].boots(t, lay(t, x, inputs))
	runs(t, k, 34, plenty)
	if k.Steps() != 29 || k.Stops() != 29 {
		t.Errorf("Steps %d, Stops %d at 34", k.Steps(), k.Stops())
	}
	runs(t, k, 40, plenty)
	if k.Steps() != 29 || k.Stops() != 30 {
		t.Errorf("Steps %d, Stops %d at 40", k.Steps(), k.Stops())
	}
}

// Of a message and a time-out of one tick the message wins, whether it is an input or comes by a transfer; one tick later it is too late (rule 5).
func TestP22_3_MessageAheadOfTimeOut(t *testing.T) {
	waiting := func(time int) api.Image {
		return api.Image{
			Parts:    []api.Part{partition(whole(1), auto(5, receive(1, 0, time)+", sys 4"))},
			Ports:    []api.Port{queueIn(1, 1, 1)},
			Channels: []api.Channel{{Kind: api.Queuing, To: []int{1}}},
		}
	}
	plays(t, waiting(7), []api.Input{message(10, 1, 5)}, 20, `
		0/1 start p1
		10/1 arrive a1
		10/1 call p1 a18
	`)
	plays(t, waiting(6), []api.Input{message(10, 1, 5)}, 20, `
		0/1 start p1
		9/1 call p1 a18 b4
		10/1 arrive a1
	`)
	moving := func(time int) api.Image {
		return api.Image{
			Parts: []api.Part{
				partition(eight(), auto(5, receive(1, 0, time)+", sys 4")),
				partition(twelve(), auto(5, send(2, 0, -1)+", sys 4")),
			},
			Ports:    []api.Port{queueIn(1, 1, 1), queueOut(2, 1, 1)},
			Channels: []api.Channel{{Kind: api.Queuing, From: 2, To: []int{1}, Phase: 20, Period: 40}},
		}
	}
	plays(t, moving(5), nil, 30, `
		0/1 start p1
		0/2 start p1
		3/2 call p1 a17
		20/1 arrive a1
		20/1 call p1 a18
	`)
	plays(t, moving(4), nil, 30, `
		0/1 start p1
		0/2 start p1
		3/2 call p1 a17
		19/1 call p1 a18 b4
		20/1 arrive a1
	`)
}

// A sender that waits is told behind the arrivals, though it was woken ahead of them; a time-out of that tick comes too late (P22.3).
func TestP22_3_SenderIsToldLast(t *testing.T) {
	sending := func(time int) api.Image {
		x := api.Image{
			Parts: []api.Part{partition(whole(1),
				auto(9, receive(1, 4, -1)+", sys 4"),
				auto(8, send(2, 0, -1)+", ldi r2 1, ldi r3 "+fmt.Sprint(time)+", sys 17, sys 4"))},
			Ports:    []api.Port{queueIn(1, 1, 1), queueOut(1, 1, 1), queueIn(1, 1, 1)},
			Channels: []api.Channel{{Kind: api.Queuing, From: 2, To: []int{1, 3}, Phase: 1, Period: 12}},
		}
		x.Parts[0].Init = []int64{71, 72}
		return x
	}
	k := plays(t, sending(3), nil, 26, `
		0/1 start p1
		0/1 start p2
		7/1 call p2 a17
		13/1 arrive a1
		13/1 call p1 a18
		13/1 arrive a3
		13/1 call p2 a17
		25/1 arrive a1
		25/1 lost a3
	`)
	if s := stands(t, k, 1); s.Memory[4] != 71 || s.Place <= 0 || len(s.Ports[0].Queue) != 1 || s.Ports[0].Queue[0][0] != 72 || s.Ports[2].Lost != 1 {
		t.Errorf("behind two transfers: %+v", s)
	}
	plays(t, sending(2), nil, 26, `
		0/1 start p1
		0/1 start p2
		7/1 call p2 a17
		12/1 call p2 a17 b4
		13/1 arrive a1
		13/1 call p1 a18
		13/1 arrive a3
	`)
	// The sender has its place ahead of the receiver's: it was woken first.
	k = ways()[0].boots(t, lay(t, sending(3), nil))
	runs(t, k, 13, plenty)
	runs(t, k, 14, plenty)
	s := stands(t, k, 1)
	// At 13 process 1 (of the greater priority) does its sys 4; process 2 waits to be run, with the place that it was given.
	if s.Procs[1].State != api.Ready || s.Procs[0].State != api.Dormant || s.Procs[1].Place != s.Place-2 {
		t.Errorf("behind the transfer: %+v", s)
	}
}

// Inputs of one tick go by the script's order: what lies there is gone behind a waking, what comes behind it stays (P22.3).
func TestP22_3_InputsInOrder(t *testing.T) {
	x := api.Image{
		Parts:    []api.Part{partition(whole(1), auto(5, "sys 4")), partition(whole(2), auto(5, "sys 4"))},
		Ports:    []api.Port{queueIn(1, 1, 2), queueIn(2, 1, 2)},
		Channels: []api.Channel{{Kind: api.Queuing, To: []int{1, 2}}},
	}
	k := plays(t, x, []api.Input{message(6, 1, 61), wake(6, 1), message(6, 1, 62)}, 9, `
		0/1 start p1
		0/2 start p1
		6/1 arrive a1
		6/2 arrive a2
		6/1 wake
		6/1 start p1
		6/1 arrive a1
		6/2 arrive a2
	`)
	one, two := stands(t, k, 1), stands(t, k, 2)
	if fmt.Sprint(one.Ports[0].Queue, two.Ports[1].Queue) != "[[62]] [[61] [62]]" || one.Restarts != 1 || two.Restarts != 0 {
		t.Errorf("%v, %v", one.Ports, two.Ports)
	}
	plays(t, x, []api.Input{wake(6, 2), wake(6, 1), wake(6, 1)}, 9, `
		0/1 start p1
		0/2 start p1
		6/2 wake
		6/2 start p1
		6/1 wake
		6/1 start p1
		6/1 wake
		6/1 start p1
	`)
}

// A waking of a tick empties the queues ahead of the tick's transfers; a message that is moved reaches the partition that was woken (rule 5).
func TestP22_3_InputsAheadOfTransfers(t *testing.T) {
	x := api.Image{
		Parts: []api.Part{
			partition(twelve(), auto(5, send(1, 0, -1)+", sys 4")),
			partition(eight(), auto(5, receive(2, 0, -1)+", sys 4")),
		},
		Ports:    []api.Port{queueOut(1, 1, 1), queueIn(2, 1, 1)},
		Channels: []api.Channel{{Kind: api.Queuing, From: 1, To: []int{2}, Phase: 10, Period: 20}},
	}
	k := plays(t, x, []api.Input{wake(10, 1)}, 12, `
		0/1 start p1
		0/2 start p1
		3/1 call p1 a17
		10/1 wake
		10/1 start p1
	`)
	// Five instructions of the first life, and those of ticks 10 and 11; tick 10 is one stop.
	if k.Steps() != 7 || k.Stops() != 7 {
		t.Errorf("Steps %d, Stops %d", k.Steps(), k.Stops())
	}
	k = plays(t, x, []api.Input{wake(30, 2)}, 40, `
		0/1 start p1
		0/2 start p1
		3/1 call p1 a17
		10/2 arrive a2
		15/2 call p1 a18
		30/2 wake
		30/2 start p1
	`)
	if s := stands(t, k, 2); s.Memory[0] != 0 || s.Procs[0].State != api.Receiving {
		t.Errorf("%+v", s)
	}
	plays(t, x, []api.Input{wake(10, 2)}, 20, `
		0/1 start p1
		0/2 start p1
		3/1 call p1 a17
		10/2 wake
		10/2 start p1
		10/2 arrive a2
		15/2 call p1 a18
	`)
}

// Transfers of one tick go by the channels' numbers, whatever their ports' and partitions' are; a channel goes to its ports in their order, each with its own room (P22.3).
func TestP22_3_TransfersByNumber(t *testing.T) {
	sender := func(port, word int, s api.Server) api.Part {
		p := partition(s, auto(5, send(port, 0, -1)+", jmp 3"))
		p.Init = []int64{int64(word)}
		return p
	}
	x := api.Image{
		Parts: []api.Part{
			sender(1, 71, api.Server{Period: 20, Budget: 6, Priority: 3}),
			sender(2, 72, api.Server{Period: 20, Budget: 6, Offset: 6, Priority: 2}),
			partition(eight(), auto(5, receive(4, 2, -1)+", sys 4")),
		},
		Ports: []api.Port{queueOut(1, 1, 2), queueOut(2, 1, 2), queueIn(3, 1, 1), queueIn(3, 1, 1), queueIn(1, 1, 9)},
		Channels: []api.Channel{
			{Kind: api.Queuing, From: 2, To: []int{3}, Phase: 18, Period: 20},
			{Kind: api.Queuing, From: 1, To: []int{4, 5}, Phase: 18, Period: 20},
		},
	}
	k := plays(t, x, nil, 40, `
		0/1 start p1
		0/2 start p1
		0/3 start p1
		3/1 call p1 a17
		5/1 call p1 a17
		9/2 call p1 a17
		11/2 call p1 a17
		18/3 arrive a3
		18/3 arrive a4
		18/3 call p1 a18
		18/1 arrive a5
		21/1 call p1 a17
		27/2 call p1 a17
		38/3 lost a3
		38/2 call p1 a17
		38/3 arrive a4
		38/1 arrive a5
		38/1 call p1 a17
	`)
	if s := stands(t, k, 3); s.Memory[2] != 71 || fmt.Sprint(s.Ports[2].Queue, s.Ports[2].Lost, s.Ports[3].Queue) != "[[72]] 1 [[71]]" {
		t.Errorf("%+v", s)
	}
}

// Two channels can't go into one port: such an image is refused, each way.
func TestP22_1_TwoChannelsIntoOnePort(t *testing.T) {
	x := api.Image{
		Parts:    []api.Part{partition(whole(1), auto(5, "sys 4"))},
		Ports:    []api.Port{queueIn(1, 1, 1), queueOut(1, 1, 1)},
		Channels: []api.Channel{{Kind: api.Queuing, To: []int{1}}, {Kind: api.Queuing, From: 2, To: []int{1}, Period: 1}},
	}
	for _, w := range ways() {
		if k, err := w.boot(lay(t, x, nil)); k != nil || err != api.ErrChannel {
			t.Errorf("%s: %d", w.name, err)
		}
	}
}

// A channel without a To port goes out: from a queue when it is due, ahead of the Call of who waited to send; from a sampling port at once, behind the Call (P22.3).
func TestP22_3_Out(t *testing.T) {
	x := api.Image{
		Parts: []api.Part{partition(whole(1),
			auto(5, "ldi r1 1, ldi r2 1, ldi r3 -1, sys 17, ldi r2 0, sys 17, sys 4"))},
		Ports:    []api.Port{queueOut(1, 2, 1), queueIn(1, 1, 1)},
		Channels: []api.Channel{{Kind: api.Queuing, To: []int{2}}, {Kind: api.Queuing, From: 1, Phase: 3, Period: 5}},
	}
	x.Parts[0].Init = []int64{4, 5, 6}
	k := plays(t, x, nil, 20, `
		0/1 start p1
		3/1 call p1 a17
		8/1 out a2 [5 6]
		8/1 call p1 a17
		13/1 out a2 [4 5]
	`)
	// The seven instructions, the last of them in the tick of the first transfer, and the second transfer.
	if k.Steps() != 7 || k.Stops() != 8 {
		t.Errorf("Steps %d, Stops %d", k.Steps(), k.Stops())
	}
	x = api.Image{
		Parts: []api.Part{partition(whole(1), auto(5, "ldi r1 2, ldi r2 1, sys 15, ldi r1 1, sys 15, ldi r1 2, sys 15, sys 4"))},
		Ports: []api.Port{sampleOut(1, 1), sampleOut(1, 2), sampleIn(1, 3, 0)},
		// Port 1 feeds no channel: what is written there goes nowhere.
		Channels: []api.Channel{{Kind: api.Sampling, To: []int{3}}, {Kind: api.Sampling, From: 2}},
	}
	x.Parts[0].Init = []int64{4, 5, 6}
	k = plays(t, x, nil, 20, `
		0/1 start p1
		2/1 call p1 a15
		2/1 out a2 [5 6]
		4/1 call p1 a15
		6/1 call p1 a15
		6/1 out a2 [5 6]
	`)
	if s := stands(t, k, 1); fmt.Sprint(s.Ports) != fmt.Sprint(make([]api.PortState, 3)) {
		t.Errorf("%+v", s.Ports)
	}
}

// What is written to a sampling channel is there behind the instruction, at all its ports, stamped with the tick; an input's sample is there for the instruction of its own tick (P22.3).
func TestP22_3_Samples(t *testing.T) {
	read := "ldi r1 %d, ldi r2 0, sys 16, sys 14, jmp 0"
	x := api.Image{
		Parts: []api.Part{
			partition(api.Server{Period: 10, Budget: 5, Priority: 2}, auto(5, "ldi r1 1, ldi r2 0, nop, nop, sys 15, sys 4")),
			partition(api.Server{Period: 10, Budget: 5, Offset: 5, Priority: 1}, auto(5, fmt.Sprintf(read, 2))),
		},
		Ports:    []api.Port{sampleOut(1, 1), sampleIn(2, 1, 3), sampleIn(1, 1, 0), sampleIn(2, 1, 0)},
		Channels: []api.Channel{{Kind: api.Sampling, From: 1, To: []int{2, 3}}, {Kind: api.Sampling, To: []int{4}}},
	}
	x.Parts[0].Init = []int64{9}
	k := plays(t, x, []api.Input{message(7, 2, 33)}, 20, `
		0/1 start p1
		0/2 start p1
		4/1 call p1 a15
		7/2 call p1 a16
		8/2 log p1 a3
		8/2 call p1 a14
		17/2 call p1 a16 b7
		18/2 log p1 a13
		18/2 call p1 a14
	`)
	one, two := stands(t, k, 1), stands(t, k, 2)
	want := api.Sample{Has: true, Tick: 4, Data: []int64{9}}
	if fmt.Sprint(one.Ports[2].Sample, two.Ports[1].Sample) != fmt.Sprint(want, want) || two.Memory[0] != 9 {
		t.Errorf("%+v, %+v", one.Ports, two.Ports)
	}
	if fmt.Sprint(two.Ports[3].Sample) != fmt.Sprint(api.Sample{Has: true, Tick: 7, Data: []int64{33}}) {
		t.Errorf("%+v", two.Ports)
	}
	// The sample of the tick of the READ is 0 ticks old, and fresh, though the port's Refresh is 0.
	x.Parts[1] = partition(x.Parts[1].Server, auto(5, fmt.Sprintf(read, 4)))
	plays(t, x, []api.Input{message(7, 2, 33)}, 19, `
		0/1 start p1
		0/2 start p1
		4/1 call p1 a15
		7/2 call p1 a16
		8/2 log p1
		8/2 call p1 a14
		17/2 call p1 a16 b7
		18/2 log p1 a10
		18/2 call p1 a14
	`)
	// One tick later it is not there yet.
	plays(t, x, []api.Input{message(8, 2, 33)}, 9, `
		0/1 start p1
		0/2 start p1
		4/1 call p1 a15
		7/2 call p1 a16 b6
		8/2 log p1 a4
		8/2 call p1 a14
	`)
}

// Timers go by the partitions' numbers; in each one the deadlines, then the releases, then the wakings, each kind by the processes' numbers (rule 5).
func TestP22_3_TimersInOrder(t *testing.T) {
	all := func(s api.Server) api.Part {
		return partition(s,
			auto(1, "ldi r1 21, sys 2, sys 4"),       // woken at 30
			periodic(9, 30, 30, "ldi r1 500, sys 2"), // neither done by its deadline nor by its release, both at 30
			periodic(8, 30, 0, "sys 3, jmp 0"),       // released at 30
			periodic(7, 30, 30, "ldi r1 500, sys 2"), // as 2
			auto(6, "ldi r1 24, sys 2, sys 4"),       // as 1
			periodic(2, 10, 0, "sys 3, jmp 0"))       // released at 10, 20, 30
	}
	x := api.Image{Parts: []api.Part{
		all(api.Server{Period: 60, Budget: 40, Priority: 3}),
		all(api.Server{Period: 60, Budget: 20, Offset: 31, Priority: 4}), // it has had no tick by then
	}}
	plays(t, x, nil, 31, `
		0/1 start p1
		0/1 start p2
		0/1 start p3
		0/1 start p4
		0/1 start p5
		0/1 start p6
		0/2 start p1
		0/2 start p2
		0/2 start p3
		0/2 start p4
		0/2 start p5
		0/2 start p6
		10/1 call p6 a3
		10/2 overrun p6
		20/1 call p6 a3
		30/1 miss p2 a30
		30/1 miss p4 a30
		30/1 overrun p2
		30/1 call p3 a3
		30/1 overrun p4
		30/1 call p6 a3
		30/1 call p1 a2
		30/1 call p5 a2
		30/2 miss p2 a30
		30/2 miss p4 a30
		30/2 overrun p2
		30/2 overrun p3
		30/2 overrun p4
	`)
}

// A job that is done by an instruction of the tick of its deadline has missed it; one tick earlier it is in time (rule 5).
func TestP22_3_DeadlineAheadOfItsInstruction(t *testing.T) {
	job := func(limit int) api.Image {
		return api.Image{Parts: []api.Part{partition(whole(1), periodic(5, 10, limit, "nop, nop, nop, sys 3, jmp 0"))}}
	}
	plays(t, job(3), nil, 10, `
		0/1 start p1
		3/1 miss p1 a3
	`)
	plays(t, job(4), nil, 15, `
		0/1 start p1
		10/1 call p1 a3
		14/1 miss p1 a14
	`)
}

// Behind a restart in the phase of the timers none of the old ones is due (rule 5), and another partition's are.
func TestP22_3_RestartAmongTimers(t *testing.T) {
	x := api.Image{Parts: []api.Part{
		partition(whole(1), periodic(5, 10, 10, "jmp 0"), auto(6, "ldi r1 9, sys 2, sys 4")),
		partition(whole(2), periodic(5, 10, 10, "sys 4"), periodic(5, 10, 10, "jmp 0")),
	}}
	x.Parts[0].Health[api.FaultMiss] = api.ActRestart
	plays(t, x, nil, 12, `
		0/1 start p1
		0/1 start p2
		0/2 start p1
		0/2 start p2
		10/1 miss p1 a10
		10/1 restart
		10/1 start p1
		10/1 start p2
		10/2 miss p2 a10
		10/2 overrun p2
	`)
}

// The occupant alone does an instruction, and only if it can; what others have ready lies till their tick (P22.3).
func TestP22_3_OnlyTheOccupantRuns(t *testing.T) {
	x := api.Image{Parts: []api.Part{
		partition(api.Server{Period: 4, Budget: 1, Priority: 9}, auto(5, "sys 14, jmp 0")),
		partition(api.Server{Period: 4, Budget: 2, Offset: 1, Priority: 8}, auto(5, "sys 4")),
		partition(api.Server{Period: 8, Budget: 2, Offset: 0, Priority: 7}, auto(5, "sys 14, sys 14, jmp 0")),
	}}
	// 1 2 2 3 1 2 2 3: partition 2 has nothing to do from tick 2 on, and keeps its ticks.
	k := plays(t, x, nil, 16, `
		0/1 start p1
		0/2 start p1
		0/3 start p1
		0/1 log p1
		0/1 call p1 a14
		3/3 log p1
		3/3 call p1 a14
		7/3 log p1
		7/3 call p1 a14
		8/1 log p1
		8/1 call p1 a14
		15/3 log p1
		15/3 call p1 a14
	`)
	if k.Steps() != 9 || k.Stops() != 9 {
		t.Errorf("Steps %d, Stops %d", k.Steps(), k.Stops())
	}
}
