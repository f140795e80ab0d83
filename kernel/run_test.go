package kernel_test

import (
	"fmt"
	"testing"

	"bulkhead/api"
	"bulkhead/kernel"
	"bulkhead/occ"
)

// chapter is the image of the chapter's examples.
func chapter() api.Image {
	return api.Image{Parts: []api.Part{partition(api.Server{Period: 4, Budget: 2, Offset: 1, Priority: 1}, auto(1, "ldi r1 7, sys 14, jmp 1"))}}
}

// at tells where a kernel stands, in one text.
func at(k *kernel.Kernel) string {
	text := fmt.Sprintf("Now %d, Steps %d, Stops %d\n%s", k.Now(), k.Steps(), k.Stops(), show(k.Trace()))
	for p := 1; ; p++ {
		s, err := k.Part(p)
		if err != api.OK {
			return text
		}
		text += "\n" + stateText(s)
	}
}

// The chapter's examples, line by line.
func TestTheChaptersExamples(t *testing.T) {
	for _, w := range ways() {
		k := w.boots(t, lay(t, chapter(), nil))
		is := func(what string, err api.Errno, now, steps, stops int, trace string) {
			t.Helper()
			if err != api.OK || k.Now() != now || k.Steps() != steps || k.Stops() != stops || show(k.Trace()) != told(trace) {
				t.Fatalf("%s: %s: %d, %s", w.name, what, err, at(k))
			}
		}
		trace := "0/1 start p1\n"
		is("Boot", api.OK, 0, 0, 0, trace)
		for tick, want := range []int{0, 1, 1, 0, 0, 1, 1} {
			if who, err := k.Occupant(tick); who != want || err != api.OK {
				t.Errorf("%s: Occupant(%d) = %d, %d", w.name, tick, who, err)
			}
		}
		is("Run(2, 100)", k.Run(2, 100), 2, 1, 1, trace)
		trace += "2/1 log p1 a7\n2/1 call p1 a14\n"
		is("Run(7, 1)", k.Run(7, 1), 3, 2, 2, trace)
		trace += "6/1 log p1 a7\n6/1 call p1 a14\n"
		is("Run(7, 100)", k.Run(7, 100), 7, 4, 4, trace)
		if err := k.Run(6, 1); err != api.ErrArg {
			t.Errorf("%s: Run(6, 1): %d", w.name, err)
		}
		if _, err := k.Part(2); err != api.ErrPart {
			t.Errorf("%s: Part(2): %d", w.name, err)
		}
		is("behind these", api.OK, 7, 4, 4, trace)
	}
}

// The document's example, tick by tick.
func TestTheDocumentsExample(t *testing.T) {
	x := api.Image{
		Parts: []api.Part{
			partition(api.Server{Period: 4, Budget: 2, Priority: 2}, auto(0, send(1, 0, -1)+", jmp 0")),
			partition(api.Server{Period: 4, Budget: 2, Offset: 2, Priority: 1}, auto(0, receive(2, 0, -1)+", jmp 3")),
		},
		Ports:    []api.Port{queueOut(1, 1, 1), queueIn(2, 1, 1)},
		Channels: []api.Channel{{Kind: api.Queuing, From: 1, To: []int{2}, Period: 4}},
	}
	x.Parts[0].Words, x.Parts[0].Init, x.Parts[1].Words = 1, []int64{42}, 1
	k := plays(t, x, nil, 12, `
		0/1 start p1
		0/2 start p1
		5/1 call p1 a17
		8/2 arrive a2
		8/2 call p1 a18
	`)
	if s := stands(t, k, 2); s.Memory[0] != 42 || s.Procs[0].State != api.Receiving || k.Steps() != 12 || k.Stops() != 12 {
		t.Errorf("at 12: %+v", s)
	}
	for tick, want := range []int{1, 1, 2, 2, 1, 1, 2, 2, 1, 1, 2, 2} {
		if who, err := k.Occupant(tick); who != want || err != api.OK {
			t.Errorf("Occupant(%d) = %d, %d", tick, who, err)
		}
	}
}

// What Run refuses changes nothing, at Now 0, in the midst, and at the end (P22.4).
func TestP22_4_Refusals(t *testing.T) {
	for _, w := range ways() {
		k := w.boots(t, lay(t, chapter(), []api.Input{wake(end-9, 1)}))
		for _, now := range []int{0, 1, 6, 7} {
			runs(t, k, now, plenty)
			was := at(k)
			for _, c := range [][2]int{
				{now - 1, 100}, {now - 1, 0}, {-1, 100}, {bottom, 100}, {bottom, bottom},
				{end + 1, 100}, {end + 1, 0}, {top, top}, {now, -1}, {now + 5, -1}, {end, -1}, {now + 5, bottom},
			} {
				if err := k.Run(c[0], c[1]); err != api.ErrArg || at(k) != was {
					t.Errorf("%s: at %d Run(%d, %d) = %d\n%s", w.name, now, c[0], c[1], err, at(k))
				}
			}
			for _, c := range [][2]int{{now, 0}, {now, 1}, {now, top}, {now + 1, 0}, {end, 0}} {
				if err := k.Run(c[0], c[1]); err != api.OK || at(k) != was {
					t.Errorf("%s: at %d Run(%d, %d) = %d\n%s", w.name, now, c[0], c[1], err, at(k))
				}
			}
		}
		// It loops to the end: let it be stopped, ahead of going there.
		k = w.boots(t, lay(t, api.Image{Parts: []api.Part{partition(whole(1), auto(1, "sys 4"))}}, []api.Input{wake(end-9, 1)}))
		runs(t, k, end, top)
		was := at(k)
		if k.Now() != end || k.Steps() != 2 || k.Stops() != 2 {
			t.Errorf("%s: %s", w.name, was)
		}
		for _, until := range []int{end - 1, end + 1, 0, -1, bottom, top} {
			if err := k.Run(until, 5); err != api.ErrArg || at(k) != was {
				t.Errorf("%s: at the end Run(%d, 5) = %d\n%s", w.name, until, err, at(k))
			}
		}
		for _, most := range []int{0, 1, top} {
			if err := k.Run(end, most); err != api.OK || at(k) != was {
				t.Errorf("%s: at the end Run(MaxTick, %d) = %d\n%s", w.name, most, err, at(k))
			}
		}
	}
}

// Run ends behind the tick of the last instruction that it may do, be there a stretch of nothing, or of timers, behind it; with room for one more it goes on to until (P22.4).
func TestP22_4_Most(t *testing.T) {
	for _, w := range ways() {
		for _, c := range []struct{ until, most, now, steps int }{
			{12, 0, 0, 0}, {12, 1, 2, 1}, {12, 2, 3, 2}, {12, 3, 6, 3}, {12, 4, 7, 4}, {12, 5, 10, 5}, {12, 6, 11, 6}, {12, 7, 12, 6}, {12, top, 12, 6},
			{11, 6, 11, 6}, {11, 7, 11, 6}, {10, 6, 10, 5}, {9, 5, 9, 4}, {9, 4, 7, 4}, {1, 1, 1, 0}, {2, 1, 2, 1}, {2, 2, 2, 1},
		} {
			k := w.boots(t, lay(t, chapter(), nil))
			runs(t, k, c.until, c.most)
			if k.Now() != c.now || k.Steps() != c.steps || k.Stops() != c.steps {
				t.Errorf("%s: Run(%d, %d): Now %d, Steps %d, Stops %d, want %d, %d", w.name, c.until, c.most, k.Now(), k.Steps(), k.Stops(), c.now, c.steps)
			}
		}
	}
	// Ticks without an instruction are no part of most: inputs, timers and transfers come on the way.
	x := api.Image{
		Parts: []api.Part{
			partition(api.Server{Period: 100, Budget: 10, Priority: 1}, periodic(5, 7, 0, "sys 3, jmp 0")),
			partition(api.Server{Period: 100, Budget: 10, Offset: 50, Priority: 2}, auto(5, "jmp 0")),
		},
		Ports:    []api.Port{queueIn(1, 1, 9)},
		Channels: []api.Channel{{Kind: api.Queuing, To: []int{1}}},
	}
	inputs := []api.Input{message(20, 1, 1), message(30, 1, 1), message(55, 1, 1)}
	// sys 3 at 0, released at 7; jmp at 7, sys 3 at 8, released at 14: then nobody till 50.
	for _, w := range ways() {
		k := w.boots(t, lay(t, x, inputs))
		runs(t, k, 100, 3)
		if k.Now() != 9 || k.Steps() != 3 || k.Stops() != 3 {
			t.Errorf("%s: Run(100, 3): Now %d, Steps %d, Stops %d", w.name, k.Now(), k.Steps(), k.Stops())
		}
		runs(t, k, 40, 1)
		if k.Now() != 40 || k.Steps() != 3 || k.Stops() != 7 {
			// The release at 14, the overrun at 21, the inputs at 20 and 30.
			t.Errorf("%s: Run(40, 1): Now %d, Steps %d, Stops %d", w.name, k.Now(), k.Steps(), k.Stops())
		}
		runs(t, k, 100, 6)
		if k.Now() != 56 || k.Steps() != 9 || k.Stops() != 13 {
			t.Errorf("%s: Run(100, 6): Now %d, Steps %d, Stops %d", w.name, k.Now(), k.Steps(), k.Stops())
		}
	}
}

// Occupant tells of any tick, done or not, asked in any order, and changes nothing (P22.6).
func TestP22_6_Occupant(t *testing.T) {
	x := small()
	x.Parts[0].Procs, x.Parts[1].Procs = x.Parts[0].Procs[1:], []api.Proc{{}}
	ticks := []int{0, 1, 4, 8, 9, 10, 18, 28, 8, 0, 1000003, 7, end - 1, 3, end - 2, end - 10, 19, end - 1, 2, 17}
	for _, w := range ways() {
		k := w.boots(t, lay(t, x, nil))
		for _, until := range []int{0, 1, 9, 30, end} {
			runs(t, k, until, plenty)
			was := at(k)
			for _, tick := range ticks {
				want, _ := occ.At(serversOf(x), tick)
				if who, err := k.Occupant(tick); who != want || err != api.OK {
					t.Errorf("%s: at %d Occupant(%d) = %d, %d, want %d", w.name, until, tick, who, err, want)
				}
			}
			for _, tick := range []int{-1, end, bottom, top, -end, end + 1} {
				if who, err := k.Occupant(tick); who != 0 || err != api.ErrArg {
					t.Errorf("%s: at %d Occupant(%d) = %d, %d", w.name, until, tick, who, err)
				}
			}
			if at(k) != was {
				t.Errorf("%s: asking has changed\n%s\nto\n%s", w.name, was, at(k))
			}
		}
	}
	// That ticks were asked for changes nothing of what is done behind it.
	for _, w := range ways() {
		k, h := w.boots(t, lay(t, small(), nil)), historyOf(newMachine(small(), nil), 40)
		for k.Now() < 40 {
			runs(t, k, k.Now()+1, plenty)
			k.Occupant(end - 1)
			k.Occupant(0)
			h.holds(t, w.name, k)
		}
	}
}

// Part is told of each partition there is, and of no other (P22.5).
func TestP22_5_Part(t *testing.T) {
	for _, w := range ways() {
		k := w.boots(t, lay(t, small(), nil))
		for p, want := range map[int]api.Errno{0: api.ErrPart, 1: api.OK, 2: api.OK, 3: api.ErrPart, -1: api.ErrPart, bottom: api.ErrPart, top: api.ErrPart} {
			s, err := k.Part(p)
			if err != want || err != api.OK && stateText(s) != stateText(api.PartState{}) {
				t.Errorf("%s: Part(%d) = %d", w.name, p, err)
			}
		}
		if one, two := stands(t, k, 1), stands(t, k, 2); len(one.Procs) != 2 || len(two.Procs) != 1 {
			t.Errorf("%s: %d and %d processes", w.name, len(one.Procs), len(two.Procs))
		}
	}
}

// Each thing that a phase may do makes a stop of its tick, also where it leaves no event; what only might have happened makes none (P22.7).
func TestP22_7_Stops(t *testing.T) {
	sleeping := act{api.Proc{Priority: 1}, "nop, jmp 0"}
	quiet := api.Image{
		Parts: []api.Part{partition(whole(1), sleeping)},
		Ports: []api.Port{queueIn(1, 1, 1), sampleIn(1, 1, 0), queueOut(1, 1, 1)},
		Channels: []api.Channel{
			{Kind: api.Queuing, To: []int{1}}, {Kind: api.Sampling, To: []int{2}},
			{Kind: api.Queuing, From: 3, Period: 1},
		},
	}
	// A transfer that is due every tick finds nothing; a message that finds room, one that is lost, a sample without an event, two in one tick, a waking of nobody.
	k := plays(t, quiet, []api.Input{message(3, 1, 1), message(5, 1, 2), message(7, 2, 3), message(9, 2, 4), message(9, 2, 5), wake(9, 1), wake(11, 1)}, 20, `
		3/1 arrive a1
		5/1 lost a1
		9/1 wake
		11/1 wake
	`)
	if k.Steps() != 0 || k.Stops() != 5 {
		t.Errorf("inputs: Steps %d, Stops %d", k.Steps(), k.Stops())
	}
	for until, want := range map[int]int{3: 0, 4: 1, 5: 1, 6: 2, 7: 2, 8: 3, 9: 3, 10: 4, 12: 5, end: 5} {
		k := ways()[0].boots(t, lay(t, quiet, []api.Input{message(3, 1, 1), message(5, 1, 2), message(7, 2, 3), message(9, 2, 4), message(9, 2, 5), wake(9, 1), wake(11, 1)}))
		if runs(t, k, until, 1); k.Stops() != want {
			t.Errorf("Stops %d at %d, want %d", k.Stops(), until, want)
		}
	}
	// Timers of a partition that has no tick of its own: a release, a deadline, both in one tick.
	starved := api.Image{Parts: []api.Part{
		partition(api.Server{Period: 50, Budget: 1, Priority: 1}, periodic(1, 9, 4, "sys 3, jmp 0"), periodic(1, 4, 4, "sys 3, jmp 0")),
		partition(whole(2), sleeping),
	}}
	k = plays(t, starved, nil, 50, `
		0/1 start p1
		0/1 start p2
		4/1 miss p1 a4
		4/1 miss p2 a4
		4/1 overrun p2
		9/1 overrun p1
	`)
	if k.Steps() != 0 || k.Stops() != 2 {
		t.Errorf("timers: Steps %d, Stops %d", k.Steps(), k.Stops())
	}
	// A transfer of a partition that has stopped long since; the tick behind it finds the queue empty.
	moved := api.Image{
		Parts:    []api.Part{partition(whole(1), auto(1, send(1, 0, 0)+", sys 4"))},
		Ports:    []api.Port{queueOut(1, 1, 3), sampleIn(1, 1, 0)},
		Channels: []api.Channel{{Kind: api.Queuing, From: 1, Phase: 10, Period: 11}},
	}
	k = plays(t, moved, nil, 40, `
		0/1 start p1
		3/1 call p1 a17
		10/1 out a1 [0]
	`)
	if k.Steps() != 5 || k.Stops() != 6 {
		t.Errorf("transfer: Steps %d, Stops %d", k.Steps(), k.Stops())
	}
	// A fault and a restart are instructions like others.
	failing := api.Image{Parts: []api.Part{partition(whole(1), auto(1, "nop, ld r1 r0 99"))}}
	failing.Parts[0].Health[api.FaultMemory] = api.ActRestart
	k = plays(t, failing, nil, 4, `
		0/1 start p1
		1/1 fault p1 a2 b1
		1/1 restart
		1/1 start p1
		3/1 fault p1 a2 b1
		3/1 restart
		3/1 start p1
	`)
	if k.Steps() != 4 || k.Stops() != 4 {
		t.Errorf("faults: Steps %d, Stops %d", k.Steps(), k.Stops())
	}
}
