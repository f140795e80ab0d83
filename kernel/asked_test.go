package kernel

import (
	"testing"

	"bulkhead/api"
	"bulkhead/image"
	"bulkhead/script"
)

// counted stands between the kernel and a scheduler, and counts what is asked.
type counted struct {
	scheduler
	asked *int
}

func (c counted) Occupant() int {
	*c.asked++
	return c.scheduler.Occupant()
}

func (c counted) Until() int {
	*c.asked++
	return c.scheduler.Until()
}

func (c counted) Advance(to int) api.Errno {
	*c.asked++
	return c.scheduler.Advance(to)
}

// startCounted is a kernel whose questions to its schedulers are counted.
func startCounted(t *testing.T, x api.Image, inputs []api.Input, how int) (*Kernel, *int) {
	t.Helper()
	b, e := image.Encode(x)
	s, f := script.Encode(inputs)
	k, err := Boot(b, s, how)
	if e != api.OK || f != api.OK || err != api.OK {
		t.Fatal(e, f, err)
	}
	asked := new(int)
	begin := k.course.begin
	k.course = watch{begin: func() scheduler { return counted{begin(), asked} }}
	k.view = watch{begin: k.course.begin}
	return k, asked
}

// resting is a partition whose one process is started by nobody, or loops.
func resting(s api.Server, loops bool) api.Part {
	return api.Part{Server: s, Code: []api.Instr{{Op: 22}}, Procs: []api.Proc{{Auto: loops}}}
}

// Ticks in which nothing can happen are passed over without asking who occupies them; who could run but occupies none is sought through a turn of the occupants once, and never again (P22.4, W2).
func TestP22_4_IdleTicksAreNotAsked(t *testing.T) {
	servers := []api.Server{{Period: 5, Budget: 5, Offset: 4, Priority: 9}, {Period: 10, Budget: 6, Priority: 1}}
	var inputs []api.Input
	for i := range 1000 {
		inputs = append(inputs, api.Input{Tick: 1000 + i*1000003, Kind: api.InputWake, Target: 1})
	}
	for how := api.Online; how <= api.ByTable; how++ {
		idle := api.Image{Parts: []api.Part{resting(servers[0], false), resting(servers[1], false)}}
		k, asked := startCounted(t, idle, inputs, how)
		if err := k.Run(api.MaxTick, 1000); err != api.OK || k.Stops() != 1000 || *asked != 0 {
			t.Errorf("how %d: %d, Stops %d, asked %d times", how, err, k.Stops(), *asked)
		}
		// The second one occupies the ticks 0 to 3 alone.
		starved := api.Image{Parts: []api.Part{resting(servers[0], false), resting(servers[1], true)}}
		k, asked = startCounted(t, starved, inputs, how)
		if err := k.Run(api.MaxTick, 1000); err != api.OK || k.Steps() != 4 || k.Stops() != 1004 || *asked > 100 {
			t.Errorf("how %d: %d, Steps %d, Stops %d, asked %d times", how, err, k.Steps(), k.Stops(), *asked)
		}
	}
}

// On the way along the ticks, and over rising questions, a scheduler is never begun anew.
func TestASchedulerIsBegunOnce(t *testing.T) {
	x := api.Image{Parts: []api.Part{resting(api.Server{Period: 7, Budget: 3, Priority: 1}, true)}}
	for how := api.Online; how <= api.ByTable; how++ {
		k, _ := startCounted(t, x, nil, how)
		begun := 0
		begin := k.course.begin
		k.course.begin = func() scheduler {
			begun++
			return begin()
		}
		k.view.begin = k.course.begin
		for tick := range 300 {
			k.Run(tick, 2)
			k.Occupant(tick)
		}
		if begun != 2 {
			t.Errorf("how %d: begun %d times", how, begun)
		}
		if k.Occupant(5); begun != 3 {
			t.Errorf("how %d: begun %d times for a tick behind", how, begun)
		}
	}
}

// odd is a scheduler of no servers: the partitions by turns, each for so many ticks as its number.
type odd struct{ now int }

func (o *odd) place() (part, until int) {
	turn := o.now - o.now%3
	if o.now == turn {
		return 1, turn + 1
	}
	return 2, turn + 3
}

func (o *odd) Occupant() int {
	part, _ := o.place()
	return part
}

func (o *odd) Until() int {
	_, until := o.place()
	return until
}

func (o *odd) Advance(to int) api.Errno {
	o.now = to
	return api.OK
}

// The schedulers are asked through the interface alone: a kernel whose scheduler is another one goes by that.
func TestWaysTheSchedulerIsAskedThroughItsInterface(t *testing.T) {
	logs := []api.Instr{{Op: 27, Imm: api.CallLog}, {Op: 22}}
	x := api.Image{Parts: []api.Part{
		{Server: api.Server{Period: 1, Budget: 1, Priority: 3}, Code: logs, Procs: []api.Proc{{Auto: true}}},
		{Server: api.Server{Period: 1, Budget: 1, Priority: 2}, Code: logs, Procs: []api.Proc{{Auto: true}}},
	}}
	for how := api.Online; how <= api.ByTable; how++ {
		k, _ := startCounted(t, x, nil, how)
		k.course = watch{begin: func() scheduler { return &odd{} }}
		k.view = k.course
		k.Run(12, 100)
		at := map[int][]int{}
		for _, e := range k.Trace() {
			if e.Kind == api.EventLog {
				at[e.Part] = append(at[e.Part], e.Tick)
			}
		}
		if k.Steps() != 12 || len(at[1]) != 2 || at[1][0] != 0 || at[1][1] != 6 || len(at[2]) != 4 || at[2][3] != 10 {
			t.Errorf("how %d: Steps %d, %v", how, k.Steps(), at)
		}
		for tick, want := range []int{1, 2, 2, 1, 2, 2} {
			if who, err := k.Occupant(tick); who != want || err != api.OK {
				t.Errorf("how %d: Occupant(%d) = %d, %d", how, tick, who, err)
			}
		}
	}
}

// Each way to boot has the scheduler that it names.
func TestWaysOfBooting(t *testing.T) {
	x := api.Image{Parts: []api.Part{resting(api.Server{Period: 7, Budget: 3, Priority: 1}, true)}}
	rests := func(s scheduler) bool {
		_, ok := s.(interface{ Rests() []int })
		return ok
	}
	for how := api.Online; how <= api.ByTable; how++ {
		b, _ := image.Encode(x)
		s, _ := script.Encode(nil)
		k, err := Boot(b, s, how)
		if err != api.OK || rests(k.course.begin()) != (how == api.Online) || rests(k.view.begin()) != (how == api.Online) {
			t.Errorf("how %d: %d, %T", how, err, k.course.begin())
		}
	}
}
