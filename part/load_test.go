package part_test

import (
	"math/rand/v2"
	"testing"

	"bulkhead/api"
	"bulkhead/part"
)

// refuses wants Load to refuse a state.
func refuses(t *testing.T, what string, x api.Image, number int, s api.PartState, want api.Errno) {
	t.Helper()
	if p, err := part.Load(x, number, s); p != nil || err != want {
		t.Errorf("%s: Load answers %v, %d, want %d", what, p, err, want)
	}
}

// full is an image, and a state of its partition 2 with something of each sort; the ports of partition 1 stand ahead of its own.
func full(t *testing.T) (api.Image, api.PartState) {
	t.Helper()
	x, ahead := desk(ordinary, "ldi r1 3; ldi r3 -1; sys 17; sys 17", "ldi r1 1; sys 25; sys 10; ldi r1 5; sys 5")
	x.Parts[0], x.Parts[1] = x.Parts[1], x.Parts[0]
	ports := x.Ports
	for i := range ports {
		ports[i].Part = 3 - ports[i].Part
	}
	y := newPair(t, x, 2, 0)
	for range ahead + 5 {
		y.do(run(1))
	}
	y.tells(sample(2, 1, 8, 9), "")
	y.tells(arrive(4, 2, 1, 2), "Arrive 4")
	s := y.p.State()
	if s.Lock != 1 || s.Procs[1].State != api.Sending || len(s.Procs[1].Data) != 2 || len(s.Objects.Buffers[0]) != 1 || len(s.Ports[2].Queue) != 1 || len(s.Ports[3].Queue) != 1 || !s.Ports[1].Sample.Has || s.Place < 4 {
		t.Fatalf("%+v", s)
	}
	return x, s
}

// TestLoadRefuses (P20.10): states that cannot be, each for one reason alone.
func TestLoadRefuses(t *testing.T) {
	x, good := full(t)
	for _, number := range []int{0, 3, -1, top, bottom} {
		refuses(t, "no partition", x, number, good, api.ErrPart)
		refuses(t, "no partition, nothing right", x, number, api.PartState{Mode: 9}, api.ErrPart)
	}
	refuses(t, "no partitions", api.Image{}, 1, api.PartState{}, api.ErrPart)
	refuses(t, "nothing", x, 2, api.PartState{}, api.ErrForm)
	word := []int64{1}
	for what, change := range map[string]func(s *api.PartState){
		"no memory":                 func(s *api.PartState) { s.Memory = nil },
		"a shorter memory":          func(s *api.PartState) { s.Memory = s.Memory[1:] },
		"a longer memory":           func(s *api.PartState) { s.Memory = append(s.Memory, 0) },
		"a mode below":              func(s *api.PartState) { s.Mode = -1 },
		"a mode above":              func(s *api.PartState) { s.Mode = 2 },
		"the greatest mode":         func(s *api.PartState) { s.Mode = top },
		"the least mode":            func(s *api.PartState) { s.Mode = bottom },
		"no processes":              func(s *api.PartState) { s.Procs = nil },
		"a process too few":         func(s *api.PartState) { s.Procs = s.Procs[1:] },
		"a process too many":        func(s *api.PartState) { s.Procs = append(s.Procs, s.Procs[5]) },
		"a holder below":            func(s *api.PartState) { s.Lock = -1 },
		"a holder above":            func(s *api.PartState) { s.Lock = 7 },
		"the greatest holder":       func(s *api.PartState) { s.Lock = top },
		"the least holder":          func(s *api.PartState) { s.Lock = bottom },
		"a semaphore too few":       func(s *api.PartState) { s.Objects.Sems = s.Objects.Sems[1:] },
		"a semaphore too many":      func(s *api.PartState) { s.Objects.Sems = append(s.Objects.Sems, 0) },
		"a semaphore below 0":       func(s *api.PartState) { s.Objects.Sems[0] = -1 },
		"a semaphore above its Max": func(s *api.PartState) { s.Objects.Sems[0] = 3 },
		"an event too few":          func(s *api.PartState) { s.Objects.Events = s.Objects.Events[1:] },
		"an event too many":         func(s *api.PartState) { s.Objects.Events = append(s.Objects.Events, true) },
		"a buffer too few":          func(s *api.PartState) { s.Objects.Buffers = s.Objects.Buffers[1:] },
		"a buffer too many":         func(s *api.PartState) { s.Objects.Buffers = append(s.Objects.Buffers, nil) },
		"a buffer too full":         func(s *api.PartState) { s.Objects.Buffers[1] = [][]int64{word, word, word} },
		"a buffer's word too few":   func(s *api.PartState) { s.Objects.Buffers[0] = [][]int64{word} },
		"no ports":                  func(s *api.PartState) { s.Ports = nil },
		"a port too few":            func(s *api.PartState) { s.Ports = s.Ports[:7] },
		"a port too many":           func(s *api.PartState) { s.Ports = append(s.Ports, api.PortState{}) },
		"an out queue too full":     func(s *api.PartState) { s.Ports[2].Queue = [][]int64{{1, 2}, {3, 4}} },
		"an in queue too full":      func(s *api.PartState) { s.Ports[3].Queue = [][]int64{{1, 2}, {3, 4}, {5, 6}} },
		"a message's word too few":  func(s *api.PartState) { s.Ports[2].Queue = [][]int64{word} },
		"a message's word too many": func(s *api.PartState) { s.Ports[3].Queue = [][]int64{{1, 2, 3}} },
		"a sample's word too few":   func(s *api.PartState) { s.Ports[1].Sample.Data = word },
		"a sample's word too many":  func(s *api.PartState) { s.Ports[1].Sample.Data = []int64{1, 2, 3} },
		"a sample without words":    func(s *api.PartState) { s.Ports[1].Sample.Data = nil },
	} {
		s := cloneState(good)
		change(&s)
		refuses(t, what, x, 2, s, api.ErrForm)
	}
	loadPair(t, x, 2, good)
}

// TestLoadTakes (P20.10): what chapter 20 and those below it do not refuse; what of it has no place is left out.
func TestLoadTakes(t *testing.T) {
	x, good := full(t)
	for what, change := range map[string]func(s *api.PartState){
		"an idle one":          func(s *api.PartState) { s.Mode = api.Idle },
		"nobody's lock":        func(s *api.PartState) { s.Lock = 0 },
		"the last one's lock":  func(s *api.PartState) { s.Lock = 6 },
		"other places":         func(s *api.PartState) { s.Place = bottom },
		"other restarts":       func(s *api.PartState) { s.Restarts = top },
		"other words":          func(s *api.PartState) { s.Memory[7] = bottom },
		"a semaphore at Max":   func(s *api.PartState) { s.Objects.Sems[0] = 2 },
		"a full buffer":        func(s *api.PartState) { s.Objects.Buffers[1] = [][]int64{{1}, {2}} },
		"a full queue":         func(s *api.PartState) { s.Ports[3].Queue = [][]int64{{1, 2}, {3, 4}} },
		"a sample that is old": func(s *api.PartState) { s.Ports[1].Sample.Tick = 0 },
	} {
		s := cloneState(good)
		change(&s)
		p, err := part.Load(x, 2, s)
		if err != api.OK {
			t.Fatalf("%s: Load answers %d", what, err)
		}
		if got := p.State(); !sameState(got, s) {
			t.Errorf("%s: %+v, want %+v", what, got, s)
		}
	}
	s := cloneState(good)
	for i := 4; i < 8; i++ {
		s.Ports[i] = api.PortState{Queue: [][]int64{{1}}, Sample: api.Sample{Has: true, Tick: 3}, Lost: 4}
	}
	s.Ports[2].Sample = api.Sample{Has: true, Tick: 9, Data: []int64{1}}
	p, err := part.Load(x, 2, s)
	if err != api.OK {
		t.Fatalf("Load answers %d", err)
	}
	if got := p.State(); !sameState(got, good) {
		t.Errorf("%+v, want %+v", got, good)
	}
}

// TestLoadBooted (P20.10): states that are told at once behind New, Wake and an idling.
func TestLoadBooted(t *testing.T) {
	x, _ := full(t)
	p, _, _ := part.New(x, 2, 7)
	y := loadPair(t, x, 2, p.State())
	y.m.now = 7
	y.runs(4, 7, "Call 2 SEND OK")
	p.Wake(8)
	y = loadPair(t, x, 2, p.State())
	if y.tells(wake(9), "Wake; Start 1; Start 2"); y.p.State().Restarts != 2 {
		t.Errorf("Restarts: %d", y.p.State().Restarts)
	}
	y.isFresh(9, 2)
	idle, _, _ := part.New(alone(with(api.Part{}, plain(1, "sys 13"))), 1, 0)
	idle.Run(0)
	z := loadPair(t, alone(with(api.Part{}, plain(1, "sys 13"))), 1, idle.State())
	if z.p.CanRun() {
		t.Errorf("an idle one runs")
	}
	z.tells(run(1), "")
	z.tells(wake(2), "Wake; Start 1")
}

// TestLoadGoesOn (P20.10): behind Load of what State told, at any moment, every call answers as it would have; the one that told it goes on by itself.
func TestLoadGoesOn(t *testing.T) {
	for seed := range 150 {
		r := rand.New(rand.NewPCG(20, uint64(10000+seed)))
		x, number := anyImage(r)
		y := newPair(t, x, number, oneOf(r, []int{0, 40, end - 90}))
		for range 12 {
			y.play(r, 10)
			told := y.p.State()
			left := y.p
			p, err := part.Load(x, number, told)
			if err != api.OK {
				t.Fatalf("Load of what State told: %d: %+v", err, told)
			}
			y.p = p
			y.stands("Load")
			y.play(r, 10)
			if !sameState(left.State(), told) {
				t.Fatalf("who told it has changed with who was loaded")
			}
		}
	}
}
