package rta_test

import (
	"fmt"
	"math"
	"math/rand/v2"
	"slices"
	"testing"

	"bulkhead/api"
	"bulkhead/check"
	"bulkhead/isa"
	"bulkhead/rta"
)

const (
	top    = math.MaxInt
	bottom = math.MinInt
)

// answer is what the four calls tell of a partition.
type answer struct {
	err   api.Errno
	worst []int
	in    bool
	span  int
}

func (a answer) same(b answer) bool {
	return a.err == b.err && slices.Equal(a.worst, b.worst) && a.in == b.in && a.span == b.span
}

// ask puts all calls to a partition; they must have one error.
func ask(t *testing.T, what string, x api.Image, part int) answer {
	t.Helper()
	err := rta.Fits(x, part)
	worst, worstErr := rta.Worst(x, part)
	in, inErr := rta.InTime(x, part)
	span, spanErr := rta.Span(x, part)
	if worstErr != err || inErr != err || spanErr != err {
		t.Errorf("P25.1: %s, partition %d: the errors %d, %d, %d, %d", what, part, err, worstErr, inErr, spanErr)
	}
	return answer{err, worst, in, span}
}

// clock plays the rule of the servers, tick by tick.
type clock struct {
	servers []api.Server
	rests   []int
	now     int
}

func clockOf(x api.Image) *clock {
	c := &clock{rests: make([]int, len(x.Parts))}
	for _, p := range x.Parts {
		c.servers = append(c.servers, p.Server)
	}
	return c
}

// tick is the occupant of the tick that is next.
func (c *clock) tick() int {
	first := -1
	for i, s := range c.servers {
		if c.now >= s.Offset && (c.now-s.Offset)%s.Period == 0 {
			c.rests[i] = s.Budget
		}
		if c.rests[i] > 0 && (first < 0 || s.Priority > c.servers[first].Priority) {
			first = i
		}
	}
	c.now++
	if first < 0 {
		return 0
	}
	c.rests[first]--
	return first + 1
}

// job is one job of a process.
type job struct {
	released, left int
	end            int // the tick behind its last instruction
}

// record is all jobs of a process, the last one last, and whether it was ever late.
type record struct {
	jobs []job
	late bool
}

func (c *record) last() *job { return &c.jobs[len(c.jobs)-1] }

func (c *record) isBusy() bool { return len(c.jobs) > 0 && c.last().left > 0 }

// playTick does one tick of the play; takes says how many instructions a process's new job takes.
func playTick(procs []api.Proc, records []record, now int, isOwn bool, takes func(i int) int) {
	for i, p := range procs {
		if now%p.Period != 0 {
			continue
		}
		if records[i].isBusy() {
			records[i].late = true
			continue
		}
		records[i].jobs = append(records[i].jobs, job{released: now, left: takes(i)})
	}
	if !isOwn {
		return
	}
	first := -1
	for i, p := range procs {
		if records[i].isBusy() && (first < 0 || p.Priority > procs[first].Priority) {
			first = i
		}
	}
	if first < 0 {
		return
	}
	j := records[first].last()
	if j.left--; j.left == 0 {
		j.end = now + 1
	}
}

// fitsOf is a second reading of what fits, of a partition that is there.
func fitsOf(p api.Part) bool {
	for _, x := range p.Code {
		line, ok := isa.Show(x)
		if !ok || len(line) > 4 && line[:4] == "sys " && !slices.Contains([]string{"1", "3", "12", "14", "15", "16", "19"}, line[4:]) {
			return false
		}
	}
	priorities := map[int]int{}
	for _, q := range p.Procs {
		priorities[q.Priority]++
		if !q.Auto || q.Period <= 0 || q.Limit <= 0 || q.Capacity <= 0 || priorities[q.Priority] > 1 {
			return false
		}
	}
	return p.Handler == 0
}

// multipleOf is a second reading of M: the first of the multiples that all periods divide; 0, if it is above MaxHyper.
func multipleOf(x api.Image, part int) int {
	var periods []int
	for _, p := range x.Parts {
		periods = append(periods, p.Server.Period)
	}
	for _, q := range x.Parts[part-1].Procs {
		periods = append(periods, q.Period)
	}
	step := slices.Max(periods)
	for m := step; m <= 1<<20; m += step {
		if !slices.ContainsFunc(periods, func(p int) bool { return m%p != 0 }) {
			return m
		}
	}
	return 0
}

// read is a second reading of the chapter, but for what check.Check tells.
func read(x api.Image, part int) answer {
	if err, _ := check.Check(x); err != api.OK {
		return answer{err: err}
	}
	if part < 1 || part > len(x.Parts) {
		return answer{err: 220}
	}
	p := x.Parts[part-1]
	if !fitsOf(p) {
		return answer{err: 250}
	}
	m := multipleOf(x, part)
	if m == 0 {
		return answer{err: 102}
	}
	records := make([]record, len(p.Procs))
	ticks := clockOf(x)
	for now := range 2 * m {
		playTick(p.Procs, records, now, ticks.tick() == part, func(i int) int { return p.Procs[i].Capacity })
	}
	a := answer{span: 2 * m, in: true}
	for i, q := range p.Procs {
		worst := worstOf(p.Procs, records, i)
		a.worst = append(a.worst, worst)
		a.in = a.in && worst >= 0 && worst <= q.Limit
	}
	return a
}

// worstOf is what the records tell of a process.
func worstOf(procs []api.Proc, records []record, i int) int {
	for k, q := range procs {
		if q.Priority >= procs[i].Priority && (records[k].late || records[k].isBusy()) {
			return -1
		}
	}
	worst := 0
	for _, j := range records[i].jobs {
		worst = max(worst, j.end-j.released)
	}
	return worst
}

// reads wants the calls to answer as the second reading has it.
func reads(t *testing.T, what string, x api.Image, part int) answer {
	t.Helper()
	got, want := ask(t, what, x, part), read(x, part)
	if !got.same(want) {
		t.Errorf("P25: %s, partition %d: %+v, want %+v", what, part, got, want)
	}
	return got
}

// Images in short.

func server(period, budget, offset, priority int) api.Server {
	return api.Server{Period: period, Budget: budget, Offset: offset, Priority: priority}
}

// proc is a process of which the analysis may speak.
func proc(priority, period, limit, capacity int) api.Proc {
	return api.Proc{Priority: priority, Period: period, Limit: limit, Capacity: capacity, Auto: true}
}

// image is an image whose partition 1 has these processes; the servers are the partitions' in their order.
func image(servers []api.Server, procs ...api.Proc) api.Image {
	var x api.Image
	for _, s := range servers {
		x.Parts = append(x.Parts, api.Part{Server: s, Code: []api.Instr{{Op: 1}}, Procs: []api.Proc{{}}})
	}
	x.Parts[0].Procs = procs
	return x
}

// alone is an image of one partition.
func alone(s api.Server, procs ...api.Proc) api.Image { return image([]api.Server{s}, procs...) }

// chapter is the image of the chapter's examples, with the Capacity of its second process.
func chapter(capacity int) api.Image {
	return alone(server(4, 2, 0, 1), proc(9, 8, 4, 1), proc(5, 8, 8, capacity))
}

// Images by chance.

func oneOf[T any](r *rand.Rand, list ...T) T { return list[r.IntN(len(list))] }

// anyServers are some servers that may be, each of a priority of its own.
func anyServers(r *rand.Rand) []api.Server {
	var list []api.Server
	priorities := r.Perm(256)
	for i := range oneOf(r, 1, 2, 2, 3, 4) {
		period := oneOf(r, 1, 2, 3, 4, 5, 6, 8, 10, 12, 20, 24)
		budget := 1 + r.IntN(period)
		if r.IntN(3) > 0 {
			budget = 1 + r.IntN((period+1)/2)
		}
		list = append(list, server(period, budget, r.IntN(period), priorities[i]))
	}
	return list
}

// anyProcs are some processes of unlike priorities, whose jobs together ask for few ticks or for many.
func anyProcs(r *rand.Rand) []api.Proc {
	var list []api.Proc
	n := oneOf(r, 1, 2, 3, 4, 5, 6)
	priorities := r.Perm(256)
	share := oneOf(r, n, 3*n, 6*n)
	for i := range n {
		period := oneOf(r, 4, 5, 6, 8, 10, 12, 15, 20, 24, 30, 40, 60, 120)
		if r.IntN(25) == 0 {
			period = oneOf(r, 1, 2, 3, 7, 9)
		}
		list = append(list, proc(priorities[i], period, period-r.IntN(1+period/2), 1+r.IntN(1+period/share)))
	}
	return list
}

// anyImage is an image whose partitions fit, or most of them.
func anyImage(r *rand.Rand) api.Image {
	x := image(anyServers(r), anyProcs(r)...)
	for i := range x.Parts[1:] {
		x.Parts[i+1].Procs = anyProcs(r)
	}
	return x
}

// spoilt is an image with one thing or two changed by chance, after which it may not fit.
func spoilt(r *rand.Rand, x api.Image) api.Image {
	for range 1 + r.IntN(2) {
		p := &x.Parts[r.IntN(len(x.Parts))]
		q := &p.Procs[r.IntN(len(p.Procs))]
		switch r.IntN(10) {
		case 0:
			q.Auto = false
		case 1:
			q.Period = oneOf(r, 0, 11, 13, 1021, 1<<20, 1048573, 1<<40-1, 1<<40)
		case 2:
			q.Limit = r.IntN(q.Period + 2)
		case 3:
			q.Capacity = oneOf(r, 0, 1<<31-1, 1<<31, -1)
		case 4:
			q.Priority = oneOf(r, p.Procs...).Priority
		case 5:
			p.Procs = append(p.Procs, api.Proc{})
			p.Handler = len(p.Procs)
		case 6:
			p.Code = append(p.Code, api.Instr{Op: 27, Imm: int32(r.IntN(30))})
		case 7:
			p.Code = append(p.Code, api.Instr{Op: byte(r.IntN(30)), A: byte(r.IntN(18)), B: byte(r.IntN(18)), C: byte(r.IntN(3)), Imm: int32(r.IntN(2))})
		case 8:
			p.Server.Budget = oneOf(r, 0, p.Server.Period+1, 1, p.Server.Period)
		case 9:
			p.Fixed = oneOf(r, -1, 0, 1)
		}
	}
	return x
}

// Every call against the second reading, over many images.
func TestByChance(t *testing.T) {
	t.Parallel()
	errs, ins, nevers, others := map[api.Errno]int{}, map[bool]int{}, 0, 0
	for seed := range uint64(1500) {
		r := rand.New(rand.NewPCG(25, seed))
		x := anyImage(r)
		if r.IntN(3) == 0 {
			x = spoilt(r, x)
		}
		for part := range len(x.Parts) + 2 {
			a := reads(t, fmt.Sprintf("seed %d", seed), x, part)
			if t.Failed() {
				t.Fatalf("%+v", x)
			}
			errs[a.err]++
			if a.err != api.OK {
				continue
			}
			ins[a.in]++
			for _, w := range a.worst {
				if w == api.Never {
					nevers++
				} else {
					others++
				}
			}
		}
	}
	if min(errs[api.OK], errs[api.ErrPart], ins[true], ins[false], nevers, others) < 300 || min(errs[api.ErrUnfit], errs[api.ErrHyper], errs[api.ErrServer], errs[api.ErrProc]) < 20 {
		t.Errorf("chance has shown the errors %v, in time %v, %d times Never, %d times another", errs, ins, nevers, others)
	}
}

// Small partitions of all kinds there are: every server, and two processes of every Period and Capacity.
func TestAllSmallOnes(t *testing.T) {
	t.Parallel()
	for _, period := range []int{1, 2, 3, 4} {
		for budget := 1; budget <= period; budget++ {
			for offset := range period {
				for high := 1; high <= 4; high++ {
					for low := 1; low <= 4; low++ {
						for capacities := range 9 {
							x := alone(server(period, budget, offset, 0), proc(1, low, low, 1+capacities/3), proc(2, high, (high+1)/2, 1+capacities%3))
							reads(t, fmt.Sprintf("%+v", x.Parts[0]), x, 1)
						}
					}
				}
			}
		}
	}
}
