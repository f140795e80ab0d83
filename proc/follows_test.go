package proc_test

import (
	"math/rand/v2"
	"slices"
	"testing"

	"bulkhead/api"
	"bulkhead/proc"
)

// job is a job as it went: where it was released and done, and at which ticks its timers were fired.
type job struct {
	released, done int
	misses, lates  []int
}

// span is a life of a process, from its start to its stop (Never: it goes on).
type span struct {
	from, below int
	jobs        []job
}

// history is a table beside what has happened to it: P15.17 is reckoned from that alone, behind the play.
type history struct {
	t     *testing.T
	part  api.Part
	table *proc.Table
	now   int
	lives [][]span
}

func newHistory(t *testing.T, p api.Part, from int) *history {
	return &history{t: t, part: p, table: proc.New(p), now: from, lives: make([][]span, len(p.Procs))}
}

// last is the life that goes on, or the last one; there must be one.
func (h *history) last(number int) *span {
	lives := h.lives[number-1]
	return &lives[len(lives)-1]
}

func (h *history) lastJob(number int) *job {
	jobs := h.last(number).jobs
	return &jobs[len(jobs)-1]
}

// do does a call at now, and notes what has happened.
func (h *history) do(c call) bool {
	h.t.Helper()
	before, _, next := h.table.States()
	if !c.on(h.table) {
		return false
	}
	h.placesGo(c, before, next)
	h.lockIsFit(c)
	number := c.proc
	fresh := job{released: h.now, done: never}
	switch {
	case c.name == "Start":
		h.lives[number-1] = append(h.lives[number-1], span{from: h.now, below: never, jobs: []job{fresh}})
	case c.name == "Stop":
		h.last(number).below = h.now
	case c.name == "Period":
		h.lastJob(number).done = h.now
	case c.name == "Fire" && c.a == api.TimerDeadline:
		h.lastJob(number).misses = append(h.lastJob(number).misses, h.now)
	case c.name == "Fire" && c.a == api.TimerRelease && before[number-1].State == api.InPeriod:
		h.last(number).jobs = append(h.last(number).jobs, fresh)
	case c.name == "Fire" && c.a == api.TimerRelease:
		h.lastJob(number).lates = append(h.lastJob(number).lates, h.now)
	}
	return true
}

// placesGo wants at most one process to have been given a place, the next one; all others keep theirs, but for one that has ended.
func (h *history) placesGo(c call, before []api.ProcState, next int) {
	h.t.Helper()
	list, _, behind := h.table.States()
	seen := map[int]int{}
	for i, s := range list {
		switch {
		case s.State == api.Dormant && s.Place != 0:
			h.t.Fatalf("behind %+v: DORMANT %d has place %d", c, i+1, s.Place)
		case s.State == api.Dormant:
			continue
		case s.Place != before[i].Place && (i+1 != c.proc || s.Place != next || behind != next+1):
			h.t.Fatalf("behind %+v: %d has place %d, of %d; the next one was %d and is %d", c, i+1, s.Place, before[i].Place, next, behind)
		case s.Place < 1 || s.Place >= behind || seen[s.Place] != 0:
			h.t.Fatalf("behind %+v: %d has place %d, as has %d; the next one is %d", c, i+1, s.Place, seen[s.Place], behind)
		}
		seen[s.Place] = i + 1
	}
	if behind != next && list[c.proc-1].Place != next {
		h.t.Fatalf("behind %+v: place %d is given to nobody", c, next)
	}
	// Whoever becomes READY or begins to wait has a new place.
	if s := list[c.proc-1]; s.State != api.Dormant && s.State != before[c.proc-1].State && behind != next+1 {
		h.t.Fatalf("behind %+v: %d has no new place", c, c.proc)
	}
}

// lockIsFit wants the holder of the lock to be READY and not the handler.
func (h *history) lockIsFit(c call) {
	h.t.Helper()
	holder, ok := h.table.Holder()
	if s, _ := h.table.Get(holder); ok && (s.State != api.Ready || holder == h.part.Handler) {
		h.t.Fatalf("behind %+v: the holder %d is in state %d, the handler is %d", c, holder, s.State, h.part.Handler)
	}
}

// timers fires all that is due at now: the deadlines, then the releases, then the wakings.
func (h *history) timers() {
	h.t.Helper()
	for kind := api.TimerDeadline; kind <= api.TimerWake; kind++ {
		for i := range h.part.Procs {
			due := h.table.Due(i+1, kind, h.now)
			if fired := h.do(fire(i+1, kind, h.now)); fired != due {
				h.t.Fatalf("at %d: Due(%d, %d) is %v, Fire %v", h.now, i+1, kind, due, fired)
			}
		}
	}
}

// noneDue wants no timer to be due at a tick.
func (h *history) noneDue(tick int) {
	h.t.Helper()
	for i := range h.part.Procs {
		for kind := api.TimerDeadline; kind <= api.TimerWake; kind++ {
			if h.table.Due(i+1, kind, tick) {
				h.t.Fatalf("at %d, Next %d: Due(%d, %d, %d)", h.now, h.table.Next(h.now), i+1, kind, tick)
			}
		}
	}
}

// goOn goes to a later tick, at most to the next one at which a timer is due, where one has to be; false, if ticks are over.
func (h *history) goOn(r *rand.Rand) bool {
	h.t.Helper()
	next := h.table.Next(h.now)
	if next != never {
		found := false
		for i := range h.part.Procs {
			for kind := api.TimerDeadline; kind <= api.TimerWake; kind++ {
				found = found || h.table.Due(i+1, kind, next)
			}
		}
		if !found || next <= h.now || next >= end {
			h.t.Fatalf("at %d: nothing is due at Next, %d", h.now, next)
		}
	}
	most := end - 1
	if next != never {
		most = next
	}
	for tick := h.now + 1; tick < min(most, h.now+30); tick++ {
		h.noneDue(tick)
	}
	if most-1 > h.now {
		h.noneDue(most - 1)
		h.noneDue(h.now + 1 + r.IntN(most-1-h.now))
	}
	switch {
	case h.now == end-1:
		return false
	case r.IntN(3) == 0 && next != never:
		h.now = next
	default:
		h.now = min(most, h.now+1+r.IntN(4))
	}
	return true
}

// atNow is a call by chance that may stand in a play: its timers can be fired at their ticks, and what begins or is done is so now.
func (h *history) atNow(r *rand.Rand) call {
	c := chance(r, h.part, h.now)
	switch {
	case c.name == "Start", c.name == "Period":
		c.a = h.now
	case c.name == "Fire", c.name == "Stop" && r.IntN(3) > 0:
		return period(c.proc, h.now)
	case c.name == "Wait" && h.now == end-1:
		c.b = never
	case c.name == "Wait" && c.b != never:
		c.b = max(c.b, h.now+1)
	}
	return c
}

// play does what is due and a few calls by chance, moment by moment.
func (h *history) play(r *rand.Rand, moments int) {
	h.t.Helper()
	for range moments {
		h.timers()
		for range r.IntN(4) {
			h.do(h.atNow(r))
		}
		if !h.goOn(r) {
			break
		}
	}
}

// firedBy tells whether a timer of this tick had its turn by now, in a life that ended at a tick (Never), at a job that was done at a tick (Never): both come behind the timers of theirs.
func firedBy(tick, below, done, seen int) bool {
	return tick < end && tick <= seen && (below == never || tick <= below) && (done == never || tick <= done)
}

// once is what a timer has to have been fired at.
func once(tick int, fired bool) []int {
	if fired {
		return []int{tick}
	}
	return nil
}

// follows wants all that has happened to be as P15.17 says; seen is the last tick whose timers were fired.
func (h *history) follows(seen int) {
	h.t.Helper()
	for i, lives := range h.lives {
		q := h.part.Procs[i]
		misses := 0
		for _, life := range lives {
			h.jobsFollow(i+1, life, seen)
			for _, j := range life.jobs {
				missed := q.Limit > 0 && firedBy(j.released+q.Limit, life.below, j.done, seen)
				if want := once(j.released+q.Limit, missed); !slices.Equal(j.misses, want) {
					h.t.Fatalf("process %d %+v: job %+v has missed at %v, want %v", i+1, q, j, j.misses, want)
				}
				late := q.Period > 0 && firedBy(j.released+q.Period, life.below, j.done, seen)
				if want := once(j.released+q.Period, late); !slices.Equal(j.lates, want) {
					h.t.Fatalf("process %d %+v: job %+v is late at %v, want %v", i+1, q, j, j.lates, want)
				}
				misses += len(j.misses)
			}
		}
		if s, _ := h.table.Get(i + 1); s.Misses != misses {
			h.t.Fatalf("process %d has missed %d, want %d", i+1, s.Misses, misses)
		}
	}
}

// jobsFollow wants the jobs of a life to be those of its releases: the first at its start, each other one at the first release above the tick at which the one ahead was done.
func (h *history) jobsFollow(number int, life span, seen int) {
	h.t.Helper()
	q := h.part.Procs[number-1]
	if life.jobs[0].released != life.from {
		h.t.Fatalf("process %d, started at %d: its first job is of %d", number, life.from, life.jobs[0].released)
	}
	for i, j := range life.jobs {
		if i+1 < len(life.jobs) && j.done == never {
			h.t.Fatalf("process %d: a job behind one that is not done: %+v", number, life.jobs)
		}
		if j.done == never {
			continue
		}
		release := life.from
		if q.Period > 0 {
			release += (j.done - life.from + q.Period) / q.Period * q.Period
		}
		begun := firedBy(release, life.below, never, seen)
		switch {
		case begun != (i+1 < len(life.jobs)):
			h.t.Fatalf("process %d %+v: %+v: a job at %d: %v", number, q, life.jobs, release, begun)
		case begun && life.jobs[i+1].released != release:
			h.t.Fatalf("process %d %+v: %+v: the job behind %+v, want it at %d", number, q, life.jobs, j, release)
		}
	}
}

// TestFollows (P15.17): many moments, on partitions of all kinds, at both ends of the ticks.
func TestFollows(t *testing.T) {
	jobs, misses, lates, lives := 0, 0, 0, 0
	for what, p := range families() {
		t.Run(what, func(t *testing.T) {
			for round, from := range []int{0, 7, 1 << 39, end - 200, end - 60, end - 9} {
				h := newHistory(t, p, from)
				r := rand.New(rand.NewPCG(15, uint64(17+round)))
				h.play(r, 300)
				h.timers()
				h.follows(h.now)
				for _, list := range h.lives {
					for _, life := range list {
						lives++
						for _, j := range life.jobs {
							jobs, misses, lates = jobs+1, misses+len(j.misses), lates+len(j.lates)
						}
					}
				}
			}
		})
	}
	// A play in which nothing happens would hold anything.
	if lives < 500 || jobs < 1000 || misses < 500 || lates < 500 {
		t.Errorf("only %d lives, %d jobs, %d misses, %d lates", lives, jobs, misses, lates)
	}
}
