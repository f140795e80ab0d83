package online_test

import (
	"math"
	"math/rand/v2"
	"slices"
	"testing"

	"bulkhead/api"
	"bulkhead/check"
	"bulkhead/online"
)

const (
	top    = math.MaxInt
	bottom = math.MinInt
	end    = api.MaxTick
)

func server(period, budget, offset, priority int) api.Server {
	return api.Server{Period: period, Budget: budget, Offset: offset, Priority: priority}
}

// chapter is the chapter's A and B.
func chapter() []api.Server { return []api.Server{server(5, 2, 4, 9), server(10, 6, 0, 1)} }

// late is servers whose rests come again later than their occupants (chapter 11).
func late() []api.Server { return []api.Server{server(7, 7, 1, 3), server(7, 7, 4, 8)} }

// many is as many servers as there may be; the greatest priority stands in the middle.
func many() []api.Server {
	periods := []int{8, 12, 6, 24, 48, 16}
	var list []api.Server
	for i := range api.MaxParts {
		period := periods[i%len(periods)]
		list = append(list, server(period, 1+i%2, i*5%period, (i*7+100)%32*8+7))
	}
	return list
}

// families are servers of many kinds, each with a name.
func families() map[string][]api.Server {
	return map[string][]api.Server{
		"none":                       nil,
		"one":                        {server(3, 1, 0, 0)},
		"one of one tick":            {server(1, 1, 0, 255)},
		"one full":                   {server(6, 6, 0, 7)},
		"one full, from its offset":  {server(6, 6, 5, 7)},
		"one over the end of H":      {server(6, 4, 4, 7)},
		"the chapter's":              chapter(),
		"late":                       late(),
		"too much asked":             {server(5, 5, 4, 9), server(10, 6, 0, 1)},
		"too much, never a tick":     {server(4, 1, 0, 1), server(2, 2, 0, 3), server(8, 8, 0, 2)},
		"only in the first H":        {server(10, 10, 9, 9), server(10, 10, 0, 1)},
		"greatest first":             {server(4, 1, 1, 200), server(6, 2, 0, 100), server(3, 1, 2, 0)},
		"greatest in the middle":     {server(4, 1, 1, 100), server(6, 2, 0, 200), server(3, 1, 2, 0)},
		"greatest last":              {server(4, 1, 1, 100), server(6, 2, 0, 0), server(3, 1, 2, 200)},
		"lost at a release":          {server(2, 1, 0, 9), server(6, 5, 1, 4), server(3, 2, 0, 6)},
		"one of period 1 below":      {server(9, 2, 3, 5), server(1, 1, 0, 1)},
		"one of period 1 above":      {server(9, 2, 3, 1), server(1, 1, 0, 5)},
		"a rest that ends at one":    {server(8, 3, 0, 2), server(8, 2, 3, 1)},
		"nobody at the end of H":     {server(8, 2, 3, 2), server(8, 1, 1, 1)},
		"as many as there may be":    many(),
		"a chain that is moved back": {server(12, 12, 11, 5), server(6, 4, 3, 4), server(4, 1, 2, 3), server(3, 2, 1, 2)},
	}
}

// chance is servers by chance whose hyperperiod is at most as great as most.
func chance(r *rand.Rand, most int) []api.Server {
	for {
		var list []api.Server
		priorities := r.Perm(256)
		for i := range 1 + r.IntN(6) {
			period := 1 + r.IntN(12)
			list = append(list, server(period, 1+r.IntN(period), r.IntN(period), priorities[i]))
		}
		if hyper, err := check.Hyper(list); err == api.OK && hyper <= most {
			return list
		}
	}
}

// forAll does something with the second reading of every family and of servers by chance.
func forAll(t *testing.T, times int, do func(m reading)) {
	t.Helper()
	for what, list := range families() {
		do(read(t, what, list))
	}
	r := rand.New(rand.NewPCG(12, 5))
	for range times {
		do(read(t, "by chance", chance(r, 60)))
	}
}

// reading is a second reading of the rule: tick by tick through three hyperperiods, the releases first, then the tick.
type reading struct {
	what      string
	list      []api.Server
	hyper     int
	occupants []int
	rests     [][]int
}

func read(t *testing.T, what string, list []api.Server) reading {
	t.Helper()
	hyper, err := check.Hyper(list)
	if err != api.OK {
		t.Fatalf("%s %v may not be: %d", what, list, err)
	}
	m := reading{what: what, list: list, hyper: hyper}
	rests := make([]int, len(list))
	for tick := range 3*hyper + 1 {
		chosen := 0
		for i, s := range list {
			if tick%s.Period == s.Offset {
				rests[i] = s.Budget
			}
			if rests[i] > 0 && (chosen == 0 || s.Priority > list[chosen-1].Priority) {
				chosen = i + 1
			}
		}
		m.occupants = append(m.occupants, chosen)
		m.rests = append(m.rests, slices.Clone(rests))
		if chosen > 0 {
			rests[chosen-1]--
		}
	}
	// Releases hang on the tick's place in H alone: as the rests are the same at 2 H and 3 H, all is the same from there on.
	if !slices.Equal(m.rests[2*hyper], m.rests[3*hyper]) {
		t.Fatalf("%s %v: the rests at 2 H are %v, at 3 H %v", what, list, m.rests[2*hyper], m.rests[3*hyper])
	}
	return m
}

func (m reading) place(tick int) int {
	if tick < 3*m.hyper {
		return tick
	}
	return 2*m.hyper + tick%m.hyper
}

func (m reading) at(tick int) int { return m.occupants[m.place(tick)] }

func (m reading) restsAt(tick int) []int { return m.rests[m.place(tick)] }

func (m reading) until(tick int) int {
	least := end
	for _, s := range m.list {
		release := s.Offset
		if tick >= release {
			release = tick + s.Period - (tick-s.Offset)%s.Period
		}
		least = min(least, release)
	}
	if part := m.at(tick); part > 0 {
		least = min(least, tick+m.restsAt(tick)[part-1])
	}
	return least
}

// start is a new dispatcher.
func start(t *testing.T, list []api.Server) *online.Dispatcher {
	t.Helper()
	d, err := online.New(list)
	if d == nil || err != api.OK {
		t.Fatalf("New(%v): %d", list, err)
	}
	return d
}

func advance(t *testing.T, d *online.Dispatcher, to int, want api.Errno) {
	t.Helper()
	if err := d.Advance(to); err != want {
		t.Fatalf("at %d: Advance(%d) = %d, want %d", d.Now(), to, err, want)
	}
}

// stands wants all that a dispatcher tells to be this.
func stands(t *testing.T, what string, d *online.Dispatcher, now, occupant, until int, rests ...int) {
	t.Helper()
	if d.Now() != now || d.Occupant() != occupant || d.Until() != until || !slices.Equal(d.Rests(), rests) {
		t.Fatalf("%s: at %d: %d until %d, %v; want at %d: %d until %d, %v", what, d.Now(), d.Occupant(), d.Until(), d.Rests(), now, occupant, until, rests)
	}
}

// agrees wants a dispatcher to stand at a tick, as the second reading has it.
func (m reading) agrees(t *testing.T, d *online.Dispatcher, tick int) {
	t.Helper()
	if d.Now() != tick || d.Occupant() != m.at(tick) || d.Until() != m.until(tick) || !slices.Equal(d.Rests(), m.restsAt(tick)) {
		t.Fatalf("%s %v: at %d: %d until %d, %v; want at %d: %d until %d, %v", m.what, m.list, d.Now(), d.Occupant(), d.Until(), d.Rests(), tick, m.at(tick), m.until(tick), m.restsAt(tick))
	}
}

// edges are the ticks that the chapter names, and some beside them, rising.
func (m reading) edges() []int {
	h := m.hyper
	list := []int{0, 1, h - 1, h, h + 1, 2*h - 1, 2 * h, 2*h + 1, 3*h - 1, 3 * h, 3*h + 1, 4*h + h/2, 1000*h - 1, 1000 * h, 1<<39 + 5, end - 2*h, end - h - 1, end - h, end - 2, end - 1}
	for _, s := range m.list {
		list = append(list, s.Offset, s.Offset+s.Budget, s.Offset+h, s.Offset+2*h, s.Offset+5*h-1)
	}
	slices.Sort(list)
	return slices.Compact(list)
}

func TestExamples(t *testing.T) {
	d := start(t, chapter())
	stands(t, "new", d, 0, 2, 4, 0, 6)
	advance(t, d, 4, api.OK)
	stands(t, "at 4", d, 4, 1, 6, 2, 2)
	advance(t, d, 8, api.OK)
	stands(t, "at 8", d, 8, 0, 9, 0, 0)
	for _, to := range []int{7, -1, end} {
		advance(t, d, to, api.ErrArg)
		stands(t, "refused", d, 8, 0, 9, 0, 0)
	}
	advance(t, d, 1000000018, api.OK)
	stands(t, "far", d, 1000000018, 2, 1000000019, 0, 1)
	advance(t, d, end-1, api.OK)
	stands(t, "at the end", d, end-1, 1, end, 1, 3)
	stands(t, "no servers", start(t, nil), 0, 0, end)
	if d, err := online.New([]api.Server{{Period: 0}}); d != nil || err != api.ErrServer {
		t.Errorf("of Period 0: %v, %d", d, err)
	}
}

func TestP12_1_NewStandsAtTick0(t *testing.T) {
	forAll(t, 300, func(m reading) { m.agrees(t, start(t, m.list), 0) })
	stands(t, "one", start(t, []api.Server{server(3, 2, 0, 5)}), 0, 1, 2, 2)
	stands(t, "one that comes later", start(t, []api.Server{server(3, 2, 1, 5)}), 0, 0, 1, 0)
	stands(t, "the greatest", start(t, []api.Server{server(1<<20, 1<<20, 0, 255)}), 0, 1, 1<<20, 1<<20)
	stands(t, "the last offset", start(t, []api.Server{server(1<<20, 1, 1<<20-1, 0)}), 0, 0, 1<<20-1, 0)
	stands(t, "releases as many as may be", start(t, []api.Server{server(32767, 1, 0, 1), server(1, 1, 0, 2)}), 0, 2, 1, 1, 1)
}

func TestP12_1_ServersThatMayNotBe(t *testing.T) {
	good := server(10, 2, 1, 5)
	tooMany := make([]api.Server, api.MaxParts+1)
	for i := range tooMany {
		tooMany[i] = server(10, 1, 0, i)
	}
	for what, c := range map[string]struct {
		list []api.Server
		err  api.Errno
	}{
		"one too many":             {tooMany, api.ErrCount},
		"too many, and period 0":   {append(slices.Clone(tooMany), api.Server{}), api.ErrCount},
		"period 0":                 {[]api.Server{server(0, 1, 0, 1)}, api.ErrServer},
		"period the least":         {[]api.Server{good, server(bottom, 1, 0, 1)}, api.ErrServer},
		"period too great":         {[]api.Server{server(api.MaxPeriod+1, 1, 0, 1), good}, api.ErrServer},
		"period the greatest":      {[]api.Server{server(top, 1, 0, 1)}, api.ErrServer},
		"budget 0":                 {[]api.Server{good, server(10, 0, 0, 1)}, api.ErrServer},
		"budget above the period":  {[]api.Server{good, server(10, 11, 0, 1)}, api.ErrServer},
		"budget the least":         {[]api.Server{server(10, bottom, 0, 1)}, api.ErrServer},
		"budget the greatest":      {[]api.Server{server(10, top, 0, 1)}, api.ErrServer},
		"offset -1":                {[]api.Server{server(10, 1, -1, 1)}, api.ErrServer},
		"offset the period":        {[]api.Server{server(10, 1, 10, 1)}, api.ErrServer},
		"offset the greatest":      {[]api.Server{server(10, 1, top, 1)}, api.ErrServer},
		"priority -1":              {[]api.Server{server(10, 1, 0, -1)}, api.ErrServer},
		"priority too great":       {[]api.Server{server(10, 1, 0, api.MaxPriority+1)}, api.ErrServer},
		"priority twice":           {[]api.Server{good, server(3, 1, 0, 4), good}, api.ErrServer},
		"server ahead of H":        {[]api.Server{server(1<<20, 2, 4, 9), server(3, 0, 0, 1)}, api.ErrServer},
		"hyperperiod":              {[]api.Server{server(1<<20, 2, 4, 9), server(3, 1, 0, 1)}, api.ErrHyper},
		"hyperperiod of many":      {[]api.Server{server(1048573, 1, 0, 1), server(1048571, 1, 0, 2), server(1048559, 1, 0, 3), server(1048549, 1, 0, 4)}, api.ErrHyper},
		"table":                    {[]api.Server{server(1<<20, 2, 4, 9), server(1, 1, 0, 1)}, api.ErrTable},
		"table, one step too many": {[]api.Server{server(32768, 1, 0, 1), server(1, 1, 0, 2)}, api.ErrTable},
	} {
		if d, err := online.New(c.list); d != nil || err != c.err {
			t.Errorf("%s: %v, %d, want %d", what, d, err, c.err)
		}
		if _, err := check.Hyper(c.list); err != c.err {
			t.Errorf("%s: check.Hyper: %d", what, err)
		}
	}
}

func TestP12_2_TickByTick(t *testing.T) {
	forAll(t, 200, func(m reading) {
		d := start(t, m.list)
		for tick := range 5*m.hyper + 2 {
			advance(t, d, tick, api.OK)
			m.agrees(t, d, tick)
			m.agrees(t, d, tick) // asking changes nothing
		}
	})
}

func TestP12_2_TheLastTicksOfAll(t *testing.T) {
	forAll(t, 100, func(m reading) {
		d := start(t, m.list)
		for tick := end - 2*m.hyper - 1; tick < end; tick++ {
			advance(t, d, tick, api.OK)
			m.agrees(t, d, tick)
		}
	})
}

func TestP12_2_GreatNumbers(t *testing.T) {
	d := start(t, []api.Server{server(1<<20, 1<<19, 1<<20-1, 0)})
	for _, c := range [][4]int{ // tick, occupant, until, rest
		{0, 0, 1<<20 - 1, 0},
		{1<<20 - 2, 0, 1<<20 - 1, 0},
		{1<<20 - 1, 1, 1<<20 + 1<<19 - 1, 1 << 19},
		{1<<20 + 1<<19 - 2, 1, 1<<20 + 1<<19 - 1, 1},
		{1<<20 + 1<<19 - 1, 0, 1<<21 - 1, 0},
		{1<<21 - 1, 1, 1<<21 + 1<<19 - 1, 1 << 19},
		{end - 1<<20 + 1<<19 - 2, 1, end - 1<<20 + 1<<19 - 1, 1},
		{end - 1<<20 + 1<<19 - 1, 0, end - 1, 0},
		{end - 2, 0, end - 1, 0},
		{end - 1, 1, end, 1 << 19},
	} {
		advance(t, d, c[0], api.OK)
		stands(t, "great", d, c[0], c[1], c[2], c[3])
	}
}

func TestP12_3_Until(t *testing.T) {
	for _, c := range []struct {
		what      string
		list      []api.Server
		now, want int
	}{
		{"no servers", nil, 0, end},
		{"no servers, at the end", nil, end - 1, end},
		{"nobody ahead of the first release", []api.Server{server(10, 2, 7, 1)}, 0, 7},
		{"nobody, the next tick is a release", []api.Server{server(10, 2, 7, 1)}, 6, 7},
		{"nobody behind a budget", []api.Server{server(10, 2, 7, 1)}, 9, 17},
		{"a rest ends first", []api.Server{server(10, 3, 0, 2), server(10, 1, 4, 1)}, 0, 3},
		{"a rest and a release of another one", []api.Server{server(10, 3, 0, 2), server(10, 1, 3, 1)}, 0, 3},
		{"a rest and a release of a greater one", []api.Server{server(10, 3, 0, 1), server(10, 1, 3, 2)}, 1, 3},
		{"a rest and the release of its own", []api.Server{server(4, 4, 0, 1)}, 2, 4},
		{"a release first, of a greater one", []api.Server{server(10, 3, 0, 1), server(10, 1, 2, 2)}, 0, 2},
		{"a release first, of a lower one", []api.Server{server(10, 3, 0, 2), server(10, 1, 2, 1)}, 0, 2},
		{"the release of this tick is past", []api.Server{server(10, 3, 0, 2), server(10, 1, 2, 1)}, 2, 3},
		{"the first of several releases", []api.Server{server(12, 12, 0, 2), server(12, 1, 5, 3), server(12, 1, 4, 1), server(12, 1, 6, 4)}, 0, 4},
		{"its own release, with a rest of another window", []api.Server{server(4, 3, 0, 1), server(4, 3, 1, 8)}, 3, 4},
		{"one tick", []api.Server{server(1, 1, 0, 1)}, 5, 6},
		{"one tick, at the end", []api.Server{server(1, 1, 0, 1)}, end - 1, end},
		{"a release at the last tick", []api.Server{server(1<<20, 1, 1<<20-1, 0)}, end - 2, end - 1},
		{"behind the last release", []api.Server{server(1<<20, 1, 0, 0)}, end - 1<<20 + 1, end},
		{"a rest that ends with all ticks", []api.Server{server(1<<20, 1<<20, 0, 0)}, end - 1<<20, end},
		{"a rest that ends ahead of that", []api.Server{server(1<<20, 1<<20-1, 0, 0)}, end - 1<<20, end - 1},
		{"a rest and a release behind all ticks", []api.Server{server(1<<20, 1<<20, 5, 0)}, end - 9, end},
		{"a rest behind all ticks, at the end", []api.Server{server(1<<20, 1<<20, 5, 0)}, end - 1, end},
	} {
		d := start(t, c.list)
		advance(t, d, c.now, api.OK)
		if got := d.Until(); got != c.want {
			t.Errorf("%s: at %d Until = %d, want %d", c.what, c.now, got, c.want)
		}
	}
}

// wrong are numbers that no dispatcher that stands at a tick goes to.
func wrong(now int) []int {
	return []int{bottom, bottom + 1, -end, math.MinInt32, -2, -1, now - 1, end, end + 1, 2 * end, top - 1, top}
}

func TestP12_4_AdvanceRefused(t *testing.T) {
	forAll(t, 60, func(m reading) {
		d := start(t, m.list)
		for _, tick := range m.edges() {
			advance(t, d, tick, api.OK)
			for _, to := range wrong(tick) {
				advance(t, d, to, api.ErrArg)
				m.agrees(t, d, tick)
			}
		}
	})
}

func TestP12_4_AdvanceBelowNow(t *testing.T) {
	d := start(t, chapter())
	advance(t, d, 25, api.OK)
	for to := range 25 {
		advance(t, d, to, api.ErrArg)
	}
	m := read(t, "the chapter's", chapter())
	for tick := 25; tick < 60; tick++ {
		m.agrees(t, d, tick)
		advance(t, d, tick+1, api.OK)
	}
}

// From many ticks: to Now itself, to the next one, to just ahead of Until, to Until, to the last tick of all.
func TestP12_4_AdvanceToEdges(t *testing.T) {
	forAll(t, 40, func(m reading) {
		for _, from := range m.edges() {
			goals := []int{from, from + 1, m.until(from) - 1, m.until(from), m.until(from) + 1, from + m.hyper - 1, from + m.hyper, from + m.hyper + 1, end - 1}
			for _, to := range goals {
				if to < from || to >= end {
					continue
				}
				d := start(t, m.list)
				advance(t, d, from, api.OK)
				advance(t, d, to, api.OK)
				m.agrees(t, d, to)
				advance(t, d, to, api.OK)
				m.agrees(t, d, to)
			}
		}
	})
}

func TestP12_4_AdvanceAtOnce(t *testing.T) {
	forAll(t, 40, func(m reading) {
		for place := range 4*m.hyper + 1 {
			for _, to := range []int{place, 9*m.hyper + place, 1<<39 + place, end - 1 - place} {
				d := start(t, m.list)
				advance(t, d, to, api.OK)
				m.agrees(t, d, to)
			}
		}
	})
}

func TestP12_4_WhatIsLeftIsLost(t *testing.T) {
	// The second one asks for three of four ticks, and is left one: two of three are lost each time.
	d := start(t, []api.Server{server(4, 3, 0, 9), server(4, 3, 1, 1)})
	for _, c := range [][5]int{ // tick, occupant, until, rests
		{0, 1, 1, 3, 0}, {1, 1, 3, 2, 3}, {3, 2, 4, 0, 3}, {4, 1, 5, 3, 2}, {5, 1, 7, 2, 3}, {7, 2, 8, 0, 3}, {8, 1, 9, 3, 2}, {9, 1, 11, 2, 3}, {end - 1, 2, end, 0, 3},
	} {
		advance(t, d, c[0], api.OK)
		stands(t, "lost", d, c[0], c[1], c[2], c[3], c[4])
	}
}

func TestP12_4_MoreThanThereIs(t *testing.T) {
	// The greatest takes all from its offset on: the other one has ticks ahead of that alone.
	d := start(t, []api.Server{server(5, 5, 4, 9), server(10, 6, 0, 1)})
	for _, c := range [][5]int{
		{0, 2, 4, 0, 6}, {3, 2, 4, 0, 3}, {4, 1, 9, 5, 2}, {8, 1, 9, 1, 2}, {9, 1, 10, 5, 2}, {10, 1, 14, 4, 6}, {20, 1, 24, 4, 6}, {end - 1, 1, end, 4, 6},
	} {
		advance(t, d, c[0], api.OK)
		stands(t, "too much", d, c[0], c[1], c[2], c[3], c[4])
	}
}

func TestP12_4_TheFirstTicksAreUnlikeTheNext(t *testing.T) {
	d := start(t, chapter())
	for _, c := range [][5]int{
		{0, 2, 4, 0, 6}, {8, 0, 9, 0, 0}, {9, 1, 10, 2, 0}, {10, 1, 11, 1, 6}, {18, 2, 19, 0, 1}, {19, 1, 20, 2, 0}, {20, 1, 21, 1, 6}, {28, 2, 29, 0, 1},
	} {
		advance(t, d, c[0], api.OK)
		stands(t, "unlike", d, c[0], c[1], c[2], c[3], c[4])
	}
}

// As many servers and releases as there may be, held against the second reading; were the turns on the way played, this would not end.
func TestP12_4_AsMuchAsThereMayBe(t *testing.T) {
	var full []api.Server
	for i := range api.MaxParts {
		full = append(full, server(1024, 1+i*3%64, i*331%1024, (i*11+5)%32))
	}
	for what, list := range map[string][]api.Server{
		"all servers":   full,
		"short periods": {server(32767, 9, 32766, 3), server(1, 1, 0, 1)},
		"long periods":  {server(1<<20, 1<<19, 1<<20-1, 3), server(1<<18, 1<<17, 77, 1), server(1<<16, 99, 1<<16-1, 4)},
		"primes":        {server(1009, 400, 1008, 3), server(1013, 900, 500, 2)},
		"both":          {server(1<<20, 1<<18, 9, 0), server(64, 20, 3, 3), server(128, 20, 33, 7), server(256, 99, 44, 5)},
	} {
		m := read(t, what, list)
		d := start(t, list)
		for _, tick := range m.edges() {
			advance(t, d, tick, api.OK)
			m.agrees(t, d, tick)
			fresh := start(t, list)
			advance(t, fresh, tick, api.OK)
			m.agrees(t, fresh, tick)
		}
	}
}
