package slots_test

import (
	"math"
	"math/rand/v2"
	"slices"
	"testing"

	"bulkhead/api"
	"bulkhead/check"
	"bulkhead/slots"
)

const (
	top    = math.MaxInt
	bottom = math.MinInt
	end    = api.MaxTick
)

func server(period, budget, offset, priority int) api.Server {
	return api.Server{Period: period, Budget: budget, Offset: offset, Priority: priority}
}

// part is a part of slots, each told by its Length and its Part.
func part(numbers ...int) []api.Slot {
	var list []api.Slot
	for pair := range slices.Chunk(numbers, 2) {
		list = append(list, api.Slot{Length: pair[0], Part: pair[1]})
	}
	return list
}

func table(prologue, cycle []api.Slot) api.Table {
	return api.Table{Prologue: prologue, Cycle: cycle}
}

// chapter is the chapter's X and B.
func chapter() []api.Server { return []api.Server{server(5, 2, 4, 9), server(10, 6, 0, 1)} }

// chapterTable is the table that the chapter tells of them.
func chapterTable() api.Table {
	return table(part(4, 2, 2, 1, 2, 2, 1, 0, 1, 1), part(1, 1, 3, 2, 2, 1, 3, 2, 1, 1))
}

// many is as many servers as there may be; the greatest priority stands in the middle.
func many() []api.Server {
	periods := []int{8, 12, 6, 24, 48, 16}
	var list []api.Server
	for i := range api.MaxParts {
		period := periods[i%len(periods)]
		list = append(list, server(period, 1+i%2, i*5%period, (i*7+100)%32*8+7))
	}
	return list
}

// seldom is as many servers as there may be, each of which has ticks of its own.
func seldom() []api.Server {
	var list []api.Server
	for i := range api.MaxParts {
		list = append(list, server(96, 1+i%3, i*3, 255-i))
	}
	return list
}

// families are servers of many kinds, each with a name.
func families() map[string][]api.Server {
	return map[string][]api.Server{
		"none":                       nil,
		"one":                        {server(3, 1, 0, 0)},
		"one of one tick":            {server(1, 1, 0, 255)},
		"one full":                   {server(6, 6, 0, 7)},
		"one full, from its offset":  {server(6, 6, 5, 7)},
		"one over the end of H":      {server(6, 4, 4, 7)},
		"one at the end of H":        {server(6, 1, 5, 7)},
		"one at both ends of H":      {server(8, 2, 7, 7)},
		"the chapter's":              chapter(),
		"rests that come late":       {server(7, 7, 1, 3), server(7, 7, 4, 8)},
		"too much asked":             {server(5, 5, 4, 9), server(10, 6, 0, 1)},
		"too much, never a tick":     {server(4, 1, 0, 1), server(2, 2, 0, 3), server(8, 8, 0, 2)},
		"only in the first H":        {server(10, 10, 9, 9), server(10, 10, 0, 1)},
		"greatest first":             {server(4, 1, 1, 200), server(6, 2, 0, 100), server(3, 1, 2, 0)},
		"greatest in the middle":     {server(4, 1, 1, 100), server(6, 2, 0, 200), server(3, 1, 2, 0)},
		"greatest last":              {server(4, 1, 1, 100), server(6, 2, 0, 0), server(3, 1, 2, 200)},
		"lost at a release":          {server(2, 1, 0, 9), server(6, 5, 1, 4), server(3, 2, 0, 6)},
		"one of period 1 below":      {server(9, 2, 3, 5), server(1, 1, 0, 1)},
		"one of period 1 above":      {server(9, 2, 3, 1), server(1, 1, 0, 5)},
		"nobody at the end of H":     {server(8, 2, 3, 2), server(8, 1, 1, 1)},
		"as many as there may be":    many(),
		"each with ticks of its own": seldom(),
		"a chain that is moved back": {server(12, 12, 11, 5), server(6, 4, 3, 4), server(4, 1, 2, 3), server(3, 2, 1, 2)},
	}
}

// chance is servers by chance whose hyperperiod is at most as great as most.
func chance(r *rand.Rand, most int) []api.Server {
	for {
		var list []api.Server
		priorities := r.Perm(256)
		for i := range 1 + r.IntN(6) {
			period := 1 + r.IntN(12)
			list = append(list, server(period, 1+r.IntN(period), r.IntN(period), priorities[i]))
		}
		if hyper, err := check.Hyper(list); err == api.OK && hyper <= most {
			return list
		}
	}
}

// forAllServers does something with every family, and with servers by chance.
func forAllServers(times int, do func(what string, list []api.Server)) {
	for what, list := range families() {
		do(what, list)
	}
	r := rand.New(rand.NewPCG(13, 7))
	for range times {
		do("by chance", chance(r, 120))
	}
}

// played is a second reading of the rule: the occupants of the ticks below one, tick by tick, the releases first.
func played(list []api.Server, below int) []int {
	rests := make([]int, len(list))
	occupants := make([]int, below)
	for tick := range below {
		chosen := 0
		for i, s := range list {
			if tick%s.Period == s.Offset {
				rests[i] = s.Budget
			}
			if rests[i] > 0 && (chosen == 0 || s.Priority > list[chosen-1].Priority) {
				chosen = i + 1
			}
		}
		if chosen > 0 {
			rests[chosen-1]--
		}
		occupants[tick] = chosen
	}
	return occupants
}

// asSlots tells occupants, one a tick, as slots that can't be joined.
func asSlots(occupants []int) []api.Slot {
	var list []api.Slot
	for tick, occupant := range occupants {
		if tick == 0 || occupant != occupants[tick-1] {
			list = append(list, api.Slot{Part: occupant})
		}
		list[len(list)-1].Length++
	}
	return list
}

func equal(a, b api.Table) bool {
	return slices.Equal(a.Prologue, b.Prologue) && slices.Equal(a.Cycle, b.Cycle)
}

func isEmpty(t api.Table) bool { return len(t.Prologue) == 0 && len(t.Cycle) == 0 }

// made is the table of servers that may be.
func made(t *testing.T, list []api.Server) api.Table {
	t.Helper()
	x, err := slots.Make(list)
	if err != api.OK {
		t.Fatalf("Make(%v): %d", list, err)
	}
	return x
}

// reading is a second reading of a table that goes: each tick's occupant and the end of its slot, spread out over both parts.
type reading struct {
	what             string
	table            api.Table
	hyper            int
	occupants, until []int
}

func read(what string, x api.Table) reading {
	m := reading{what: what, table: x}
	for _, list := range [][]api.Slot{x.Prologue, x.Cycle} {
		for _, slot := range list {
			behind := len(m.occupants) + slot.Length
			for range slot.Length {
				m.occupants = append(m.occupants, slot.Part)
				m.until = append(m.until, behind)
			}
		}
	}
	m.hyper = len(m.occupants) / 2
	return m
}

// place is the tick of the first two turns that a tick is like.
func (m reading) place(tick int) int {
	if tick < m.hyper {
		return tick
	}
	return m.hyper + (tick-m.hyper)%m.hyper
}

func (m reading) at(tick int) int { return m.occupants[m.place(tick)] }

func (m reading) untilAt(tick int) int { return min(end, tick+m.until[m.place(tick)]-m.place(tick)) }

// edges are the ticks that the chapter names, and some beside them, rising.
func (m reading) edges() []int {
	h := m.hyper
	list := []int{0, 1, h - 1, h, h + 1, 2*h - 1, 2 * h, 2*h + 1, 3*h - 1, 3 * h, 3*h + h/2, 1000*h - 1, 1000 * h, 1<<39 + 5, end - 2*h, end - h - 1, end - h, end - 2, end - 1}
	slices.Sort(list)
	return slices.Compact(list)
}

// tables are tables that go, of many kinds, each with a name.
func tables() map[string]api.Table {
	return map[string]api.Table{
		"nobody":                     table(part(1, 0), part(1, 0)),
		"one tick each":              table(part(1, 1), part(1, 32)),
		"one slot each":              table(part(9, 3), part(9, 3)),
		"one slot, then many":        table(part(6, 0), part(1, 1, 1, 2, 1, 3, 1, 2, 1, 1, 1, 0)),
		"many, then one slot":        table(part(1, 1, 1, 2, 1, 3, 1, 2, 1, 1, 1, 0), part(6, 32)),
		"the chapter's":              chapterTable(),
		"one occupant at all ends":   table(part(1, 5, 2, 0, 4, 5), part(3, 5, 1, 7, 3, 5)),
		"no occupant at all ends":    table(part(1, 0, 2, 31, 4, 0), part(3, 0, 1, 7, 3, 0)),
		"a length that is a power":   table(part(16, 1, 16, 2), part(1, 1, 30, 2, 1, 1)),
		"a length that is none":      table(part(13, 1, 20, 2), part(1, 1, 31, 2, 1, 1)),
		"slots as long as the ticks": table(part(1, 1, 99, 2), part(99, 2, 1, 1)),
	}
}

// byChance is a table that goes, of a length from 1 to most.
func byChance(r *rand.Rand, most int) api.Table {
	length := 1 + r.IntN(most)
	parts := 2 + r.IntN(api.MaxParts)
	ticks := func() []api.Slot {
		occupants := make([]int, length)
		for tick := range occupants {
			occupants[tick] = r.IntN(parts)
			if tick > 0 && r.IntN(3) > 0 {
				occupants[tick] = occupants[tick-1]
			}
		}
		return asSlots(occupants)
	}
	return table(ticks(), ticks())
}

// forAll does something with the second reading of every table, of every family's table, and of tables by chance.
func forAll(t *testing.T, times int, do func(m reading)) {
	t.Helper()
	for what, x := range tables() {
		do(read(what, x))
	}
	for what, list := range families() {
		do(read("of servers: "+what, made(t, list)))
	}
	r := rand.New(rand.NewPCG(3, 1))
	for range times {
		do(read("by chance", byChance(r, 60)))
	}
}

// alternating is a part of so many slots of one tick each.
func alternating(count int) []api.Slot {
	list := make([]api.Slot, count)
	for place := range list {
		list[place] = api.Slot{Length: 1, Part: place % 2 * 32}
	}
	return list
}

func wantAt(t *testing.T, x api.Table, tick, want int, wantErr api.Errno) {
	t.Helper()
	if got, err := slots.At(x, tick); got != want || err != wantErr {
		t.Errorf("At(%d) = %d, %d, want %d, %d", tick, got, err, want, wantErr)
	}
}

func wantUntil(t *testing.T, x api.Table, tick, want int, wantErr api.Errno) {
	t.Helper()
	if got, err := slots.Until(x, tick); got != want || err != wantErr {
		t.Errorf("Until(%d) = %d, %d, want %d, %d", tick, got, err, want, wantErr)
	}
}

func TestExamples(t *testing.T) {
	nobody := table(part(1, 0), part(1, 0))
	if x := made(t, nil); !equal(x, nobody) {
		t.Errorf("Make(none) = %v", x)
	}
	x := made(t, chapter())
	if !equal(x, chapterTable()) {
		t.Errorf("Make([X B]) = %v", x)
	}
	for tick, want := range map[int]int{8: 0, 18: 2, 10: 1, 1099511627775: 1} {
		wantAt(t, x, tick, want, api.OK)
	}
	for tick, want := range map[int]int{9: 10, 10: 11, 19: 20, 1099511627775: 1099511627776} {
		wantUntil(t, x, tick, want, api.OK)
	}
	wantAt(t, x, -1, 0, api.ErrArg)
	wantAt(t, x, 1099511627776, 0, api.ErrArg)
	wantAt(t, table(part(1, 0), part(2, 0)), -1, 0, api.ErrForm)
	for _, bad := range []api.Table{table(part(2, 1, 1, 1), part(3, 0)), table(part(0, 1, 1, 2), part(1, 0)), table(part(1, 33), part(1, 0))} {
		if err := slots.Valid(bad); err != api.ErrForm {
			t.Errorf("Valid(%v) = %d", bad, err)
		}
	}
	if b, err := slots.Encode(nobody); len(b) != 30 || err != api.OK {
		t.Errorf("Encode of nobody: %d bytes, %d", len(b), err)
	}
	if x, err := slots.Make([]api.Server{server(0, 1, 0, 1)}); !isEmpty(x) || err != api.ErrServer {
		t.Errorf("of period 0: %v, %d", x, err)
	}
}

func TestP13_1_MakeAsTheRuleSays(t *testing.T) {
	forAllServers(400, func(what string, list []api.Server) {
		x := made(t, list)
		hyper, _ := check.Hyper(list)
		occupants := played(list, 2*hyper)
		if want := table(asSlots(occupants[:hyper]), asSlots(occupants[hyper:])); !equal(x, want) {
			t.Fatalf("%s %v: %v, want %v", what, list, x, want)
		}
		if err := slots.Valid(x); err != api.OK {
			t.Fatalf("%s %v: %v does not go: %d", what, list, x, err)
		}
	})
}

func TestP13_1_MakeByHand(t *testing.T) {
	for _, c := range []struct {
		what string
		list []api.Server
		want api.Table
	}{
		{"an empty list", []api.Server{}, table(part(1, 0), part(1, 0))},
		{"one of one tick", []api.Server{server(1, 1, 0, 0)}, table(part(1, 1), part(1, 1))},
		{"one always there", []api.Server{server(5, 5, 0, 9)}, table(part(5, 1), part(5, 1))},
		{"one from its offset on", []api.Server{server(5, 5, 4, 9)}, table(part(4, 0, 1, 1), part(5, 1))},
		{"one occupant at the end of the prologue and the beginning of the cycle", []api.Server{server(5, 2, 4, 9)}, table(part(4, 0, 1, 1), part(1, 1, 3, 0, 1, 1))},
		{"nobody at the end and the beginning", []api.Server{server(5, 2, 1, 9)}, table(part(1, 0, 2, 1, 2, 0), part(1, 0, 2, 1, 2, 0))},
		{"more asked than there is", []api.Server{server(2, 2, 1, 5), server(4, 3, 0, 1)}, table(part(1, 2, 3, 1), part(4, 1))},
		{"the numbers are the places, not the priorities", []api.Server{server(6, 1, 0, 1), server(6, 1, 0, 3), server(6, 1, 0, 2)}, table(part(1, 2, 1, 3, 1, 1, 3, 0), part(1, 2, 1, 3, 1, 1, 3, 0))},
		{"slots of one occupant in two windows are one", []api.Server{server(3, 2, 1, 2), server(3, 2, 0, 1)}, table(part(1, 2, 2, 1), part(1, 2, 2, 1))},
	} {
		if x := made(t, c.list); !equal(x, c.want) {
			t.Errorf("%s: %v, want %v", c.what, x, c.want)
		}
	}
}

func TestP13_1_MakeAsLongAsMayBe(t *testing.T) {
	for _, c := range []struct {
		what string
		list []api.Server
		want api.Table
	}{
		{"all ticks", []api.Server{server(1<<20, 1<<20, 0, 0)}, table(part(1<<20, 1), part(1<<20, 1))},
		{"the last tick", []api.Server{server(1<<20, 1, 1<<20-1, 0)}, table(part(1<<20-1, 0, 1, 1), part(1<<20-1, 0, 1, 1))},
		{"from the last tick on", []api.Server{server(1<<20, 1<<20, 1<<20-1, 0)}, table(part(1<<20-1, 0, 1, 1), part(1<<20, 1))},
		{"of two", []api.Server{server(1<<20, 1<<20, 0, 0), server(1<<19, 1, 1<<19-1, 1)}, table(part(1<<19-1, 1, 1, 2, 1<<19-1, 1, 1, 2), part(1<<19-1, 1, 1, 2, 1<<19-1, 1, 1, 2))},
	} {
		if x := made(t, c.list); !equal(x, c.want) {
			t.Errorf("%s: %v", c.what, x)
		}
	}
}

// As many slots as a table can have: one more in each part than package occ tells in one call.
func TestP13_1_MakeOfMostSlots(t *testing.T) {
	for what, list := range map[string][]api.Server{
		"nobody between all":  {server(32, 1, 1, 9), server(32*32767, 1, 5, 1)},
		"nobody, in the rear": {server(32, 1, 30, 9), server(32*32767, 1, 32*32767-5, 1)},
		"one of them split":   {server(32, 1, 1, 9), server(32*32767, 1, 32*16383+20, 1)},
		"a longer one":        {server(32, 1, 3, 9), server(32*32767, 20, 5, 1)},
		"halves of odd H":     {server(31, 1, 1, 9), server(31*32767, 1, 5, 1)},
	} {
		x := made(t, list)
		hyper, _ := check.Hyper(list)
		occupants := played(list, 2*hyper)
		if !equal(x, table(asSlots(occupants[:hyper]), asSlots(occupants[hyper:]))) {
			t.Errorf("%s: not as the rule says", what)
		}
		if len(x.Prologue) != api.MaxRuns+1 || len(x.Cycle) != api.MaxRuns+1 {
			t.Errorf("%s: %d and %d slots, want %d each", what, len(x.Prologue), len(x.Cycle), api.MaxRuns+1)
		}
	}
	// One slot less, as it ends with H: just as many as package occ tells.
	x := made(t, []api.Server{server(32, 1, 31, 9), server(32*32767, 1, 8, 1)})
	if len(x.Prologue) != api.MaxRuns || slots.Valid(x) != api.OK {
		t.Errorf("%d slots, %d", len(x.Prologue), slots.Valid(x))
	}
}

func TestP13_1_ServersThatMayNotBe(t *testing.T) {
	good := server(10, 2, 1, 5)
	tooMany := make([]api.Server, api.MaxParts+1)
	for i := range tooMany {
		tooMany[i] = server(10, 1, 0, i)
	}
	for what, c := range map[string]struct {
		list []api.Server
		err  api.Errno
	}{
		"one too many":             {tooMany, api.ErrCount},
		"too many, and period 0":   {append(slices.Clone(tooMany), api.Server{}), api.ErrCount},
		"period 0":                 {[]api.Server{server(0, 1, 0, 1)}, api.ErrServer},
		"period the least":         {[]api.Server{good, server(bottom, 1, 0, 1)}, api.ErrServer},
		"period too great":         {[]api.Server{server(api.MaxPeriod+1, 1, 0, 1), good}, api.ErrServer},
		"period the greatest":      {[]api.Server{server(top, 1, 0, 1)}, api.ErrServer},
		"budget 0":                 {[]api.Server{good, server(10, 0, 0, 1)}, api.ErrServer},
		"budget above the period":  {[]api.Server{good, server(10, 11, 0, 1)}, api.ErrServer},
		"budget the greatest":      {[]api.Server{server(10, top, 0, 1)}, api.ErrServer},
		"offset -1":                {[]api.Server{server(10, 1, -1, 1)}, api.ErrServer},
		"offset the period":        {[]api.Server{server(10, 1, 10, 1)}, api.ErrServer},
		"priority -1":              {[]api.Server{server(10, 1, 0, -1)}, api.ErrServer},
		"priority too great":       {[]api.Server{server(10, 1, 0, api.MaxPriority+1)}, api.ErrServer},
		"priority twice":           {[]api.Server{good, server(3, 1, 0, 4), good}, api.ErrServer},
		"server ahead of H":        {[]api.Server{server(1<<20, 2, 4, 9), server(3, 0, 0, 1)}, api.ErrServer},
		"hyperperiod":              {[]api.Server{server(1<<20, 2, 4, 9), server(3, 1, 0, 1)}, api.ErrHyper},
		"hyperperiod of many":      {[]api.Server{server(1048573, 1, 0, 1), server(1048571, 1, 0, 2), server(1048559, 1, 0, 3), server(1048549, 1, 0, 4)}, api.ErrHyper},
		"table":                    {[]api.Server{server(1<<20, 2, 4, 9), server(1, 1, 0, 1)}, api.ErrTable},
		"table, one step too many": {[]api.Server{server(32768, 1, 0, 1), server(1, 1, 0, 2)}, api.ErrTable},
	} {
		if x, err := slots.Make(c.list); !isEmpty(x) || err != c.err {
			t.Errorf("%s: %v, %d, want %d", what, x, err, c.err)
		}
		if _, err := check.Hyper(c.list); err != c.err {
			t.Errorf("%s: check.Hyper: %d", what, err)
		}
	}
}

// badParts are parts of which no table goes, whatever the other one is.
func badParts() map[string][]api.Slot {
	return map[string][]api.Slot{
		"no slots":                             nil,
		"an empty list":                        {},
		"length 0":                             part(0, 1),
		"length 0 first":                       part(0, 1, 3, 2),
		"length 0 between":                     part(1, 1, 0, 3, 2, 2),
		"length 0 last":                        part(3, 1, 0, 2),
		"length 0 between one Part":            part(1, 1, 0, 3, 2, 1),
		"length -1":                            part(-1, 1),
		"length -1, the sum is 3":              part(1, 1, -1, 0, 3, 2),
		"length the least":                     part(3, 1, bottom, 0),
		"length the greatest":                  part(top, 1),
		"length one beyond":                    part(api.MaxHyper+1, 1),
		"length one beyond, in two":            part(api.MaxHyper, 1, 1, 2),
		"length one beyond, in three":          part(1, 2, api.MaxHyper-1, 1, 1, 2),
		"length twice as great":                part(api.MaxHyper, 1, api.MaxHyper, 2),
		"Part -1":                              part(3, -1),
		"Part -1 last":                         part(2, 0, 1, -1),
		"Part the least":                       part(2, 0, 1, bottom),
		"Part above MaxParts":                  part(3, api.MaxParts+1),
		"Part above MaxParts, in two":          part(1, 32, 2, 33),
		"Part a byte more":                     part(3, 256),
		"Part the greatest":                    part(3, top),
		"neighbours of one Part":               part(1, 1, 2, 1),
		"neighbours of nobody":                 part(1, 0, 2, 0),
		"neighbours of one Part, later":        part(1, 1, 1, 2, 1, 2),
		"neighbours of the last Part":          part(1, 32, 1, 32, 1, 1),
		"a sum beyond an int, 3":               part(top, 1, top, 2, 5, 3),
		"a sum beyond an int, 1":               part(top, 1, top, 2, 3, 3),
		"a sum beyond an int, 0":               part(top, 1, top, 2, 2, 3),
		"a sum beyond an int, below 0":         part(top, 1, 1, 2),
		"a sum beyond an int, later":           part(3, 3, top-2, 1, bottom+2, 2),
		"a sum beyond an int behind a slot, 1": part(1, 1, top, 2, top, 3, 2, 1),
		"a sum beyond an int behind a slot, 2": part(1, 1, top, 2, top, 3, 3, 1),
		"a sum beyond an int behind a slot, 3": part(1, 1, top, 2, top, 3, 4, 1),
		"a sum beyond an int, from below":      part(bottom, 1, bottom, 2, 3, 1),
	}
}

// badTables are tables that do not go.
func badTables() map[string]api.Table {
	list := map[string]api.Table{
		"nothing":                    {},
		"unlike lengths":             table(part(1, 0), part(2, 0)),
		"unlike lengths, the other":  table(part(2, 0), part(1, 0)),
		"unlike lengths, of many":    table(part(3, 1, 3, 2), part(3, 1, 2, 2)),
		"unlike lengths, 2^20 apart": table(part(api.MaxHyper, 1), part(1, 1)),
		"twice as long":              table(part(5, 1), part(5, 1, 5, 2)),
		"both one beyond":            table(part(api.MaxHyper+1, 1), part(api.MaxHyper+1, 1)),
		"both one beyond, in two":    table(part(1, 2, api.MaxHyper, 1), part(api.MaxHyper, 1, 1, 2)),
		"too many slots":             table(alternating(api.MaxHyper+1), alternating(api.MaxHyper+1)),
	}
	for what, bad := range badParts() {
		for _, length := range []int{1, 2, 3} {
			with := string(rune('0' + length))
			list["prologue, with "+with+": "+what] = table(bad, part(length, 2))
			list["cycle, with "+with+": "+what] = table(part(length, 2), bad)
		}
		list["prologue of 3: "+what] = table(bad, part(1, 1, 2, 2))
		list["cycle of 3: "+what] = table(part(1, 1, 2, 2), bad)
		list["both: "+what] = table(bad, slices.Clone(bad))
	}
	return list
}

func TestP13_2_Valid(t *testing.T) {
	good := tables()
	good["lengths of MaxHyper"] = table(part(api.MaxHyper, 32), part(api.MaxHyper, 0))
	good["lengths of MaxHyper, in parts"] = table(part(1, 2, api.MaxHyper-2, 1, 1, 2), part(api.MaxHyper-1, 1, 1, 0))
	good["slots of MaxHyper"] = table(alternating(api.MaxHyper), alternating(api.MaxHyper))
	for i := range api.MaxParts + 1 {
		good["Part "+string(rune('0'+i))] = table(part(2, i), part(1, i, 1, (i+1)%33))
	}
	for what, x := range good {
		if err := slots.Valid(x); err != api.OK {
			t.Errorf("%s: %d", what, err)
		}
	}
	for what, x := range badTables() {
		if err := slots.Valid(x); err != api.ErrForm {
			t.Errorf("%s: %d", what, err)
		}
	}
}

// Every table of few and small slots, held against the section 'Words' as it stands there.
func TestP13_2_ValidOfAllSmallTables(t *testing.T) {
	parts := [][]api.Slot{nil}
	for _, length := range []int{-1, 0, 1, 2} {
		for _, occupant := range []int{-1, 0, 1, 33} {
			slot := api.Slot{Length: length, Part: occupant}
			for _, list := range parts[:min(len(parts), 90)] {
				parts = append(parts, append(slices.Clone(list), slot))
			}
		}
	}
	goes := func(list []api.Slot) int {
		sum := 0
		for i, slot := range list {
			if slot.Length < 1 || slot.Part < 0 || slot.Part > 32 || i > 0 && list[i-1].Part == slot.Part {
				return -1
			}
			sum += slot.Length
		}
		return sum
	}
	for _, a := range parts {
		for _, b := range parts {
			want := api.ErrForm
			if goes(a) > 0 && goes(a) == goes(b) {
				want = api.OK
			}
			if got := slots.Valid(table(a, b)); got != want {
				t.Fatalf("%v, %v: %d, want %d", a, b, got, want)
			}
		}
	}
}

func TestP13_3_AtAndUntil(t *testing.T) {
	forAll(t, 150, func(m reading) {
		for tick := range 4*m.hyper + 2 {
			wantAt(t, m.table, tick, m.at(tick), api.OK)
			wantUntil(t, m.table, tick, m.untilAt(tick), api.OK)
		}
		for _, tick := range m.edges() {
			wantAt(t, m.table, tick, m.at(tick), api.OK)
			wantUntil(t, m.table, tick, m.untilAt(tick), api.OK)
		}
		for tick := end - 2*m.hyper - 1; tick < end; tick++ {
			wantAt(t, m.table, tick, m.at(tick), api.OK)
			wantUntil(t, m.table, tick, m.untilAt(tick), api.OK)
		}
		if t.Failed() {
			t.Fatalf("%s: %v", m.what, m.table)
		}
	})
}

func TestP13_3_GreatTables(t *testing.T) {
	x := table(part(api.MaxHyper, 7), part(api.MaxHyper-1, 9, 1, 8))
	for _, c := range [][3]int{ // tick, occupant, end
		{0, 7, 1 << 20}, {1<<20 - 1, 7, 1 << 20}, {1 << 20, 9, 1<<21 - 1}, {1<<21 - 2, 9, 1<<21 - 1}, {1<<21 - 1, 8, 1 << 21}, {1 << 21, 9, 3<<20 - 1},
		{end - 1<<20, 9, end - 1}, {end - 2, 9, end - 1}, {end - 1, 8, end},
	} {
		wantAt(t, x, c[0], c[1], api.OK)
		wantUntil(t, x, c[0], c[2], api.OK)
	}
	// MaxTick is no multiple of this length: the last slots would end above it.
	y := table(part(api.MaxHyper-3, 7), part(5, 3, api.MaxHyper-8, 9)) // it is 9 modulo this one
	for _, c := range [][3]int{
		{end - 10, 9, end - 9}, {end - 9, 3, end - 4}, {end - 5, 3, end - 4}, {end - 4, 9, end}, {end - 1, 9, end},
	} {
		wantAt(t, y, c[0], c[1], api.OK)
		wantUntil(t, y, c[0], c[2], api.OK)
	}
	z := table(part(3, 1), part(3, 2)) // MaxTick is 1 modulo 3
	wantUntil(t, z, end-1, end, api.OK)
	wantUntil(t, z, end-2, end-1, api.OK)
	wantAt(t, z, end-1, 2, api.OK)
}

// wrongTicks are ticks that may not be.
func wrongTicks() []int {
	return []int{-1, -2, math.MinInt32, -end, bottom + 1, bottom, end, end + 1, end + 9, 2 * end, top - 1, top}
}

func TestP13_3_TicksThatMayNotBe(t *testing.T) {
	for _, x := range tables() {
		for _, tick := range wrongTicks() {
			wantAt(t, x, tick, 0, api.ErrArg)
			wantUntil(t, x, tick, 0, api.ErrArg)
		}
	}
}

func TestP13_3_TablesThatDoNotGo(t *testing.T) {
	for what, x := range badTables() {
		if len(x.Prologue) > 1000 {
			continue // a million slots at each of many ticks
		}
		for _, tick := range append(wrongTicks(), 0, 1, 2, 3, 1<<20, end-1) { // the table's fault comes first
			wantAt(t, x, tick, 0, api.ErrForm)
			wantUntil(t, x, tick, 0, api.ErrForm)
		}
		if t.Failed() {
			t.Fatal(what)
		}
	}
}

// walk is a new walker.
func walk(t *testing.T, x api.Table) *slots.Walker {
	t.Helper()
	w, err := slots.Walk(x)
	if w == nil || err != api.OK {
		t.Fatalf("Walk(%v): %v, %d", x, w, err)
	}
	return w
}

func advance(t *testing.T, w *slots.Walker, to int, want api.Errno) {
	t.Helper()
	if err := w.Advance(to); err != want {
		t.Fatalf("at %d: Advance(%d) = %d, want %d", w.Now(), to, err, want)
	}
}

// agrees wants a walker to stand at a tick, as the second reading has it.
func (m reading) agrees(t *testing.T, w *slots.Walker, tick int) {
	t.Helper()
	if w.Now() != tick || w.Occupant() != m.at(tick) || w.Until() != m.untilAt(tick) {
		t.Fatalf("%s %v: at %d: %d until %d; want at %d: %d until %d", m.what, m.table, w.Now(), w.Occupant(), w.Until(), tick, m.at(tick), m.untilAt(tick))
	}
}

func TestP13_6_WalkStandsAtTick0(t *testing.T) {
	forAll(t, 100, func(m reading) { m.agrees(t, walk(t, m.table), 0) })
	w := walk(t, table(part(api.MaxHyper, 3), part(api.MaxHyper, 0)))
	if w.Now() != 0 || w.Occupant() != 3 || w.Until() != 1<<20 {
		t.Errorf("at %d: %d until %d", w.Now(), w.Occupant(), w.Until())
	}
}

func TestP13_6_TablesThatDoNotGo(t *testing.T) {
	for what, x := range badTables() {
		if w, err := slots.Walk(x); w != nil || err != api.ErrForm {
			t.Errorf("%s: %v, %d", what, w, err)
		}
	}
}

func TestP13_6_TickByTick(t *testing.T) {
	forAll(t, 100, func(m reading) {
		w := walk(t, m.table)
		for tick := range 4*m.hyper + 2 {
			advance(t, w, tick, api.OK)
			m.agrees(t, w, tick)
			m.agrees(t, w, tick) // asking changes nothing
		}
		for tick := end - 2*m.hyper - 1; tick < end; tick++ {
			advance(t, w, max(tick, w.Now()), api.OK)
			m.agrees(t, w, w.Now())
		}
	})
}

// From many ticks: to Now itself, to just ahead of Until, to Until, around a turn, to the last tick of all.
func TestP13_6_AdvanceToEdges(t *testing.T) {
	forAll(t, 40, func(m reading) {
		for _, from := range append(m.edges(), m.hyper/2, m.hyper+m.hyper/2) {
			until := m.untilAt(from)
			for _, to := range []int{from, from + 1, until - 1, until, until + 1, from + m.hyper - 1, from + m.hyper, from + m.hyper + 1, from + 5*m.hyper, end - 1} {
				if to < from || to >= end {
					continue
				}
				w := walk(t, m.table)
				advance(t, w, from, api.OK)
				m.agrees(t, w, from)
				advance(t, w, to, api.OK)
				m.agrees(t, w, to)
				advance(t, w, to, api.OK)
				m.agrees(t, w, to)
			}
		}
	})
}

func TestP13_6_AdvanceAtOnce(t *testing.T) {
	forAll(t, 40, func(m reading) {
		for place := range 3*m.hyper + 1 {
			for _, to := range []int{place, 9*m.hyper + place, 1<<39 + place, end - 1 - place} {
				w := walk(t, m.table)
				advance(t, w, to, api.OK)
				m.agrees(t, w, to)
			}
		}
	})
}

func TestP13_6_AdvanceRefused(t *testing.T) {
	forAll(t, 40, func(m reading) {
		w := walk(t, m.table)
		for _, tick := range m.edges() {
			advance(t, w, tick, api.OK)
			for _, to := range append(wrongTicks(), tick-1, tick/2-1, min(0, tick-1)) {
				advance(t, w, to, api.ErrArg)
				m.agrees(t, w, tick)
			}
		}
	})
	w := walk(t, chapterTable())
	advance(t, w, 25, api.OK)
	for to := range 25 {
		advance(t, w, to, api.ErrArg)
	}
	m := read("the chapter's", chapterTable())
	for tick := 25; tick < 60; tick++ {
		m.agrees(t, w, tick)
		advance(t, w, tick+1, api.OK)
	}
}

// Far steps over a table of a million slots: were the slots on the way gone through, this would not end.
func TestP13_6_FarStepsOfManySlots(t *testing.T) {
	m := read("alternating", table(alternating(api.MaxHyper), alternating(api.MaxHyper)))
	w := walk(t, m.table)
	for step := range 500000 {
		advance(t, w, w.Now()+1<<20-1+step%3, api.OK)
		if step%1000 == 0 {
			if w.Occupant() != m.at(w.Now()) || w.Until() != w.Now()+1 {
				t.Fatalf("at %d: %d until %d", w.Now(), w.Occupant(), w.Until())
			}
		}
	}
}
