package slots_test

import (
	"math/rand/v2"
	"slices"
	"testing"

	"bulkhead/api"
	"bulkhead/check"
	"bulkhead/occ"
	"bulkhead/slots"
)

// byOcc wants a table of servers to tell of ticks what package occ does.
func byOcc(t *testing.T, what string, list []api.Server, x api.Table, ticks []int) {
	t.Helper()
	for _, tick := range ticks {
		want, err := occ.At(list, tick)
		got, err2 := slots.At(x, tick)
		if got != want || err != api.OK || err2 != api.OK {
			t.Fatalf("%s %v: at %d: %d, %d, occ: %d, %d", what, list, tick, got, err2, want, err)
		}
	}
}

func TestP13_7_AsPackageOccSays(t *testing.T) {
	r := rand.New(rand.NewPCG(21, 4))
	forAllServers(120, func(what string, list []api.Server) {
		x := made(t, list)
		m := read(what, x)
		ticks := m.edges()
		for tick := range min(5*m.hyper, 300) {
			ticks = append(ticks, tick, 1<<35+tick, end-1-tick)
		}
		for range 50 {
			ticks = append(ticks, r.IntN(end))
		}
		byOcc(t, what, list, x, ticks)
	})
}

// The table holds on tick by tick through five hyperperiods, by a reading that knows of none.
func TestP13_7_AsTheRulePlaysOn(t *testing.T) {
	forAllServers(100, func(what string, list []api.Server) {
		x := made(t, list)
		hyper, _ := check.Hyper(list)
		w := walk(t, x)
		for tick, want := range played(list, 5*hyper) {
			advance(t, w, tick, api.OK)
			if got, err := slots.At(x, tick); got != want || err != api.OK || w.Occupant() != want {
				t.Fatalf("%s %v: at %d: %d, the walker %d, want %d", what, list, tick, got, w.Occupant(), want)
			}
		}
	})
}

func TestP13_7_AsMuchAsThereMayBe(t *testing.T) {
	var full []api.Server
	for i := range api.MaxParts {
		full = append(full, server(1024, 1+i*3%64, i*331%1024, (i*11+5)%32))
	}
	for what, list := range map[string][]api.Server{
		"all servers":   full,
		"short periods": {server(32767, 9, 32766, 3), server(1, 1, 0, 1)},
		"long periods":  {server(1<<20, 1<<19, 1<<20-1, 3), server(1<<18, 1<<17, 77, 1), server(1<<16, 99, 1<<16-1, 4)},
		"primes":        {server(1009, 400, 1008, 3), server(1013, 900, 500, 2)},
		"most slots":    {server(32, 1, 1, 9), server(32*32767, 1, 5, 1)},
	} {
		x := made(t, list)
		hyper, _ := check.Hyper(list)
		ticks := []int{0, hyper - 1, hyper, hyper + hyper/2, 2*hyper - 1, 2 * hyper, 3 * hyper, 1 << 39, end - hyper, end - 1}
		byOcc(t, what, list, x, ticks)
		y, err := slots.Decode(encoded(t, x))
		if !equal(x, y) || err != api.OK {
			t.Errorf("%s: not read again: %d", what, err)
		}
	}
}

// The chapter's X and B: a table without a prologue of its own would be wrong at tick 8.
func TestP13_7_TheFirstTicksAreUnlikeTheNext(t *testing.T) {
	x := made(t, chapter())
	for tick, want := range map[int]int{8: 0, 18: 2, 28: 2, 1000000018: 2, 0: 2, 10: 1, 20: 1, 9: 1, 19: 1} {
		wantAt(t, x, tick, want, api.OK)
	}
}

// Going from slot to slot by Until, every tick is met once; within a slot Until and the occupant stay.
func TestP13_7_FromSlotToSlot(t *testing.T) {
	forAll(t, 100, func(m reading) {
		for _, from := range []int{0, m.hyper, 7*m.hyper + m.hyper/2, end - 3*m.hyper} {
			now := from
			for now < min(end, from+4*m.hyper) {
				occupant, err := slots.At(m.table, now)
				next, err2 := slots.Until(m.table, now)
				if err != api.OK || err2 != api.OK || next <= now || next > end {
					t.Fatalf("%s %v: at %d: %d, %d until %d, %d", m.what, m.table, now, occupant, err, next, err2)
				}
				for tick := now; tick < next; tick++ {
					wantAt(t, m.table, tick, occupant, api.OK)
					wantUntil(t, m.table, tick, next, api.OK)
				}
				now = next
			}
			if from > 8*m.hyper && now != end {
				t.Fatalf("%s %v: the last slot ends at %d", m.what, m.table, now)
			}
		}
		if t.Failed() {
			t.Fatalf("%s %v", m.what, m.table)
		}
	})
}

// The slots that are met on the way are the table's own, in its order.
func TestP13_7_TheSlotsOnTheWay(t *testing.T) {
	forAll(t, 100, func(m reading) {
		w := walk(t, m.table)
		want := slices.Concat(m.table.Prologue, m.table.Cycle, m.table.Cycle)
		for _, slot := range want {
			now := w.Now()
			if w.Occupant() != slot.Part || w.Until() != now+slot.Length {
				t.Fatalf("%s %v: at %d: %d until %d, want %v", m.what, m.table, now, w.Occupant(), w.Until(), slot)
			}
			advance(t, w, w.Until(), api.OK)
		}
	})
}

// step is a step by chance: none, short ones, around a turn, and over many.
func step(r *rand.Rand, hyper int) int {
	switch r.IntN(6) {
	case 0:
		return 0
	case 1, 2:
		return 1 + r.IntN(4)
	case 3:
		return r.IntN(hyper + 1)
	case 4:
		return max(0, hyper*(1+r.IntN(3))+r.IntN(3)-1)
	}
	return hyper*r.IntN(1<<20) + r.IntN(hyper)
}

func TestP13_6_StepsAreOneStep(t *testing.T) {
	r := rand.New(rand.NewPCG(77, 1))
	forAll(t, 150, func(m reading) {
		for range 4 {
			w := walk(t, m.table)
			for range 12 {
				to := min(end-1, w.Now()+step(r, m.hyper))
				advance(t, w, to, api.OK)
				m.agrees(t, w, to)
				at, _ := slots.At(m.table, to)
				until, _ := slots.Until(m.table, to)
				fresh := walk(t, m.table)
				advance(t, fresh, to, api.OK)
				if fresh.Now() != to || fresh.Occupant() != w.Occupant() || fresh.Until() != w.Until() || at != w.Occupant() || until != w.Until() {
					t.Fatalf("%s %v: at %d: %d until %d; at once %d until %d; by the table %d until %d", m.what, m.table, to, w.Occupant(), w.Until(), fresh.Occupant(), fresh.Until(), at, until)
				}
			}
		}
	})
}

// spoil writes over a list, its spare room too.
func spoil(list []api.Slot) {
	list = list[:cap(list)]
	for i := range list {
		list[i] = api.Slot{Length: -7, Part: 99}
	}
}

// roomy is a table whose parts are pieces of one list, with spare room that the others' slots or marks lie in.
func roomy(x api.Table) (api.Table, []api.Slot) {
	mark := api.Slot{Length: 4, Part: 31}
	room := slices.Concat(x.Prologue, []api.Slot{mark}, x.Cycle, []api.Slot{mark, mark})
	from := len(x.Prologue) + 1
	return table(room[:len(x.Prologue)], room[from:from+len(x.Cycle)]), room
}

func TestRulesArgumentsAreLeftAsTheyAre(t *testing.T) {
	all := badTables()
	for what, x := range tables() {
		all[what] = x
	}
	for what, x := range all {
		if len(x.Prologue) > 1000 {
			continue
		}
		given, room := roomy(x)
		before := slices.Clone(room)
		slots.Valid(given)
		slots.At(given, 5)
		slots.Until(given, end-1)
		b, _ := slots.Encode(given)
		if w, err := slots.Walk(given); err == api.OK {
			w.Advance(3)
			w.Advance(end - 1)
		}
		clear(b[:cap(b)])
		if !slices.Equal(room, before) || !equal(given, x) {
			t.Errorf("%s: changed to %v", what, room)
		}
	}
	for what, list := range families() {
		room := append(slices.Clone(list), server(3, 2, 1, 77), server(-1, top, bottom, 5))
		before := slices.Clone(room)
		x := made(t, room[:len(list)])
		spoil(x.Prologue)
		spoil(x.Cycle)
		if !slices.Equal(room, before) {
			t.Errorf("%s: changed to %v", what, room)
		}
	}
}

func TestRulesBytesAreLeftAsTheyAre(t *testing.T) {
	for what, x := range tables() {
		b := append(encoded(t, x), 1, 2, 3, 4, 5)
		before := slices.Clone(b)
		y, err := slots.Decode(b[:len(b)-5])
		if err != api.OK {
			t.Fatalf("%s: %d", what, err)
		}
		slots.Decode(b)
		if !slices.Equal(b, before) {
			t.Errorf("%s: changed to %x", what, b)
		}
		clear(b)
		if !equal(y, x) {
			t.Errorf("%s: what was read hangs on the bytes", what)
		}
	}
}

// Walk keeps nothing: the table may be written over, its spare room too.
func TestP13_6_WalkKeepsNothing(t *testing.T) {
	forAll(t, 60, func(m reading) {
		for _, from := range []int{0, 1, m.hyper + 1, end - m.hyper - 1} {
			given, room := roomy(m.table)
			w := walk(t, given)
			advance(t, w, from, api.OK)
			spoil(room)
			for _, to := range []int{from, from + 1, from + m.hyper, 4*m.hyper + 2, 1 << 33, end - 1} {
				advance(t, w, min(end-1, max(to, w.Now())), api.OK)
				m.agrees(t, w, w.Now())
			}
		}
	})
}

func TestP13_6_WalkersDoNotKnowOfOneAnother(t *testing.T) {
	forAll(t, 60, func(m reading) {
		a, b := walk(t, m.table), walk(t, m.table)
		for step := range 3 * m.hyper {
			advance(t, a, 3*step, api.OK)
			m.agrees(t, a, 3*step)
			m.agrees(t, b, step)
			advance(t, b, step+1, api.OK)
		}
		advance(t, a, end-1, api.OK)
		m.agrees(t, b, 3*m.hyper)
	})
}

// apart wants the parts of an answer to be lists of their own: growing or writing one over leaves the other as it is.
func apart(t *testing.T, what string, answer func() api.Table) {
	t.Helper()
	want := answer()
	want = table(slices.Clone(want.Prologue), slices.Clone(want.Cycle))
	grown := answer()
	for range 3 {
		spoil(append(grown.Prologue, api.Slot{Length: 5, Part: 9}))
		spoil(append(grown.Cycle, api.Slot{Length: 5, Part: 9})[len(grown.Cycle):])
	}
	if cap(grown.Prologue) > len(grown.Prologue) || cap(grown.Cycle) > len(grown.Cycle) {
		t.Errorf("%s: spare room: %d of %d, %d of %d", what, len(grown.Prologue), cap(grown.Prologue), len(grown.Cycle), cap(grown.Cycle))
	}
	if !equal(grown, want) {
		t.Errorf("%s: grown: %v, want %v", what, grown, want)
	}
	spoilt := answer()
	spoil(spoilt.Prologue)
	if !slices.Equal(spoilt.Cycle, want.Cycle) {
		t.Errorf("%s: the cycle has changed with the prologue", what)
	}
	spoil(spoilt.Cycle)
	if !equal(answer(), want) {
		t.Errorf("%s: a later answer has changed", what)
	}
}

func TestRulesAnswersAreNewMemory(t *testing.T) {
	forAllServers(40, func(what string, list []api.Server) {
		apart(t, what, func() api.Table { return made(t, list) })
	})
	apart(t, "most slots", func() api.Table {
		return made(t, []api.Server{server(32, 1, 1, 9), server(32*32767, 1, 5, 1)})
	})
	for what, x := range tables() {
		b := encoded(t, x)
		apart(t, what, func() api.Table {
			y, _ := slots.Decode(b)
			return y
		})
		kept := slices.Clone(b)
		other := encoded(t, x)
		clear(other[:cap(other)])
		if !slices.Equal(b, kept) {
			t.Errorf("%s: two answers of Encode share memory", what)
		}
	}
}

// nil and an empty list are the same; the parts may be one list.
func TestRulesEmptyAndShared(t *testing.T) {
	if !equal(made(t, nil), made(t, []api.Server{})) {
		t.Error("nil and an empty list of servers")
	}
	for _, x := range []api.Table{{}, table([]api.Slot{}, nil), table(nil, []api.Slot{}), table([]api.Slot{}, []api.Slot{})} {
		if err := slots.Valid(x); err != api.ErrForm {
			t.Errorf("%v: %d", x, err)
		}
	}
	one := part(2, 1, 3, 2)
	x := table(one, one)
	b := encoded(t, x)
	taken(t, "one list", b, x)
	apart(t, "one list", func() api.Table {
		y, _ := slots.Decode(b)
		return y
	})
}

// What Walk did not answer is left free by the chapter, but for that no call panics and each ends.
func TestRulesNoWalkerPanics(t *testing.T) {
	for _, w := range []*slots.Walker{nil, {}} {
		w.Now()
		w.Occupant()
		w.Until()
		if err := w.Advance(3); err != api.ErrArg {
			t.Errorf("Advance: %d", err)
		}
	}
}
