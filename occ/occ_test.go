package occ_test

import (
	"math"
	"math/rand/v2"
	"slices"
	"testing"

	"bulkhead/api"
	"bulkhead/check"
	"bulkhead/occ"
)

const (
	top    = math.MaxInt
	bottom = math.MinInt
	end    = api.MaxTick
)

func server(period, budget, offset, priority int) api.Server {
	return api.Server{Period: period, Budget: budget, Offset: offset, Priority: priority}
}

// chapter is the chapter's A and B.
func chapter() []api.Server { return []api.Server{server(5, 2, 4, 9), server(10, 6, 0, 1)} }

// late is the chapter's servers whose rests come again later than their occupants.
func late() []api.Server { return []api.Server{server(7, 7, 1, 3), server(7, 7, 4, 8)} }

// slots are slots of partition and length, one after the other.
func slots(pairs ...int) []api.Slot {
	var list []api.Slot
	for i := 0; i < len(pairs); i += 2 {
		list = append(list, api.Slot{Part: pairs[i], Length: pairs[i+1]})
	}
	return list
}

// many is as many servers as there may be; the greatest priority stands in the middle.
func many() []api.Server {
	periods := []int{8, 12, 6, 24, 48, 16}
	var list []api.Server
	for i := range api.MaxParts {
		period := periods[i%len(periods)]
		list = append(list, server(period, 1+i%2, i*5%period, (i*7+100)%32*8+7))
	}
	return list
}

// families are servers of many kinds, each with a name.
func families() map[string][]api.Server {
	return map[string][]api.Server{
		"none":                       nil,
		"one":                        {server(3, 1, 0, 0)},
		"one of one tick":            {server(1, 1, 0, 255)},
		"one full":                   {server(6, 6, 0, 7)},
		"one full, from its offset":  {server(6, 6, 5, 7)},
		"one over the end of H":      {server(6, 4, 4, 7)},
		"the chapter's":              chapter(),
		"late":                       late(),
		"too much asked":             {server(5, 5, 4, 9), server(10, 6, 0, 1)},
		"too much, never a tick":     {server(4, 1, 0, 1), server(2, 2, 0, 3), server(8, 8, 0, 2)},
		"only ahead of the others":   {server(10, 10, 9, 9), server(10, 10, 0, 1)},
		"only in the first H":        {server(6, 6, 0, 1), server(3, 3, 2, 2)},
		"greatest first":             {server(4, 1, 1, 200), server(6, 2, 0, 100), server(3, 1, 2, 0)},
		"greatest in the middle":     {server(4, 1, 1, 100), server(6, 2, 0, 200), server(3, 1, 2, 0)},
		"greatest last":              {server(4, 1, 1, 100), server(6, 2, 0, 0), server(3, 1, 2, 200)},
		"lost at a release":          {server(2, 1, 0, 9), server(6, 5, 1, 4), server(3, 2, 0, 6)},
		"one of period 1 below":      {server(9, 2, 3, 5), server(1, 1, 0, 1)},
		"one of period 1 above":      {server(9, 2, 3, 1), server(1, 1, 0, 5)},
		"unlike at the end of H":     {server(4, 2, 0, 2), server(4, 2, 2, 1)},
		"alike at the end of H":      {server(4, 3, 3, 2), server(4, 1, 1, 1)},
		"nobody at the end of H":     {server(8, 2, 3, 2), server(8, 1, 1, 1)},
		"as many as there may be":    many(),
		"a chain that is moved back": {server(12, 12, 11, 5), server(6, 4, 3, 4), server(4, 1, 2, 3), server(3, 2, 1, 2)},
	}
}

// chance is servers by chance whose hyperperiod is at most as great as most.
func chance(r *rand.Rand, most int) []api.Server {
	for {
		var list []api.Server
		priorities := r.Perm(256)
		for i := range 1 + r.IntN(6) {
			period := 1 + r.IntN(12)
			list = append(list, server(period, 1+r.IntN(period), r.IntN(period), priorities[i]))
		}
		if hyper, err := check.Hyper(list); err == api.OK && hyper <= most {
			return list
		}
	}
}

// forAll does something with every family and with servers by chance.
func forAll(t *testing.T, times int, do func(t *testing.T, what string, list []api.Server)) {
	t.Helper()
	for what, list := range families() {
		do(t, what, list)
	}
	r := rand.New(rand.NewPCG(11, 7))
	for range times {
		do(t, "by chance", chance(r, 60))
	}
}

// reading is a second reading of the rule: tick by tick through three hyperperiods, the releases first, then the tick.
type reading struct {
	list      []api.Server
	hyper     int
	occupants []int
	rests     [][]int
}

func read(t *testing.T, list []api.Server) reading {
	t.Helper()
	hyper, err := check.Hyper(list)
	if err != api.OK {
		t.Fatalf("%v may not be: %d", list, err)
	}
	m := reading{list: list, hyper: hyper}
	rests := make([]int, len(list))
	for tick := range 3*hyper + 1 {
		chosen := 0
		for i, s := range list {
			if tick%s.Period == s.Offset {
				rests[i] = s.Budget
			}
			if rests[i] > 0 && (chosen == 0 || s.Priority > list[chosen-1].Priority) {
				chosen = i + 1
			}
		}
		m.occupants = append(m.occupants, chosen)
		m.rests = append(m.rests, slices.Clone(rests))
		if chosen > 0 {
			rests[chosen-1]--
		}
	}
	// Releases hang on the tick's place in H alone: as the rests are the same at 2 H and 3 H, all is the same from there on.
	if !slices.Equal(m.rests[2*hyper], m.rests[3*hyper]) {
		t.Fatalf("%v: the rests at 2 H are %v, at 3 H %v", list, m.rests[2*hyper], m.rests[3*hyper])
	}
	return m
}

func (m reading) place(tick int) int {
	if tick < 3*m.hyper {
		return tick
	}
	return 2*m.hyper + tick%m.hyper
}

func (m reading) at(tick int) int { return m.occupants[m.place(tick)] }

func (m reading) runs(from, below int) []api.Slot {
	var list []api.Slot
	for tick := from; tick < below; tick++ {
		part := m.at(tick)
		if tick == from || m.at(tick-1) != part {
			list = append(list, api.Slot{Part: part})
		}
		list[len(list)-1].Length++
	}
	return list
}

func (m reading) supply(part, from, below int) int {
	ticks := 0
	for tick := from; tick < below; tick++ {
		if m.at(tick) == part {
			ticks++
		}
	}
	return ticks
}

func (m reading) next(part, from int) int {
	for tick := from; tick < min(end, from+3*m.hyper); tick++ {
		if m.at(tick) == part {
			return tick
		}
	}
	return api.Never
}

// ticks are those by which servers are asked: all near ones, if they are few, and far ones of many places in H.
func ticks(hyper int) []int {
	list := []int{0, hyper - 1, hyper, hyper + 1, 2*hyper - 1, 2 * hyper, 2*hyper + 1, 3*hyper - 1, 3 * hyper, 4*hyper + hyper/2, 1<<39 + 5, end - 1, end - 2, end - hyper, end - 2*hyper}
	for tick := range min(3*hyper, 200) {
		list = append(list, tick, 7*hyper+tick, end-1-tick)
	}
	return list
}

func TestExamples(t *testing.T) {
	two := chapter()
	if got, err := occ.Runs(two, 0, 20); err != api.OK || !slices.Equal(got, slots(2, 4, 1, 2, 2, 2, 0, 1, 1, 2, 2, 3, 1, 2, 2, 3, 1, 1)) {
		t.Errorf("Runs(0, 20) = %v, %d", got, err)
	}
	for _, c := range [][2]int{{8, 0}, {18, 2}, {28, 2}} {
		if got, err := occ.At(two, c[0]); got != c[1] || err != api.OK {
			t.Errorf("At(%d) = %d, %d, want %d", c[0], got, err, c[1])
		}
	}
	for _, c := range [][4]int{{2, 0, 10, 6}, {2, 10, 20, 6}, {1, 0, 10, 3}} {
		if got, err := occ.Supply(two, c[0], c[1], c[2]); got != c[3] || err != api.OK {
			t.Errorf("Supply(%v) = %d, %d", c, got, err)
		}
	}
	for tick, want := range map[int][]int{0: {0, 6}, 4: {2, 2}, 9: {2, 0}, 10: {1, 6}} {
		if got, err := occ.Rests(two, tick); !slices.Equal(got, want) || err != api.OK {
			t.Errorf("Rests(%d) = %v, %d, want %v", tick, got, err, want)
		}
	}
	for _, c := range [][3]int{{1, 0, 4}, {1, 6, 9}, {2, 8, 11}, {2, end, api.Never}} {
		if got, err := occ.NextOf(two, c[0], c[1]); got != c[2] || err != api.OK {
			t.Errorf("NextOf(%v) = %d, %d", c, got, err)
		}
	}
}

func TestExamplesOfNoServersAndOfErrors(t *testing.T) {
	if got, err := occ.At(nil, 5); got != 0 || err != api.OK {
		t.Errorf("of none At(5) = %d, %d", got, err)
	}
	if got, err := occ.Runs(nil, 0, 7); !slices.Equal(got, slots(0, 7)) || err != api.OK {
		t.Errorf("of none Runs(0, 7) = %v, %d", got, err)
	}
	if got, err := occ.Runs(nil, 3, 3); len(got) != 0 || err != api.OK {
		t.Errorf("of none Runs(3, 3) = %v, %d", got, err)
	}
	two := chapter()
	_, e1 := occ.At(two, -1)
	_, e2 := occ.At(two, end)
	_, e3 := occ.Runs(two, 5, 4)
	_, e4 := occ.Supply(two, 3, 0, 1)
	_, e5 := occ.NextOf(two, 1, -1)
	_, e6 := occ.At([]api.Server{server(5, 0, 4, 9)}, 0)
	_, e7 := occ.At([]api.Server{server(1<<20, 2, 4, 9), server(3, 1, 0, 1)}, 0)
	want := []api.Errno{api.ErrArg, api.ErrArg, api.ErrArg, api.ErrPart, api.ErrArg, api.ErrServer, api.ErrHyper}
	if got := []api.Errno{e1, e2, e3, e4, e5, e6, e7}; !slices.Equal(got, want) {
		t.Errorf("errors %v, want %v", got, want)
	}
}

// refused asks every call with the same arguments and wants of each that error and nothing else.
func refused(t *testing.T, what string, list []api.Server, want api.Errno, part, from, below int) {
	t.Helper()
	if got, err := occ.At(list, from); got != 0 || err != want {
		t.Errorf("%s: At(%d) = %d, %d, want %d", what, from, got, err, want)
	}
	if got, err := occ.Runs(list, from, below); len(got) != 0 || err != want {
		t.Errorf("%s: Runs(%d, %d) = %v, %d, want %d", what, from, below, got, err, want)
	}
	if got, err := occ.Supply(list, part, from, below); got != 0 || err != want {
		t.Errorf("%s: Supply(%d, %d, %d) = %d, %d, want %d", what, part, from, below, got, err, want)
	}
	if got, err := occ.Rests(list, from); len(got) != 0 || err != want {
		t.Errorf("%s: Rests(%d) = %v, %d, want %d", what, from, got, err, want)
	}
	if got, err := occ.NextOf(list, part, from); got != 0 || err != want {
		t.Errorf("%s: NextOf(%d, %d) = %d, %d, want %d", what, part, from, got, err, want)
	}
}

func TestP11_1_ServersErrorFirst(t *testing.T) {
	good := server(10, 2, 1, 5)
	tooMany := make([]api.Server, api.MaxParts+1)
	for i := range tooMany {
		tooMany[i] = server(10, 1, 0, i)
	}
	for what, c := range map[string]struct {
		list []api.Server
		err  api.Errno
	}{
		"one too many":             {tooMany, api.ErrCount},
		"too many, and period 0":   {append(slices.Clone(tooMany), api.Server{}), api.ErrCount},
		"period 0":                 {[]api.Server{server(0, 1, 0, 1)}, api.ErrServer},
		"period the least":         {[]api.Server{good, server(bottom, 1, 0, 1)}, api.ErrServer},
		"period too great":         {[]api.Server{server(api.MaxPeriod+1, 1, 0, 1), good}, api.ErrServer},
		"period the greatest":      {[]api.Server{server(top, 1, 0, 1)}, api.ErrServer},
		"budget 0":                 {[]api.Server{good, server(10, 0, 0, 1)}, api.ErrServer},
		"budget above the period":  {[]api.Server{good, server(10, 11, 0, 1)}, api.ErrServer},
		"budget the least":         {[]api.Server{server(10, bottom, 0, 1)}, api.ErrServer},
		"budget the greatest":      {[]api.Server{server(10, top, 0, 1)}, api.ErrServer},
		"offset -1":                {[]api.Server{server(10, 1, -1, 1)}, api.ErrServer},
		"offset the period":        {[]api.Server{server(10, 1, 10, 1)}, api.ErrServer},
		"offset the greatest":      {[]api.Server{server(10, 1, top, 1)}, api.ErrServer},
		"priority -1":              {[]api.Server{server(10, 1, 0, -1)}, api.ErrServer},
		"priority too great":       {[]api.Server{server(10, 1, 0, api.MaxPriority+1)}, api.ErrServer},
		"priority twice":           {[]api.Server{good, server(3, 1, 0, 4), good}, api.ErrServer},
		"hyperperiod":              {[]api.Server{server(1<<20, 2, 4, 9), server(3, 1, 0, 1)}, api.ErrHyper},
		"hyperperiod of many":      {[]api.Server{server(1048573, 1, 0, 1), server(1048571, 1, 0, 2), server(1048559, 1, 0, 3), server(1048549, 1, 0, 4)}, api.ErrHyper},
		"table":                    {[]api.Server{server(1<<20, 2, 4, 9), server(1, 1, 0, 1)}, api.ErrTable},
		"table, one step too many": {[]api.Server{server(32768, 1, 0, 1), server(1, 1, 0, 2)}, api.ErrTable},
	} {
		refused(t, what, c.list, c.err, 1, 0, 1)
		for _, part := range []int{bottom, -1, 0, 1, 99, top} {
			for _, from := range []int{bottom, -1, 5, end, end + 1, top} {
				refused(t, what, c.list, c.err, part, from, from-1)
				refused(t, what, c.list, c.err, part, from, 4)
			}
		}
	}
	if got, err := occ.At([]api.Server{server(32767, 1, 0, 1), server(1, 1, 0, 2)}, end-1); got != 2 || err != api.OK {
		t.Errorf("just as many releases as there may be: %d, %d", got, err)
	}
}

func TestP11_1_SpansAndPartitions(t *testing.T) {
	numbers := []int{bottom, bottom + 1, -end, -1, 0, 1, 9, 10, 20, end - 1, end, end + 1, 1 << 41, top - 1, top}
	for what, list := range map[string][]api.Server{"two": chapter(), "none": nil, "one": {server(1, 1, 0, 0)}} {
		for _, from := range numbers {
			for _, below := range numbers {
				wantSpan(t, what, list, from, below)
			}
			for _, part := range []int{bottom, -1, 0, len(list) + 1, end, top} {
				if got, err := occ.NextOf(list, part, from); got != 0 || err != api.ErrPart {
					t.Errorf("%s: NextOf(%d, %d) = %d, %d", what, part, from, got, err)
				}
			}
		}
	}
}

// wantSpan wants a span to be taken or refused, by Runs and by Supply of partitions that are there and of others.
func wantSpan(t *testing.T, what string, list []api.Server, from, below int) {
	t.Helper()
	want := api.ErrArg
	if from >= 0 && below >= from && end >= below {
		want = api.OK
	}
	got, err := occ.Runs(list, from, below)
	// The chapter's servers have too many slots in most of these spans; of the others a span is one slot.
	if want == api.OK && len(list) == 2 && below-from > 1000 {
		if len(got) != 0 || err != api.ErrLong {
			t.Errorf("%s: Runs(%d, %d): %d slots, %d", what, from, below, len(got), err)
		}
	} else if err != want || err != api.OK && len(got) != 0 {
		t.Errorf("%s: Runs(%d, %d): %d slots, %d, want %d", what, from, below, len(got), err, want)
	}
	for part := range list {
		if ticks, err := occ.Supply(list, part+1, from, below); err != want || err != api.OK && ticks != 0 {
			t.Errorf("%s: Supply(%d, %d, %d) = %d, %d, want %d", what, part+1, from, below, ticks, err, want)
		}
	}
	for _, part := range []int{bottom, -1, 0, len(list) + 1, end, top} {
		if ticks, err := occ.Supply(list, part, from, below); ticks != 0 || err != api.ErrPart {
			t.Errorf("%s: Supply(%d, %d, %d) = %d, %d", what, part, from, below, ticks, err)
		}
	}
}

func TestP11_2_At(t *testing.T) {
	forAll(t, 300, func(t *testing.T, what string, list []api.Server) {
		m := read(t, list)
		for _, tick := range ticks(m.hyper) {
			if got, err := occ.At(list, tick); got != m.at(tick) || err != api.OK {
				t.Fatalf("%s %v: At(%d) = %d, %d, want %d", what, list, tick, got, err, m.at(tick))
			}
		}
	})
}

func TestP11_2_AtOfNoTick(t *testing.T) {
	for what, list := range families() {
		for _, tick := range []int{bottom, bottom + 1, -end, -1, end, end + 1, 2 * end, top - 1, top} {
			if got, err := occ.At(list, tick); got != 0 || err != api.ErrArg {
				t.Errorf("%s: At(%d) = %d, %d", what, tick, got, err)
			}
		}
	}
}

func TestP11_2_AtOfGreatNumbers(t *testing.T) {
	// Up to the offset nobody, then Budget ticks of every Period.
	list := []api.Server{server(1<<20, 1<<19, 1<<20-1, 0)}
	for tick, want := range map[int]int{0: 0, 1<<20 - 2: 0, 1<<20 - 1: 1, 1<<20 + 1<<19 - 2: 1, 1<<20 + 1<<19 - 1: 0, 1<<21 - 2: 0, 1<<21 - 1: 1, end - 2: 0, end - 1: 1, end - 1<<20 + 1<<19 - 2: 1, end - 1<<20 + 1<<19 - 1: 0} {
		if got, err := occ.At(list, tick); got != want || err != api.OK {
			t.Errorf("At(%d) = %d, %d, want %d", tick, got, err, want)
		}
	}
}

func TestP11_3_Runs(t *testing.T) {
	forAll(t, 60, func(t *testing.T, what string, list []api.Server) {
		m := read(t, list)
		h := m.hyper
		starts := []int{0, 1, h - 1, h, h + 1, 2*h - 1, 2 * h, 2*h + 1, 5*h - 2, 1<<39 + 3, end - 3*h, end - h, end - 1, end}
		for _, from := range starts {
			for _, length := range []int{0, 1, 2, 3, h / 2, h - 1, h, h + 1, 2*h - 1, 2 * h, 2*h + 1, 5*h + 2} {
				wantRuns(t, what, m, max(0, from), length)
			}
		}
		for from := range min(2*h+2, 30) {
			for length := range min(2*h+2, 30) {
				wantRuns(t, what, m, from, length)
			}
		}
	})
}

func wantRuns(t *testing.T, what string, m reading, from, length int) {
	t.Helper()
	below := min(end, from+length)
	got, err := occ.Runs(m.list, from, below)
	if want := m.runs(from, below); err != api.OK || !slices.Equal(got, want) {
		t.Fatalf("%s %v: Runs(%d, %d) = %v, %d, want %v", what, m.list, from, below, got, err, want)
	}
}

func TestP11_3_RunsThatNeverChange(t *testing.T) {
	full := []api.Server{server(6, 6, 0, 7)}
	for _, c := range []struct {
		list        []api.Server
		from, below int
		want        []api.Slot
	}{
		{nil, 0, end, slots(0, end)},
		{nil, end - 1, end, slots(0, 1)},
		{nil, end, end, nil},
		{[]api.Server{server(1, 1, 0, 0)}, 0, end, slots(1, end)},
		{[]api.Server{server(1, 1, 0, 0)}, 5, end - 2, slots(1, end-7)},
		{full, 0, end, slots(1, end)},
		{full, 1, 13, slots(1, 12)},
		{[]api.Server{server(6, 6, 4, 7)}, 0, end, slots(0, 4, 1, end-4)},
		{[]api.Server{server(10, 10, 9, 9), server(10, 10, 0, 1)}, 0, end, slots(2, 9, 1, end-9)},
		{[]api.Server{server(10, 10, 9, 9), server(10, 10, 0, 1)}, 3, 25, slots(2, 6, 1, 16)},
		{[]api.Server{server(10, 10, 9, 9), server(10, 10, 0, 1)}, 9, end, slots(1, end-9)},
		{[]api.Server{server(10, 10, 9, 9), server(10, 10, 0, 1)}, 20, 20, nil},
		{[]api.Server{server(32767, 3, 3, 1), server(1, 1, 0, 3)}, 7, end, slots(2, end-7)},
	} {
		if got, err := occ.Runs(c.list, c.from, c.below); err != api.OK || !slices.Equal(got, c.want) {
			t.Errorf("%v: Runs(%d, %d) = %v, %d, want %v", c.list, c.from, c.below, got, err, c.want)
		}
	}
}

func TestP11_3_RunsJustMaxRuns(t *testing.T) {
	half := []api.Server{server(2, 1, 0, 1)}
	for _, from := range []int{0, 1, 2, 1001, 1 << 39, end - api.MaxRuns} {
		got, err := occ.Runs(half, from, from+api.MaxRuns)
		if len(got) != api.MaxRuns || err != api.OK {
			t.Errorf("from %d the most slots: %d, %d", from, len(got), err)
		}
		for i, s := range got {
			if want := (api.Slot{Length: 1, Part: (from + i + 1) % 2}); s != want {
				t.Fatalf("from %d: the slot %d is %v, want %v", from, i, s, want)
			}
		}
		if got, err := occ.Runs(half, from, min(end, from+api.MaxRuns+1)); from+api.MaxRuns < end && (len(got) != 0 || err != api.ErrLong) {
			t.Errorf("from %d one more: %d, %d", from, len(got), err)
		}
	}
	for _, from := range []int{0, 3, end / 2, end - api.MaxRuns - 1} {
		if got, err := occ.Runs(half, from, end); len(got) != 0 || err != api.ErrLong {
			t.Errorf("from %d to the end: %d, %d", from, len(got), err)
		}
	}
}

// The last slot may grow as long as no other occupant comes: slots are counted, not ticks.
func TestP11_3_RunsLastSlotGrows(t *testing.T) {
	list := []api.Server{server(20, 7, 5, 1)}
	// Nobody's 5 ticks, then 7 and 13 again and again: the slot MaxRuns is the last partition's.
	below := 5 + (api.MaxRuns/2-1)*20 + 7
	for grown := range 14 {
		if got, err := occ.Runs(list, 0, below-7+grown); err != wantLong(grown > 7) || err == api.OK && len(got) != api.MaxRuns-oneIf(grown == 0) {
			t.Errorf("%d ticks into the last slot: %d slots, %d", grown, len(got), err)
		}
	}
}

func oneIf(is bool) int {
	if is {
		return 1
	}
	return 0
}

func wantLong(is bool) api.Errno {
	if is {
		return api.ErrLong
	}
	return api.OK
}

// Just MaxRuns slots and one more, where they all lie in the first two hyperperiods.
func TestP11_3_RunsMaxRunsWithinTwoHyperperiods(t *testing.T) {
	list := []api.Server{server(1<<16, 1<<15-3, 7, 1), server(8, 1, 2, 8), server(8, 1, 4, 9), server(8, 1, 6, 5)}
	m := read(t, list)
	below := 0
	for number := 0; number <= api.MaxRuns; below++ {
		number += oneIf(below == 0 || m.at(below) != m.at(below-1))
	}
	if below <= m.hyper || below >= 2*m.hyper {
		t.Fatalf("the first tick of the slot too many is %d, H is %d", below-1, m.hyper)
	}
	if got, err := occ.Runs(list, 0, below-1); err != api.OK || !slices.Equal(got, m.runs(0, below-1)) {
		t.Errorf("the most slots: %d, %d", len(got), err)
	}
	for _, to := range []int{below, below + 1, 2 * m.hyper, 2*m.hyper + 1, end} {
		if got, err := occ.Runs(list, 0, to); len(got) != 0 || err != api.ErrLong {
			t.Errorf("Runs(0, %d): %d slots, %d", to, len(got), err)
		}
	}
}

// A turn of few slots made of many releases, gone through many thousand times.
func TestP11_3_RunsOfManyTurns(t *testing.T) {
	list := []api.Server{server(32767, 100, 40, 9), server(1, 1, 0, 1)}
	turns := 30000
	got, err := occ.Runs(list, 5, 5+turns*32767)
	if len(got) != 2*turns+1 || err != api.OK {
		t.Fatalf("%d slots, %d", len(got), err)
	}
	want := []api.Slot{{Length: 35, Part: 2}}
	for range turns {
		want = append(want, api.Slot{Length: 100, Part: 1}, api.Slot{Length: 32667, Part: 2})
	}
	want[len(want)-1].Length -= 35
	if !slices.Equal(got, want) {
		t.Error("other slots than 100 and 32667 in turn")
	}
}

func TestP11_3_NeighboursUnlike(t *testing.T) {
	forAll(t, 100, func(t *testing.T, what string, list []api.Server) {
		m := read(t, list)
		for _, from := range []int{0, 1, m.hyper, end - 7*m.hyper} {
			got, err := occ.Runs(list, from, from+7*m.hyper)
			sum := 0
			for i, s := range got {
				sum += s.Length
				if s.Length < 1 || i > 0 && s.Part == got[i-1].Part {
					t.Fatalf("%s %v: from %d: %v", what, list, from, got)
				}
			}
			if sum != 7*m.hyper && from+7*m.hyper <= end || err != wantSpanErr(from+7*m.hyper) {
				t.Fatalf("%s %v: from %d: %d ticks of %d, %d", what, list, from, sum, 7*m.hyper, err)
			}
		}
	})
}

func wantSpanErr(below int) api.Errno {
	if below > end {
		return api.ErrArg
	}
	return api.OK
}

func TestP11_4_Supply(t *testing.T) {
	forAll(t, 60, func(t *testing.T, what string, list []api.Server) {
		m := read(t, list)
		h := m.hyper
		marks := []int{0, 1, h / 2, h - 1, h, h + 1, 2*h - 1, 2 * h, 2*h + 1, 3*h - 1, 3 * h, 4*h + h/3}
		for part := 1; part <= len(list); part++ {
			for _, from := range marks {
				for _, below := range marks {
					if from <= below {
						wantSupply(t, what, m, part, from, below)
					}
				}
			}
			for _, length := range []int{0, 1, h, 2*h + 1} {
				wantSupply(t, what, m, part, end-length, end)
			}
		}
	})
}

func wantSupply(t *testing.T, what string, m reading, part, from, below int) {
	t.Helper()
	got, err := occ.Supply(m.list, part, from, below)
	if want := m.supply(part, from, below); got != want || err != api.OK {
		t.Fatalf("%s %v: Supply(%d, %d, %d) = %d, %d, want %d", what, m.list, part, from, below, got, err, want)
	}
}

// Far spans are a near beginning, whole hyperperiods, and a near end of the same place in H.
func TestP11_4_SupplyOfFarSpans(t *testing.T) {
	forAll(t, 100, func(t *testing.T, what string, list []api.Server) {
		m := read(t, list)
		h := m.hyper
		for part := 1; part <= len(list); part++ {
			turn := m.supply(part, h, 2*h)
			for _, from := range []int{0, 1, h - 1, h, 2*h - 1, 2 * h} {
				for _, length := range []int{0, 1, h - 1, h, h + 1} {
					whole := (end - 4*h) / h
					want := m.supply(part, from, from+h) + (whole-1)*turn + m.supply(part, from+h, from+h+length)
					if got, err := occ.Supply(list, part, from, from+whole*h+length); got != want || err != api.OK {
						t.Fatalf("%s %v: Supply(%d, %d, ..) = %d, %d, want %d", what, list, part, from, got, err, want)
					}
				}
			}
			want := m.supply(part, 0, h) + (end/h-1)*turn + m.supply(part, h, h+end%h)
			if got, err := occ.Supply(list, part, 0, end); got != want || err != api.OK {
				t.Fatalf("%s %v: Supply(%d) of all ticks = %d, %d, want %d", what, list, part, got, err, want)
			}
		}
	})
}

func TestP11_5_Rests(t *testing.T) {
	forAll(t, 300, func(t *testing.T, what string, list []api.Server) {
		m := read(t, list)
		for _, tick := range ticks(m.hyper) {
			want := m.rests[m.place(tick)]
			if got, err := occ.Rests(list, tick); !slices.Equal(got, want) || err != api.OK {
				t.Fatalf("%s %v: Rests(%d) = %v, %d, want %v", what, list, tick, got, err, want)
			}
		}
	})
}

func TestP11_5_RestsOfNoTick(t *testing.T) {
	for what, list := range families() {
		for _, tick := range []int{bottom, bottom + 1, -end, -1, end, end + 1, 2 * end, top - 1, top} {
			if got, err := occ.Rests(list, tick); len(got) != 0 || err != api.ErrArg {
				t.Errorf("%s: Rests(%d) = %v, %d", what, tick, got, err)
			}
		}
	}
	if got, err := occ.Rests(nil, 3); len(got) != 0 || err != api.OK {
		t.Errorf("of no servers: %v, %d", got, err)
	}
}

// What is left at a release is lost: the rest is the Budget there, not more.
func TestP11_5_RestsLoseWhatIsLeft(t *testing.T) {
	list := []api.Server{server(4, 3, 0, 2), server(4, 3, 1, 1)}
	for tick, want := range map[int][]int{0: {3, 0}, 1: {2, 3}, 3: {0, 3}, 4: {3, 2}, 5: {2, 3}, 8: {3, 2}, 9: {2, 3}, end - 1: {0, 3}, end - 4: {3, 2}} {
		if got, err := occ.Rests(list, tick); !slices.Equal(got, want) || err != api.OK {
			t.Errorf("Rests(%d) = %v, %d, want %v", tick, got, err, want)
		}
	}
}

func TestP11_6_NextOf(t *testing.T) {
	forAll(t, 150, func(t *testing.T, what string, list []api.Server) {
		m := read(t, list)
		for part := 1; part <= len(list); part++ {
			for _, from := range append(ticks(min(m.hyper, 30)), ticks(m.hyper)[:15]...) {
				if got, err := occ.NextOf(list, part, from); got != m.next(part, from) || err != api.OK {
					t.Fatalf("%s %v: NextOf(%d, %d) = %d, %d, want %d", what, list, part, from, got, err, m.next(part, from))
				}
			}
			if got, err := occ.NextOf(list, part, end); got != api.Never || err != api.OK {
				t.Fatalf("%s: NextOf(%d, MaxTick) = %d, %d", what, part, got, err)
			}
		}
	})
}

func TestP11_6_NextOfNever(t *testing.T) {
	for _, c := range []struct {
		what             string
		list             []api.Server
		part, from, want int
	}{
		{"never a tick", []api.Server{server(5, 5, 4, 9), server(10, 6, 0, 1)}, 2, 4, api.Never},
		{"but ahead of that", []api.Server{server(5, 5, 4, 9), server(10, 6, 0, 1)}, 2, 3, 3},
		{"none at all", []api.Server{server(4, 1, 0, 1), server(2, 2, 0, 3)}, 1, 0, api.Never},
		{"in the first H alone", []api.Server{server(10, 10, 9, 9), server(10, 10, 0, 1)}, 2, 8, 8},
		{"no more behind it", []api.Server{server(10, 10, 9, 9), server(10, 10, 0, 1)}, 2, 9, api.Never},
		{"nor far away", []api.Server{server(10, 10, 9, 9), server(10, 10, 0, 1)}, 2, end - 1, api.Never},
		{"the first tick of the next turn", []api.Server{server(1<<20, 1, 0, 0)}, 1, 1, 1 << 20},
		{"from the last turn's first tick", []api.Server{server(1<<20, 1, 0, 0)}, 1, end - 1<<20, end - 1<<20},
		{"behind it", []api.Server{server(1<<20, 1, 0, 0)}, 1, end - 1<<20 + 1, api.Never},
		{"the last tick", []api.Server{server(1<<20, 1, 1<<20-1, 0)}, 1, end - 5, end - 1},
		{"at the last tick", []api.Server{server(1<<20, 1, 1<<20-1, 0)}, 1, end - 1, end - 1},
		{"at the end", []api.Server{server(1<<20, 1, 1<<20-1, 0)}, 1, end, api.Never},
		{"a whole turn away", []api.Server{server(1<<20, 1, 1<<20-1, 0)}, 1, 1 << 20, 1<<21 - 1},
		{"far, a whole turn away", []api.Server{server(1<<20, 1, 5, 0)}, 1, 1<<39 + 6, 1<<39 + 1<<20 + 5},
	} {
		if got, err := occ.NextOf(c.list, c.part, c.from); got != c.want || err != api.OK {
			t.Errorf("%s: NextOf(%d, %d) = %d, %d, want %d", c.what, c.part, c.from, got, err, c.want)
		}
	}
}

func TestP11_6_NextOfWrong(t *testing.T) {
	for what, list := range families() {
		for _, from := range []int{bottom, -end, -1, end + 1, 2 * end, top} {
			for part := -1; part <= len(list)+2; part++ {
				want := api.ErrArg
				if part < 1 || part > len(list) {
					want = api.ErrPart
				}
				if got, err := occ.NextOf(list, part, from); got != 0 || err != want {
					t.Errorf("%s: NextOf(%d, %d) = %d, %d, want %d", what, part, from, got, err, want)
				}
			}
		}
	}
}
