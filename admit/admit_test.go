package admit_test

import (
	"math"
	"math/rand/v2"
	"slices"
	"testing"

	"bulkhead/admit"
	"bulkhead/api"
	"bulkhead/check"
	"bulkhead/occ"
)

const (
	top        = math.MaxInt
	bottom     = math.MinInt
	end        = api.MaxTick
	mostLength = 2097152
)

func server(period, budget, offset, priority int) api.Server {
	return api.Server{Period: period, Budget: budget, Offset: offset, Priority: priority}
}

// The chapter's servers.
func a() api.Server { return server(5, 2, 4, 9) }
func b() api.Server { return server(10, 6, 0, 1) }
func c() api.Server { return server(10, 7, 0, 1) }

func chapter() []api.Server { return []api.Server{a(), b()} }

// shared are as many servers as there may be, all of one period and budget, released at one tick; they ask for all there is.
func shared() []api.Server {
	var list []api.Server
	for i := range api.MaxParts {
		list = append(list, server(64, 2, 0, (i*11+5)%32))
	}
	return list
}

// many are as many servers as there may be, of several periods; the greatest priority stands in the middle.
func many() []api.Server {
	periods := []int{8, 12, 6, 24, 48, 16}
	var list []api.Server
	for i := range api.MaxParts {
		period := periods[i%len(periods)]
		list = append(list, server(period, 1+i%2, i*5%period, (i*7+100)%32*8+7))
	}
	return list
}

// families are servers of many kinds, each with a name.
func families() map[string][]api.Server {
	return map[string][]api.Server{
		"none":                              nil,
		"one":                               {server(3, 1, 0, 0)},
		"one of one tick":                   {server(1, 1, 0, 255)},
		"one full":                          {server(6, 6, 0, 7)},
		"one full, from its offset":         {server(6, 6, 5, 7)},
		"one over the end of H":             {server(6, 4, 4, 7)},
		"the chapter's":                     chapter(),
		"the chapter's, one tick too much":  {a(), c()},
		"the chapter's, turned":             {c(), a()},
		"nothing left":                      {server(5, 5, 4, 9), b()},
		"too much asked":                    {server(4, 3, 1, 2), server(6, 4, 0, 3), server(3, 1, 2, 1)},
		"never a tick":                      {server(4, 1, 0, 1), server(2, 2, 0, 3), server(8, 8, 0, 2)},
		"full at the last tick":             {server(4, 3, 0, 9), server(4, 1, 0, 1)},
		"one tick behind the last":          {server(4, 3, 0, 9), server(4, 2, 0, 1)},
		"load 1, kept":                      {server(4, 2, 0, 3), server(8, 4, 0, 2)},
		"load 1, lost":                      {server(6, 3, 0, 9), server(2, 1, 0, 5)},
		"lost without offsets":              {server(4, 2, 0, 9), server(2, 1, 0, 1)},
		"saved by an offset":                {server(4, 2, 1, 9), server(2, 1, 0, 1)},
		"late":                              {server(10, 1, 8, 1), server(10, 10, 9, 9)},
		"late, of short windows":            {server(10, 10, 9, 9), server(5, 1, 3, 1)},
		"two at one tick":                   {server(4, 4, 0, 9), server(4, 1, 0, 2), server(4, 1, 0, 5)},
		"two at one later tick":             {server(6, 1, 0, 2), server(6, 6, 2, 9), server(6, 1, 0, 3)},
		"rests that come again later":       {server(7, 7, 1, 3), server(7, 7, 4, 8)},
		"only in the first H":               {server(6, 6, 0, 1), server(3, 3, 2, 2)},
		"greatest first":                    {server(4, 1, 1, 200), server(6, 2, 0, 100), server(3, 1, 2, 0)},
		"greatest in the middle":            {server(4, 1, 1, 100), server(6, 2, 0, 200), server(3, 1, 2, 0)},
		"greatest last":                     {server(4, 1, 1, 100), server(6, 2, 0, 0), server(3, 1, 2, 200)},
		"one of period 1 below":             {server(9, 2, 3, 5), server(1, 1, 0, 1)},
		"one of period 1 above":             {server(9, 2, 3, 1), server(1, 1, 0, 5)},
		"several offsets, unlike at first":  {server(12, 5, 11, 5), server(6, 1, 3, 4), server(4, 1, 2, 3), server(12, 2, 0, 2)},
		"as many as there may be":           many(),
		"as many, and all that there is":    shared(),
		"as many, and one tick too much":    append(shared()[:31], server(64, 3, 0, 26)),
		"a gap across the end of H":         {server(8, 2, 3, 2), server(8, 1, 1, 1)},
		"no gap at the end of H":            {server(4, 3, 3, 2), server(4, 1, 1, 1)},
		"slots unlike in length":            {server(20, 3, 5, 3), server(4, 1, 0, 2), server(10, 2, 8, 1)},
		"loss in the first window and then": {server(9, 5, 0, 7), server(9, 5, 0, 6)},
	}
}

// chance is servers by chance whose hyperperiod is at most as great as most; half of them ask for little, so that many are admitted.
func chance(r *rand.Rand, most int) []api.Server {
	for {
		var list []api.Server
		priorities := r.Perm(256)
		count := 1 + r.IntN(5)
		modest := r.IntN(2) == 0
		for i := range count {
			period := 1 + r.IntN(12)
			budget := 1 + r.IntN(period)
			if modest {
				budget = 1 + r.IntN(max(1, period/count))
			}
			list = append(list, server(period, budget, r.IntN(period), priorities[i]))
		}
		if hyper, err := check.Hyper(list); err == api.OK && hyper <= most {
			return list
		}
	}
}

// reading is a second reading: the rule played tick by tick, the releases first.
type reading struct {
	what      string
	list      []api.Server
	hyper     int
	occupants []int // of the ticks ahead of 5 H
}

func read(what string, list []api.Server) reading {
	m := reading{what: what, list: list, hyper: 1}
	for _, s := range list { // the least multiple, found by trying
		step := m.hyper
		for m.hyper%s.Period != 0 {
			m.hyper += step
		}
	}
	rests := make([]int, len(list))
	for tick := range 5 * m.hyper {
		chosen := 0
		for i, s := range list {
			if tick%s.Period == s.Offset {
				rests[i] = s.Budget
			}
			if rests[i] > 0 && (chosen == 0 || s.Priority > list[chosen-1].Priority) {
				chosen = i + 1
			}
		}
		m.occupants = append(m.occupants, chosen)
		if chosen > 0 {
			rests[chosen-1]--
		}
	}
	return m
}

// supply counts the ticks of a partition, within what was played.
func (m reading) supply(part, from, below int) int {
	ticks := 0
	for _, occupant := range m.occupants[from:below] {
		if occupant == part {
			ticks++
		}
	}
	return ticks
}

// firstLoss goes through the ticks ahead of one, and of each through the servers.
func (m reading) firstLoss(below int) (int, int, bool) {
	for tick := range below {
		for i, s := range m.list {
			if tick%s.Period == s.Offset && m.supply(i+1, tick, tick+s.Period) != s.Budget {
				return i + 1, tick, true
			}
		}
	}
	return 0, 0, false
}

// shortLook is the tick of P14.7: windows that begin ahead of it are enough.
func (m reading) shortLook() int {
	offset := 0
	for _, s := range m.list {
		offset = max(offset, s.Offset)
	}
	return offset + 2*m.hyper
}

// least counts at every beginning from H to just ahead of 2 H, turn after turn; length is at most 3 H.
func (m reading) least(part, length int) int {
	least := top
	for from := m.hyper; from < 2*m.hyper; from++ {
		least = min(least, m.supply(part, from, from+length))
	}
	return least
}

// blackout counts the ticks on end without one of the partition, from H on.
func (m reading) blackout(part int) int {
	longest, now, there := 0, 0, false
	for _, occupant := range m.occupants[m.hyper:] {
		now++
		if occupant == part {
			now, there = 0, true
		}
		longest = max(longest, now)
	}
	if !there {
		return api.Never
	}
	return longest
}

// forAll does something with every family and with servers by chance.
func forAll(times, most int, do func(m reading)) {
	for what, list := range families() {
		do(read(what, list))
	}
	r := rand.New(rand.NewPCG(14, 7))
	for range times {
		do(read("by chance", chance(r, most)))
	}
}

// The wants hold one call against what is asked of it.
func wantAdmit(t *testing.T, what string, list []api.Server, want bool, wantErr api.Errno) {
	t.Helper()
	if got, err := admit.Admit(list); got != want || err != wantErr {
		t.Fatalf("%s %v: Admit = %v, %d, want %v, %d", what, list, got, err, want, wantErr)
	}
}

func wantLoss(t *testing.T, what string, list []api.Server, part, from int, want bool) {
	t.Helper()
	if gotPart, gotFrom, got := admit.FirstLoss(list); gotPart != part || gotFrom != from || got != want {
		t.Fatalf("%s %v: FirstLoss = %d, %d, %v, want %d, %d, %v", what, list, gotPart, gotFrom, got, part, from, want)
	}
}

func wantLeast(t *testing.T, what string, list []api.Server, part, length, want int, wantErr api.Errno) {
	t.Helper()
	if got, err := admit.Least(list, part, length); got != want || err != wantErr {
		t.Fatalf("%s %v: Least(%d, %d) = %d, %d, want %d, %d", what, list, part, length, got, err, want, wantErr)
	}
}

func wantBlackout(t *testing.T, what string, list []api.Server, part, want int, wantErr api.Errno) {
	t.Helper()
	if got, err := admit.Blackout(list, part); got != want || err != wantErr {
		t.Fatalf("%s %v: Blackout(%d) = %d, %d, want %d, %d", what, list, part, got, err, want, wantErr)
	}
}

func wantLoad(t *testing.T, what string, list []api.Server, sum, hyper int, wantErr api.Errno) {
	t.Helper()
	if gotSum, gotHyper, err := admit.Load(list); gotSum != sum || gotHyper != hyper || err != wantErr {
		t.Fatalf("%s %v: Load = %d, %d, %d, want %d, %d, %d", what, list, gotSum, gotHyper, err, sum, hyper, wantErr)
	}
}

func TestExamples(t *testing.T) {
	two, more := chapter(), []api.Server{a(), c()}
	wantAdmit(t, "A, B", two, true, api.OK)
	wantLoss(t, "A, B", two, 0, 0, false)
	wantLoad(t, "A, B", two, 10, 10, api.OK)
	wantAdmit(t, "A, C", more, false, api.OK)
	wantLoss(t, "A, C", more, 2, 10, true)
	wantLoad(t, "A, C", more, 11, 10, api.OK)
	wantLeast(t, "A, B", two, 1, 5, 2, api.OK)
	wantLeast(t, "A, B", two, 2, 5, 3, api.OK)
	wantLeast(t, "A, B", two, 2, 10, 6, api.OK)
	wantBlackout(t, "A, B", two, 1, 3, api.OK)
	wantBlackout(t, "A, B", two, 2, 2, api.OK)
	wantBlackout(t, "A full, B", []api.Server{server(5, 5, 4, 9), b()}, 2, api.Never, api.OK)
	wantLeast(t, "A, B", two, 3, 1, 0, api.ErrPart)
	wantLeast(t, "A, B", two, 1, -1, 0, api.ErrArg)
	wantBlackout(t, "none", nil, 1, 0, api.ErrPart)
	wantAdmit(t, "none", nil, true, api.OK)
	wantLoad(t, "none", nil, 0, 1, api.OK)
}

// refused wants the servers' error of every call, whatever the other arguments are.
func refused(t *testing.T, what string, list []api.Server, want api.Errno) {
	t.Helper()
	wantAdmit(t, what, list, false, want)
	wantLoss(t, what, list, 0, 0, false)
	wantLoad(t, what, list, 0, 0, want)
	for _, part := range []int{bottom, -1, 0, 1, 2, len(list), len(list) + 1, 99, top} {
		wantBlackout(t, what, list, part, 0, want)
		for _, length := range []int{bottom, -1, 0, 1, mostLength, mostLength + 1, top} {
			wantLeast(t, what, list, part, length, 0, want)
		}
	}
}

func TestP14_1_ServersErrorFirst(t *testing.T) {
	good := server(10, 2, 1, 5)
	tooMany := make([]api.Server, api.MaxParts+1)
	for i := range tooMany {
		tooMany[i] = server(10, 1, 0, i)
	}
	for what, c := range map[string]struct {
		list []api.Server
		err  api.Errno
	}{
		"one too many":             {tooMany, api.ErrCount},
		"too many, and period 0":   {append(slices.Clone(tooMany), api.Server{}), api.ErrCount},
		"period 0":                 {[]api.Server{server(0, 1, 0, 1)}, api.ErrServer},
		"period the least":         {[]api.Server{good, server(bottom, 1, 0, 1)}, api.ErrServer},
		"period too great":         {[]api.Server{server(api.MaxPeriod+1, 1, 0, 1), good}, api.ErrServer},
		"period the greatest":      {[]api.Server{server(top, 1, 0, 1)}, api.ErrServer},
		"budget 0":                 {[]api.Server{good, server(10, 0, 0, 1)}, api.ErrServer},
		"budget above the period":  {[]api.Server{good, server(10, 11, 0, 1)}, api.ErrServer},
		"budget the least":         {[]api.Server{server(10, bottom, 0, 1)}, api.ErrServer},
		"budget the greatest":      {[]api.Server{server(10, top, 0, 1)}, api.ErrServer},
		"offset -1":                {[]api.Server{server(10, 1, -1, 1)}, api.ErrServer},
		"offset the period":        {[]api.Server{server(10, 1, 10, 1)}, api.ErrServer},
		"offset the greatest":      {[]api.Server{server(10, 1, top, 1)}, api.ErrServer},
		"priority -1":              {[]api.Server{server(10, 1, 0, -1)}, api.ErrServer},
		"priority too great":       {[]api.Server{server(10, 1, 0, api.MaxPriority+1)}, api.ErrServer},
		"priority twice":           {[]api.Server{good, server(3, 1, 0, 4), good}, api.ErrServer},
		"hyperperiod":              {[]api.Server{server(1<<20, 2, 4, 9), server(3, 1, 0, 1)}, api.ErrHyper},
		"hyperperiod of many":      {[]api.Server{server(1048573, 1, 0, 1), server(1048571, 1, 0, 2), server(1048559, 1, 0, 3), server(1048549, 1, 0, 4)}, api.ErrHyper},
		"table":                    {[]api.Server{server(1<<20, 2, 4, 9), server(1, 1, 0, 1)}, api.ErrTable},
		"table, one step too many": {[]api.Server{server(32768, 1, 0, 1), server(1, 1, 0, 2)}, api.ErrTable},
	} {
		refused(t, what, c.list, c.err)
	}
	wantAdmit(t, "as many releases as there may be", []api.Server{server(32767, 1, 0, 1), server(1, 1, 0, 2)}, false, api.OK)
}

func TestP14_1_PartitionsThatAreNotThere(t *testing.T) {
	for what, list := range families() {
		for _, part := range []int{bottom, bottom + 1, -end, -1, 0, len(list) + 1, len(list) + 2, 256, end, top - 1, top} {
			wantBlackout(t, what, list, part, 0, api.ErrPart)
			for _, length := range []int{bottom, -1, 0, 1, mostLength, mostLength + 1, top} {
				wantLeast(t, what, list, part, length, 0, api.ErrPart)
			}
		}
		for part := 1; part <= len(list); part++ {
			if _, err := admit.Blackout(list, part); err != api.OK {
				t.Errorf("%s: Blackout(%d): %d", what, part, err)
			}
			if _, err := admit.Least(list, part, 1); err != api.OK {
				t.Errorf("%s: Least(%d, 1): %d", what, part, err)
			}
		}
	}
}

func TestP14_2_Admit(t *testing.T) {
	yes := 0
	forAll(10000, 120, func(m reading) {
		_, _, lost := m.firstLoss(m.shortLook())
		wantAdmit(t, m.what, m.list, !lost, api.OK)
		if !lost {
			yes++
		}
	})
	if yes < 2000 {
		t.Errorf("only %d are admitted: that is too few to tell", yes)
	}
}

func TestP14_3_FirstLoss(t *testing.T) {
	forAll(10000, 120, func(m reading) {
		part, from, lost := m.firstLoss(m.shortLook())
		wantLoss(t, m.what, m.list, part, from, lost)
	})
}

// Servers of which those above come late, so that the first windows of those below are full and later ones need not be.
func TestP14_3_FirstLossBehindH(t *testing.T) {
	r := rand.New(rand.NewPCG(3, 30))
	behindH := 0
	for range 4000 {
		hyper := 2 + r.IntN(11)
		list := []api.Server{server(hyper, 1+r.IntN(hyper), hyper/2+r.IntN((hyper+1)/2), 9)}
		for i := range 1 + r.IntN(3) {
			period := hyper
			for r.IntN(3) == 0 && period%2 == 0 {
				period /= 2
			}
			list = append(list, server(period, 1+r.IntN((period+1)/2), r.IntN(period), i))
		}
		r.Shuffle(len(list), func(i, j int) { list[i], list[j] = list[j], list[i] })
		m := read("late", list)
		part, from, lost := m.firstLoss(m.shortLook())
		wantLoss(t, m.what, m.list, part, from, lost)
		if from >= m.hyper {
			behindH++
		}
	}
	if behindH < 300 {
		t.Errorf("only %d have their first loss at H or behind it: that is too few to tell", behindH)
	}
}

func TestP14_2_Edges(t *testing.T) {
	named := families()
	for what, want := range map[string]bool{
		"none":                           true,
		"one":                            true,
		"one full, from its offset":      true,
		"full at the last tick":          true,
		"one tick behind the last":       false,
		"load 1, kept":                   true,
		"load 1, lost":                   false,
		"lost without offsets":           false,
		"saved by an offset":             true,
		"too much asked":                 false,
		"as many, and all that there is": true,
		"as many, and one tick too much": false,
	} {
		wantAdmit(t, what, named[what], want, api.OK)
	}
}

func TestP14_3_Edges(t *testing.T) {
	named := families()
	for what, want := range map[string][2]int{
		"one tick behind the last":          {2, 0},
		"load 1, lost":                      {2, 0},
		"lost without offsets":              {2, 0},
		"nothing left":                      {2, 0},
		"late":                              {1, 18}, // ahead of 2 H = 20 and of the greatest Offset plus 2 H = 29 its last window
		"late, of short windows":            {2, 13},
		"two at one tick":                   {2, 0},
		"two at one later tick":             {1, 6},
		"rests that come again later":       {1, 1},
		"loss in the first window and then": {2, 0},
		"as many, and one tick too much":    {18, 0}, // the last one asks for too much, the one of the least priority loses
	} {
		wantLoss(t, what, named[what], want[0], want[1], true)
	}
	for _, what := range []string{"none", "one", "full at the last tick", "saved by an offset", "as many, and all that there is"} {
		wantLoss(t, what, named[what], 0, 0, false)
	}
}

// The number is told by the list's order, not by the priorities, and only among those at one tick.
func TestP14_3_TheLeastNumber(t *testing.T) {
	all := server(4, 4, 0, 200)
	for _, c := range []struct {
		list       []api.Server
		part, from int
	}{
		{[]api.Server{server(4, 1, 0, 5), all, server(4, 1, 0, 2)}, 1, 0},
		{[]api.Server{server(4, 1, 0, 2), all, server(4, 1, 0, 5)}, 1, 0},
		{[]api.Server{server(4, 1, 1, 2), all, server(4, 1, 0, 5)}, 3, 0},
		{[]api.Server{server(4, 1, 1, 5), server(4, 1, 1, 2), all}, 1, 1},
		{[]api.Server{server(4, 1, 2, 5), server(4, 1, 1, 2), server(4, 1, 1, 3), all}, 2, 1},
		{[]api.Server{server(4, 1, 3, 5), server(4, 1, 3, 2), server(4, 1, 0, 3), all}, 3, 0},
	} {
		wantLoss(t, "", c.list, c.part, c.from, true)
	}
}

// Of every hyperperiod the loss may be as late as its last tick but two.
func TestP14_3_LateLosses(t *testing.T) {
	for _, h := range []int{2, 3, 4, 7, 64, 1000, 1<<20 - 1, 1 << 20} {
		list := []api.Server{server(h, h, h-1, 9), server(h, 1, h-2, 1)}
		wantLoss(t, "", list, 2, 2*h-2, true)
		wantAdmit(t, "", list, false, api.OK)
		list[0].Budget = h - 1
		wantLoss(t, "", list, 0, 0, false)
		wantAdmit(t, "", list, true, api.OK)
	}
}

func TestP14_4_Least(t *testing.T) {
	forAll(150, 60, func(m reading) {
		for part := 1; part <= len(m.list); part++ {
			for length := range 2*m.hyper + 2 {
				wantLeast(t, m.what, m.list, part, length, m.least(part, length), api.OK)
			}
		}
	})
}

func TestP14_4_LengthsThatMayNotBe(t *testing.T) {
	for what, list := range families() {
		for part := 1; part <= len(list); part++ {
			for _, length := range []int{bottom, bottom + 1, -mostLength, -2, -1, mostLength + 1, 2 * mostLength, end, top - 1, top} {
				wantLeast(t, what, list, part, length, 0, api.ErrArg)
			}
			wantLeast(t, what, list, part, 0, 0, api.OK)
		}
	}
}

// A length of many turns has the supply of each whole one, and the least of what is left.
func TestP14_4_LongLengths(t *testing.T) {
	forAll(150, 60, func(m reading) {
		for part := 1; part <= len(m.list); part++ {
			turn := m.supply(part, m.hyper, 2*m.hyper)
			for _, length := range []int{mostLength, mostLength - 1, mostLength - m.hyper, 1 << 20, 1<<20 + 1, 12345} {
				want := length/m.hyper*turn + m.least(part, length%m.hyper)
				wantLeast(t, m.what, m.list, part, length, want, api.OK)
			}
		}
	})
}

func TestP14_4_WhereTheLeastBegins(t *testing.T) {
	// One slot of each partition in every 24 ticks: 0 to 2, 7 to 9, and 10.
	list := []api.Server{server(24, 3, 0, 5), server(24, 3, 7, 4), server(24, 1, 10, 3)}
	wantLeast(t, "behind a slot's end", list, 1, 21, 0, api.OK)
	wantLeast(t, "one tick more", list, 1, 22, 1, api.OK)
	wantLeast(t, "of the third, across the end of H", list, 3, 23, 0, api.OK)
	wantLeast(t, "of the third, one turn", list, 3, 24, 1, api.OK)
	wantLeast(t, "of the third, up to its slot", list, 3, 47, 1, api.OK)
	wantLeast(t, "of the third, two turns", list, 3, 48, 2, api.OK)
	// The second partition has the ticks 0 to 1, 5 to 7 and 19 of every 20: gaps of 3 (two slots meet across the end of H) and of 11.
	uneven := []api.Server{server(20, 3, 2, 9), server(20, 6, 19, 1), server(20, 11, 8, 8)}
	for length, want := range map[int]int{1: 0, 10: 0, 11: 0, 12: 1, 13: 2, 14: 3, 15: 3, 17: 3, 18: 4, 19: 5, 20: 6, 31: 6, 32: 7} {
		wantLeast(t, "uneven", uneven, 2, length, want, api.OK)
	}
	// Of 17 ticks those from 2 and from 8 on, and no others, have so few: they begin at the end of a slot, and end at the beginning of one.
	m := read("uneven", uneven)
	for from := 20; from < 40; from++ {
		if got := m.supply(2, from, from+17); (got == 3) != (from == 22 || from == 28) || got < 3 {
			t.Errorf("17 ticks from %d on: %d", from, got)
		}
	}
}

func TestP14_5_Blackout(t *testing.T) {
	never := 0
	forAll(600, 120, func(m reading) {
		for part := 1; part <= len(m.list); part++ {
			want := m.blackout(part)
			wantBlackout(t, m.what, m.list, part, want, api.OK)
			if want == api.Never {
				never++
			}
		}
	})
	if never < 20 {
		t.Errorf("only %d partitions have no tick: that is too few to tell", never)
	}
}

func TestP14_5_Edges(t *testing.T) {
	for _, c := range []struct {
		what       string
		list       []api.Server
		part, want int
	}{
		{"all ticks", []api.Server{server(1, 1, 0, 0)}, 1, 0},
		{"all ticks from its offset on", []api.Server{server(6, 6, 5, 7)}, 1, 0},
		{"all but one", []api.Server{server(6, 5, 5, 7)}, 1, 1},
		{"one of its period", []api.Server{server(6, 1, 0, 7)}, 1, 5},
		{"one of its period, the last", []api.Server{server(6, 1, 5, 7)}, 1, 5},
		{"across the end of H", []api.Server{server(8, 2, 3, 2), server(8, 1, 1, 1)}, 1, 6},
		{"within H", []api.Server{server(16, 3, 0, 9), server(16, 10, 3, 8), server(16, 6, 0, 1)}, 3, 13},
		{"none from H on, some ahead of it", []api.Server{server(6, 6, 0, 1), server(3, 3, 2, 2)}, 1, api.Never},
		{"none at all", []api.Server{server(4, 1, 0, 1), server(2, 2, 0, 3)}, 1, api.Never},
		{"longer at first than from H on", []api.Server{server(8, 1, 7, 9), server(4, 1, 3, 1)}, 2, 4},
		{"the longest", []api.Server{server(1<<20, 1, 1<<19, 0)}, 1, 1<<20 - 1},
	} {
		wantBlackout(t, c.what, c.list, c.part, c.want, api.OK)
	}
}

func TestP14_6_Load(t *testing.T) {
	forAll(600, 120, func(m reading) {
		sum := 0
		for _, s := range m.list {
			for tick := range m.hyper { // the releases of H ticks, one after the other
				if tick%s.Period == s.Offset {
					sum += s.Budget
				}
			}
		}
		wantLoad(t, m.what, m.list, sum, m.hyper, api.OK)
	})
}

func TestP14_6_Edges(t *testing.T) {
	full := make([]api.Server, api.MaxParts)
	for i := range full {
		full[i] = server(1<<20, 1<<20, i, i)
	}
	wantLoad(t, "as much as can be asked for", full, 1<<25, 1<<20, api.OK)
	wantLoad(t, "one tick", []api.Server{server(1, 1, 0, 0)}, 1, 1, api.OK)
	wantLoad(t, "as little as can be asked for", []api.Server{server(1<<20, 1, 0, 0)}, 1, 1<<20, api.OK)
	wantLoad(t, "unlike periods", []api.Server{server(4, 3, 3, 0), server(6, 5, 5, 1), server(10, 7, 0, 2)}, 45+50+42, 60, api.OK)
	wantLoad(t, "an empty list", []api.Server{}, 0, 1, api.OK)
	for _, budget := range []int{2, 3, 4} { // below, at and above a load of 1
		wantLoad(t, "around 1", []api.Server{server(4, 2, 1, 0), server(6, budget, 0, 1)}, 6+2*budget, 12, api.OK)
	}
}

// As much as there may be: all calls held against the rule played tick by tick, the counting done by sums.
func TestAsMuchAsThereMayBe(t *testing.T) {
	long := 32 * 32767
	var full []api.Server
	for i := range api.MaxParts {
		full = append(full, server(1024, 1+i*3%64, i*331%1024, (i*11+5)%32))
	}
	for what, list := range map[string][]api.Server{
		"all servers":              full,
		"most slots":               {server(32, 1, 1, 9), server(long, long-32767, 5, 1)},
		"most slots, one too much": {server(32, 1, 1, 9), server(long, long-32766, 5, 1)},
		"short periods":            {server(32767, 9, 32766, 3), server(1, 1, 0, 1)},
		"long periods":             {server(1<<20, 1<<19, 1<<20-1, 3), server(1<<18, 1<<17, 77, 1), server(1<<16, 99, 1<<16-1, 4)},
		"primes":                   {server(1009, 400, 1008, 3), server(1013, 900, 500, 2)},
	} {
		m := read(what, list)
		bySums(t, m)
	}
}

// bySums holds servers of many ticks against the second reading.
func bySums(t *testing.T, m reading) {
	t.Helper()
	sums := make([][]int, len(m.list)+1)
	for part := range sums {
		sums[part] = make([]int, len(m.occupants)+1)
		for tick, occupant := range m.occupants {
			sums[part][tick+1] = sums[part][tick]
			if occupant == part {
				sums[part][tick+1]++
			}
		}
	}
	wantPart, wantFrom := 0, top
	for i, s := range m.list {
		for from := s.Offset; from < m.shortLook(); from += s.Period {
			if sums[i+1][from+s.Period]-sums[i+1][from] < s.Budget && from < wantFrom {
				wantPart, wantFrom = i+1, from
			}
		}
	}
	if wantPart == 0 {
		wantFrom = 0
	}
	wantLoss(t, m.what, m.list, wantPart, wantFrom, wantPart > 0)
	wantAdmit(t, m.what, m.list, wantPart == 0, api.OK)
	for part := 1; part <= len(m.list); part++ {
		wantBlackout(t, m.what, m.list, part, m.blackout(part), api.OK)
		turn := sums[part][2*m.hyper] - sums[part][m.hyper]
		for _, length := range []int{0, 1, 31, 32, 33, 1000, m.hyper - 1, m.hyper, m.hyper + 1, mostLength} {
			least := top
			for from := m.hyper; from < 2*m.hyper; from++ {
				least = min(least, sums[part][from+length%m.hyper]-sums[part][from])
			}
			wantLeast(t, m.what, m.list, part, length, length/m.hyper*turn+least, api.OK)
		}
	}
}

// Windows that end at MaxTick just, one tick beyond it, and one ahead: what is told of the near ones holds of them.
func TestP14_2_WindowsAtTheEndOfTime(t *testing.T) {
	for _, c := range []struct {
		list []api.Server
		want bool
	}{
		{[]api.Server{server(1<<20, 1<<19, 0, 9), server(1<<20, 1<<19, 0, 1)}, true},
		{[]api.Server{server(1<<20, 1<<19, 0, 9), server(1<<20, 1<<19+1, 0, 1)}, false},
		{[]api.Server{server(1<<20, 1<<19, 1, 9), server(1<<20, 1<<19, 1, 1)}, true},
		{[]api.Server{server(1<<20, 1<<19, 1<<20-1, 9), server(1<<20, 1<<19+1, 1<<20-1, 1)}, false},
		{[]api.Server{server(8, 3, 7, 9), server(4, 3, 0, 1)}, false},
		{[]api.Server{server(8, 2, 1, 9), server(4, 2, 0, 1)}, true},
	} {
		wantAdmit(t, "", c.list, c.want, api.OK)
		for i, s := range c.list {
			last := (end-s.Offset)/s.Period - 1
			from := s.Offset + last*s.Period
			if from+s.Period > end || from+2*s.Period <= end {
				t.Fatalf("%v: the last window begins at %d", c.list, from)
			}
			for _, begin := range []int{from, from - s.Period} {
				got, err := occ.Supply(c.list, i+1, begin, begin+s.Period)
				if err != api.OK || c.want && got != s.Budget {
					t.Errorf("%v: partition %d has %d ticks from %d on, %d", c.list, i+1, got, begin, err)
				}
			}
		}
	}
}
