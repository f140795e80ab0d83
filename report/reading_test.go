package report_test

import (
	"fmt"
	"math"
	"math/big"
	"math/rand/v2"
	"slices"
	"strings"
	"testing"

	"bulkhead/api"
	"bulkhead/check"
	"bulkhead/report"
)

const (
	top    = math.MaxInt
	bottom = math.MinInt
	end    = 1 << 40 // MaxTick
	most   = 65536   // ticks of which Chart tells
)

func server(period, budget, offset, priority int) api.Server {
	return api.Server{Period: period, Budget: budget, Offset: offset, Priority: priority}
}

// The chapter's servers, and one that asks for a tick more.
func a() api.Server { return server(5, 2, 4, 9) }
func b() api.Server { return server(10, 6, 0, 1) }
func c() api.Server { return server(10, 7, 0, 1) }

func chapter() []api.Server { return []api.Server{a(), b()} }

// split are servers of one period and offset, by budgets; the first has the greatest priority.
func split(period int, budgets ...int) []api.Server {
	var list []api.Server
	for i, budget := range budgets {
		list = append(list, server(period, budget, 0, 255-i))
	}
	return list
}

// equal is so many times one number.
func equal(times, number int) []int { return slices.Repeat([]int{number}, times) }

// many are as many servers as there may be, of several periods; the greatest priority stands in the middle.
func many() []api.Server {
	periods := []int{8, 12, 6, 24, 48, 16}
	var list []api.Server
	for i := range api.MaxParts {
		period := periods[i%len(periods)]
		list = append(list, server(period, 1+i%2, i*5%period, (i*7+100)%32*8+7))
	}
	return list
}

// families are servers of many kinds, each with a name.
func families() map[string][]api.Server {
	return map[string][]api.Server{
		"none":                             nil,
		"no list":                          {},
		"one":                              {server(3, 1, 0, 0)},
		"one of one tick":                  {server(1, 1, 0, 255)},
		"one that has all":                 {server(6, 6, 0, 7)},
		"one full, from its offset":        {server(6, 6, 5, 7)},
		"one over the end of H":            {server(6, 4, 4, 7)},
		"the chapter's":                    chapter(),
		"the chapter's, turned":            {b(), a()},
		"the chapter's, a tick too much":   {a(), c()},
		"the chapter's, nothing left":      {server(5, 5, 4, 9), b()},
		"too much asked":                   {server(4, 3, 1, 2), server(6, 4, 0, 3), server(3, 1, 2, 1)},
		"never a tick":                     {server(4, 1, 0, 1), server(2, 2, 0, 3), server(8, 8, 0, 2)},
		"all but one never a tick":         split(6, 6, 1, 6, 3),
		"only in the first H":              {server(6, 6, 0, 1), server(3, 3, 2, 2)},
		"rests that come again later":      {server(7, 7, 1, 3), server(7, 7, 4, 8)},
		"load 1, kept":                     {server(4, 2, 0, 3), server(8, 4, 0, 2)},
		"load 1, lost":                     {server(6, 3, 0, 9), server(2, 1, 0, 5)},
		"two lost at one tick":             {server(4, 4, 0, 9), server(4, 1, 0, 2), server(4, 1, 0, 5)},
		"two lost at one later tick":       {server(6, 1, 0, 2), server(6, 6, 2, 9), server(6, 1, 0, 3)},
		"the greatest in the middle":       {server(4, 1, 1, 100), server(6, 2, 0, 200), server(3, 1, 2, 0)},
		"a gap across the end of H":        {server(8, 2, 3, 2), server(8, 1, 1, 1)},
		"several offsets, unlike at first": {server(12, 5, 11, 5), server(6, 1, 3, 4), server(4, 1, 2, 3), server(12, 2, 0, 2)},
		"a third each":                     split(3, 1, 1, 1),
		"all remainders, and nobody's":     split(101, 60, 40),
		"as many as there may be":          many(),
		"as many, and all that there is":   split(64, equal(32, 2)...),
		"as many, of one tick each":        split(101, equal(32, 1)...),
		"as many, remainders all alike":    split(48, equal(32, 1)...),
	}
}

// refused are servers that check.Hyper does not take, with its error.
func refused() map[string]struct {
	list []api.Server
	err  api.Errno
} {
	type row = struct {
		list []api.Server
		err  api.Errno
	}
	spoilt := func(s api.Server) []api.Server { return []api.Server{a(), b(), s} }
	return map[string]row{
		"one too many":                  {split(64, equal(33, 1)...), api.ErrCount},
		"far too many, and ill ones":    {make([]api.Server, 1000), api.ErrCount},
		"Period 0":                      {spoilt(server(0, 0, 0, 5)), api.ErrServer},
		"Period below 0":                {spoilt(server(-10, 1, 0, 5)), api.ErrServer},
		"Period above all":              {spoilt(server(1<<20+1, 1, 0, 5)), api.ErrServer},
		"Budget 0":                      {spoilt(server(10, 0, 0, 5)), api.ErrServer},
		"Budget above Period":           {spoilt(server(10, 11, 0, 5)), api.ErrServer},
		"Offset below 0":                {spoilt(server(10, 1, -1, 5)), api.ErrServer},
		"Offset at Period":              {spoilt(server(10, 1, 10, 5)), api.ErrServer},
		"Priority below 0":              {spoilt(server(10, 1, 0, -1)), api.ErrServer},
		"Priority above all":            {spoilt(server(10, 1, 0, 256)), api.ErrServer},
		"a Priority twice":              {spoilt(server(10, 1, 0, 9)), api.ErrServer},
		"numbers without end":           {spoilt(server(top, top, bottom, top)), api.ErrServer},
		"an ill one ahead of ErrHyper":  {[]api.Server{server(1<<20, 1, 0, 1), server(3, 1, 0, 2), server(3, 4, 0, 3)}, api.ErrServer},
		"no multiple":                   {[]api.Server{server(1<<20, 1, 0, 1), server(3, 1, 0, 2)}, api.ErrHyper},
		"no multiple, and too many":     {[]api.Server{server(1<<20, 1, 0, 1), server(3, 1, 0, 2), server(1, 1, 0, 3)}, api.ErrHyper},
		"too many releases":             {[]api.Server{server(1<<20, 1, 0, 1), server(1, 1, 0, 2)}, api.ErrTable},
		"too many releases by a little": {[]api.Server{server(32768, 1, 0, 1), server(1, 1, 0, 2)}, api.ErrTable},
	}
}

func oneOf[T any](r *rand.Rand, list ...T) T { return list[r.IntN(len(list))] }

// chance is servers by chance whose hyperperiod is not above a bound; half of them ask for little, so that many are admitted.
func chance(r *rand.Rand, bound int) []api.Server {
	for {
		var list []api.Server
		priorities := r.Perm(256)
		count := oneOf(r, 0, 1, 1, 2, 2, 3, 3, 4, 5, 8)
		modest := r.IntN(2) == 0
		for i := range count {
			period := 1 + r.IntN(12)
			budget := 1 + r.IntN(period)
			if modest {
				budget = 1 + r.IntN(max(1, period/count))
			}
			list = append(list, server(period, budget, r.IntN(period), priorities[i]))
		}
		if hyper, err := check.Hyper(list); err == api.OK && hyper <= bound {
			return list
		}
	}
}

// shared are servers by chance of one period, which may be any number up to a bound: so the remainders of their shares are of all kinds.
func shared(r *rand.Rand, bound int) []api.Server {
	period := 1 + r.IntN(bound)
	priorities := r.Perm(256)
	var list []api.Server
	for i := range r.IntN(api.MaxParts + 1) {
		budget := 1 + r.IntN(max(1, min(period, oneOf(r, 1, 2, 5, period/16, period))))
		list = append(list, server(period, budget, oneOf(r, 0, 0, r.IntN(period)), priorities[i]))
	}
	return list
}

// forAll does something with every family and with servers by chance.
func forAll(times int, do func(m reading)) {
	for what, list := range families() {
		do(read(what, list))
	}
	r := rand.New(rand.NewPCG(27, 7))
	for range times {
		do(read("by chance", chance(r, 120)))
		do(read("by chance, of one period", shared(r, 120)))
	}
}

// reading is a second reading: the rule played tick by tick, the releases first.
type reading struct {
	what      string
	list      []api.Server
	hyper     int
	occupants []int // of the ticks ahead of 5 H
}

func read(what string, list []api.Server) reading {
	m := reading{what: what, list: list, hyper: 1}
	for _, s := range list { // the least multiple, found by trying
		step := m.hyper
		for m.hyper%s.Period != 0 {
			m.hyper += step
		}
	}
	rests := make([]int, len(list))
	for tick := range 5 * m.hyper {
		chosen := 0
		for i, s := range list {
			if tick%s.Period == s.Offset {
				rests[i] = s.Budget
			}
			if rests[i] > 0 && (chosen == 0 || s.Priority > list[chosen-1].Priority) {
				chosen = i + 1
			}
		}
		m.occupants = append(m.occupants, chosen)
		if chosen > 0 {
			rests[chosen-1]--
		}
	}
	return m
}

// at is the occupant of any tick: from H on they come again.
func (m reading) at(tick int) int {
	if tick < m.hyper {
		return m.occupants[tick]
	}
	return m.occupants[m.hyper+tick%m.hyper]
}

// ahead counts the ticks ahead of one, nobody's first.
func (m reading) ahead(tick int) []int {
	counts := make([]int, len(m.list)+1)
	for t := range min(tick, m.hyper) {
		counts[m.occupants[t]]++
	}
	for place := range m.hyper {
		if tick > m.hyper+place {
			counts[m.occupants[m.hyper+place]] += 1 + (tick-m.hyper-place-1)/m.hyper
		}
	}
	return counts
}

// used counts the ticks of a span that may be.
func (m reading) used(from, below int) []int {
	counts := m.ahead(below)
	for i, ticks := range m.ahead(from) {
		counts[i] -= ticks
	}
	return counts
}

// shares gives out a million: to each what it has, rounded down, and then one by one to who is short of the most.
func (m reading) shares() []int {
	var shares []int
	var short []*big.Rat
	given := 0
	for _, ticks := range m.used(m.hyper, 2*m.hyper) {
		part := big.NewRat(int64(ticks)*1000000, int64(m.hyper))
		whole := new(big.Int).Quo(part.Num(), part.Denom())
		shares = append(shares, int(whole.Int64()))
		short = append(short, part.Sub(part, new(big.Rat).SetInt(whole)))
		given += int(whole.Int64())
	}
	for ; given < 1000000; given++ {
		first := 0
		for i, s := range short {
			if s.Cmp(short[first]) > 0 {
				first = i
			}
		}
		shares[first]++
		short[first].SetInt64(-1)
	}
	return shares
}

// load counts the ticks that are asked for at the releases of one turn.
func (m reading) load() int {
	sum := 0
	for tick := range m.hyper {
		for _, s := range m.list {
			if tick%s.Period == s.Offset {
				sum += s.Budget
			}
		}
	}
	return sum
}

// loss goes through the ticks, and of each through the servers, for a window that is not full.
func (m reading) loss() (int, int, bool) {
	for tick := range 4 * m.hyper {
		for i, s := range m.list {
			ticks := 0
			for _, occupant := range m.occupants[tick : tick+s.Period] {
				if occupant == i+1 {
					ticks++
				}
			}
			if tick%s.Period == s.Offset && ticks != s.Budget {
				return i + 1, tick, true
			}
		}
	}
	return 0, 0, false
}

// blackout counts the ticks on end without one of the partition, from H on.
func (m reading) blackout(part int) string {
	longest, now, there := 0, 0, false
	for _, occupant := range m.occupants[m.hyper:] {
		now++
		if occupant == part {
			now, there = 0, true
		}
		longest = max(longest, now)
	}
	if !there {
		return "never"
	}
	return fmt.Sprint(longest)
}

func (m reading) text() string {
	verdict := "admitted"
	if part, from, lost := m.loss(); lost {
		verdict = fmt.Sprintf("not admitted: partition %d from %d", part, from)
	}
	shares := m.shares()
	text := fmt.Sprintf("hyperperiod %d load %d of %d %s\n", m.hyper, m.load(), m.hyper, verdict)
	for i, s := range m.list {
		text += fmt.Sprintf("partition %d: budget %d of %d from %d priority %d share %d blackout %s\n", i+1, s.Budget, s.Period, s.Offset, s.Priority, shares[i+1], m.blackout(i+1))
	}
	return text + fmt.Sprintf("nobody: share %d\n", shares[0])
}

// letters stand in the order of the partitions' numbers, nobody's first.
const letters = ".ABCDEFGHIJKLMNOPQRSTUVWXYZabcdef"

func (m reading) chart(from, below int) string {
	var line strings.Builder
	for tick := from; tick < below; tick++ {
		line.WriteByte(letters[m.at(tick)])
	}
	return line.String()
}

// image is an image with such servers and nothing else.
func image(list ...api.Server) api.Image {
	var x api.Image
	for _, s := range list {
		x.Parts = append(x.Parts, api.Part{Server: s})
	}
	return x
}

// The wants hold one call against what is asked of it.
func wantUsed(t *testing.T, what string, list []api.Server, from, below int, want []int, wantErr api.Errno) {
	t.Helper()
	if got, err := report.Used(list, from, below); !slices.Equal(got, want) || err != wantErr {
		t.Fatalf("P27.1: %s %v: Used(%d, %d) = %v, %d, want %v, %d", what, list, from, below, got, err, want, wantErr)
	}
}

func wantShares(t *testing.T, what string, list []api.Server, want []int, wantErr api.Errno) {
	t.Helper()
	if got, err := report.Shares(list); !slices.Equal(got, want) || err != wantErr {
		t.Fatalf("P27.2: %s %v: Shares = %v, %d, want %v, %d", what, list, got, err, want, wantErr)
	}
}

func wantCounts(t *testing.T, what string, events []api.Event, part int, want []int) {
	t.Helper()
	if got := report.Counts(events, part); len(want) != 12 || !slices.Equal(got, want) {
		t.Fatalf("P27.3: %s: Counts of %d = %v, want %v", what, part, got, want)
	}
}

func wantText(t *testing.T, what string, x api.Image, want string, wantErr api.Errno) {
	t.Helper()
	if got, err := report.Text(x); got != want || err != wantErr {
		t.Fatalf("P27.4: %s: Text is\n%s(%d), want\n%s(%d)", what, got, err, want, wantErr)
	}
}

func wantChart(t *testing.T, what string, list []api.Server, from, below int, want string, wantErr api.Errno) {
	t.Helper()
	if got, err := report.Chart(list, from, below); got != want || err != wantErr {
		t.Fatalf("P27.5: %s %v: Chart(%d, %d) = %s, %d, want %s, %d", what, list, from, below, short(got), err, short(want), wantErr)
	}
}

// short is a line as it may be shown.
func short(line string) string {
	if len(line) < 200 {
		return fmt.Sprintf("%q", line)
	}
	return fmt.Sprintf("%q.. (%d letters)", line[:200], len(line))
}
