package report_test

import (
	"math/rand/v2"
	"strings"
	"testing"

	"bulkhead/admit"
	"bulkhead/api"
	"bulkhead/check"
	"bulkhead/occ"
	"bulkhead/report"
)

// everyone does something with families, with servers by chance, and with some of long hyperperiods, which are not played tick by tick.
func everyone(times int, do func(what string, list []api.Server, hyper int)) {
	each := func(what string, list []api.Server) {
		hyper, err := check.Hyper(list)
		if err != api.OK {
			panic(what)
		}
		do(what, list, hyper)
	}
	for what, list := range families() {
		each(what, list)
	}
	r := rand.New(rand.NewPCG(27, 6))
	for range times {
		each("by chance", chance(r, 5000))
		each("by chance, of one period", shared(r, 20000))
	}
	each("the most ticks", []api.Server{server(1<<20, 1<<19-1, 1<<20-1, 3), server(1<<18, 99, 77, 1), server(1<<16, 1<<15+1, 1<<16-1, 0)})
	each("the most releases", []api.Server{server(32767, 9, 32766, 3), server(1, 1, 0, 1)})
}

func sumOf(list []int) int {
	sum := 0
	for _, number := range list {
		sum += number
	}
	return sum
}

func used(t *testing.T, list []api.Server, from, below int) []int {
	t.Helper()
	counts, err := report.Used(list, from, below)
	if err != api.OK || len(counts) != len(list)+1 {
		t.Fatalf("P27.1: %v: Used(%d, %d) = %v, %d", list, from, below, counts, err)
	}
	return counts
}

// Used adds up to the ticks of the span, and tells of each partition what layer 11 does; of two spans that touch it is the sum.
func TestP27_6_UsedAddsUp(t *testing.T) {
	t.Parallel()
	everyone(60, func(what string, list []api.Server, h int) {
		for _, from := range []int{0, h - 1, h, 5*h + h/2, 1 << 37, end - h} {
			for _, below := range []int{from, from + 1, from + h, end} {
				counts := used(t, list, from, below)
				if sumOf(counts) != below-from {
					t.Fatalf("P27.6: %s %v: Used(%d, %d) = %v", what, list, from, below, counts)
				}
				for i := range list {
					if ticks, err := occ.Supply(list, i+1, from, below); counts[i+1] != ticks || err != api.OK {
						t.Fatalf("P27.1: %s %v: Used(%d, %d) = %v, partition %d occupies %d", what, list, from, below, counts, i+1, ticks)
					}
				}
				middle := from + (below-from)/3
				first, second := used(t, list, from, middle), used(t, list, middle, below)
				for i := range counts {
					if first[i]+second[i] != counts[i] {
						t.Fatalf("P27.6: %s %v: Used from %d by %d to %d: %v, %v, %v", what, list, from, middle, below, first, second, counts)
					}
				}
			}
		}
	})
}

// A chart has a letter for each tick, that of the occupant that layer 11 tells, and as many of each as Used says.
func TestP27_6_LetterByLetter(t *testing.T) {
	t.Parallel()
	everyone(25, func(what string, list []api.Server, h int) {
		for _, from := range []int{0, h - 1, 2 * h, 1 << 38, end - 150} {
			below := min(end, from+150)
			line, err := report.Chart(list, from, below)
			if err != api.OK || len(line) != below-from {
				t.Fatalf("P27.5: %s %v: Chart(%d, %d) = %q, %d", what, list, from, below, line, err)
			}
			for i, letter := range line {
				if part, err := occ.At(list, from+i); letter != rune(letters[part]) || err != api.OK {
					t.Fatalf("P27.5: %s %v: tick %d has the letter %q, layer 11 tells %d", what, list, from+i, letter, part)
				}
			}
			lettersAreUsed(t, list, line, from, below)
		}
		for _, from := range []int{0, h, 1<<39 + 1} {
			line, err := report.Chart(list, from, from+most)
			if err != api.OK || len(line) != most {
				t.Fatalf("P27.5: %s %v: Chart from %d on: %d letters, %d", what, list, from, len(line), err)
			}
			lettersAreUsed(t, list, line, from, from+most)
		}
	})
}

func lettersAreUsed(t *testing.T, list []api.Server, line string, from, below int) {
	t.Helper()
	all := 0
	for part, ticks := range used(t, list, from, below) {
		number := strings.Count(line, letters[part:part+1])
		if number != ticks {
			t.Fatalf("P27.6: %v: Chart(%d, %d) has %d of %q, Used tells %d", list, from, below, number, letters[part], ticks)
		}
		all += number
	}
	if all != below-from {
		t.Fatalf("P27.6: %v: Chart(%d, %d) has %d letters", list, from, below, all)
	}
}

// A share is the true part of the ticks, rounded down or up; who has none has none, who has all has a million, which they add up to.
func TestP27_6_TrueParts(t *testing.T) {
	t.Parallel()
	none, all := 0, 0
	everyone(300, func(what string, list []api.Server, h int) {
		shares, err := report.Shares(list)
		if err != api.OK || len(shares) != len(list)+1 || sumOf(shares) != 1000000 {
			t.Fatalf("P27.2: %s %v: %v, %d, in all %d", what, list, shares, err, sumOf(shares))
		}
		for i, ticks := range used(t, list, h, 2*h) {
			// Of a share of s parts of a million: s - 1 < 1000000 ticks / h < s + 1.
			if over := shares[i]*h - 1000000*ticks; over <= -h || over >= h {
				t.Fatalf("P27.6: %s %v: place %d has %d of %d ticks and the share %d", what, list, i, ticks, h, shares[i])
			}
			switch {
			case ticks == 0 && shares[i] != 0, ticks == h && shares[i] != 1000000:
				t.Fatalf("P27.6: %s %v: place %d has %d of %d ticks and the share %d", what, list, i, ticks, h, shares[i])
			case ticks == 0:
				none++
			case ticks == h:
				all++
			}
		}
	})
	if min(none, all) < 20 {
		t.Errorf("%d had no ticks, %d had all", none, all)
	}
}

// Who is rounded up has a greater remainder than who is not, or as great a one and stands ahead.
func TestP27_2_WhoIsRoundedUp(t *testing.T) {
	t.Parallel()
	everyone(300, func(what string, list []api.Server, h int) {
		shares, _ := report.Shares(list)
		counts := used(t, list, h, 2*h)
		up := func(i int) bool { return shares[i]*h > counts[i]*1000000 }
		rest := func(i int) int { return counts[i] * 1000000 % h }
		for i := range counts {
			for j := range counts {
				if up(i) && !up(j) && (rest(i) < rest(j) || rest(i) == rest(j) && j < i) {
					t.Fatalf("P27.2: %s %v: %v of %v: place %d is rounded up, and %d is not", what, list, shares, counts, i, j)
				}
			}
		}
	})
}

// If every server gets its budget, its share is Budget of Period, rounded, and nobody's is what the load leaves over.
func TestP27_2_AdmittedSharesAreBudgets(t *testing.T) {
	t.Parallel()
	seen := 0
	everyone(200, func(what string, list []api.Server, h int) {
		if ok, _ := admit.Admit(list); !ok {
			return
		}
		seen++
		shares, _ := report.Shares(list)
		rest := 1000000
		for i, s := range list {
			if low := s.Budget * 1000000 / s.Period; shares[i+1] != low && (shares[i+1] != low+1 || s.Budget*1000000%s.Period == 0) {
				t.Fatalf("P27.2: %s %v: partition %d has the share %d", what, list, i+1, shares[i+1])
			}
			rest -= shares[i+1]
		}
		if load, _, _ := admit.Load(list); shares[0] != rest || load == h && rest != 0 {
			t.Fatalf("P27.2: %s %v: nobody has %d, load %d of %d", what, list, shares[0], load, h)
		}
	})
	if seen < 50 {
		t.Errorf("%d are admitted", seen)
	}
}

// Counts of all numbers that are a Part of one of the events add up to the events of the twelve kinds.
func TestP27_6_CountsAddUp(t *testing.T) {
	t.Parallel()
	r := rand.New(rand.NewPCG(27, 63))
	for range 500 {
		events := eventsByChance(r, r.IntN(400))
		perKind := twelve()
		parts := map[int]int{}
		for _, e := range events {
			parts[e.Part]++
			if e.Kind >= api.EventCall && e.Kind <= api.EventStart {
				perKind[e.Kind-1]++
			}
		}
		for part := range parts {
			for i, number := range report.Counts(events, part) {
				perKind[i] -= number
			}
		}
		for i, left := range perKind {
			if left != 0 {
				t.Errorf("P27.6: %v: %d of kind %d are too few", events, left, i+1)
			}
		}
	}
}

// Counts of two lists laid one behind the other are those of each.
func TestP27_3_OfTwoLists(t *testing.T) {
	t.Parallel()
	r := rand.New(rand.NewPCG(27, 33))
	for range 100 {
		events := eventsByChance(r, 200)
		cut := r.IntN(201)
		for _, part := range []int{-1, 0, 1, 2, 32} {
			first, second := report.Counts(events[:cut], part), report.Counts(events[cut:], part)
			for i := range first {
				first[i] += second[i]
			}
			wantCounts(t, "two lists", events, part, first)
		}
	}
}
