package report_test

import (
	"strings"
	"testing"

	"bulkhead/api"
	"bulkhead/report"
)

func TestP27_5_Examples(t *testing.T) {
	t.Parallel()
	wantChart(t, "A B", chapter(), 0, 12, "BBBBAABB.AAB", api.OK)
	wantChart(t, "A B", chapter(), 0, 65537, "", api.ErrLong)
}

func TestP27_5_Spans(t *testing.T) {
	t.Parallel()
	for _, row := range []struct {
		from, below int
		want        string
	}{
		{0, 0, ""},
		{0, 1, "B"},
		{5, 5, ""},
		{8, 9, "."},
		{7, 10, "B.A"},
		{10, 20, "ABBBAABBBA"},
		{9, 31, "AABBBAABBBAABBBAABBBAA"},
		{1000000000, 1000000010, "ABBBAABBBA"},
		{1000000008, 1000000008, ""},
		{1000000008, 1000000013, "BAABB"},
		{end - 6, end, "ABBBAA"},
		{end - 1, end, "A"},
		{end, end, ""},
	} {
		wantChart(t, "A B", chapter(), row.from, row.below, row.want, api.OK)
	}
}

func TestP27_5_SpansThatMayNotBe(t *testing.T) {
	t.Parallel()
	for what, list := range families() {
		for _, span := range [][2]int{{1, 0}, {5, 4}, {1000, 10}, {end, end - 1}, {end, 0}, {-1, -1}, {-1, 0}, {-1, 5}, {0, -1}, {end - 5, end + 1}, {end, end + 1}, {end + 1, end + 1}, {end + 1, end}, {top, bottom}, {bottom, bottom}, {top, top}, {1, bottom}} {
			wantChart(t, what, list, span[0], span[1], "", api.ErrArg)
		}
	}
}

// The error of the servers is told first, then that of the span, then that of its length.
func TestP27_5_TheOrderOfErrors(t *testing.T) {
	t.Parallel()
	spans := [][2]int{{0, 0}, {0, 10}, {0, most}, {0, most + 1}, {0, end}, {3, 2}, {-1, 2}, {0, end + 1}, {bottom, top}}
	for what, row := range refused() {
		for _, span := range spans {
			wantChart(t, what, row.list, span[0], span[1], "", row.err)
		}
	}
	for what, list := range families() {
		for _, span := range [][2]int{{-1, most}, {-1, most + 1}, {-1, end}, {end - most, end + 1}, {0, end + 1}, {end - most - 9, end + 9}, {bottom, top}, {bottom, 0}, {0, top}, {-2, top}} {
			wantChart(t, what, list, span[0], span[1], "", api.ErrArg)
		}
		for _, span := range [][2]int{{0, most + 1}, {1, most + 2}, {0, most + 2}, {end - most - 1, end}, {0, end}, {1 << 39, end}} {
			wantChart(t, what, list, span[0], span[1], "", api.ErrLong)
		}
	}
}

// Of so many ticks it tells, and of one more it does not, wherever the span begins.
func TestP27_5_TheMostTicks(t *testing.T) {
	t.Parallel()
	for what, list := range families() {
		m := read(what, list)
		for _, from := range []int{0, 1, m.hyper, 1 << 39, end - most} {
			wantChart(t, what, list, from, from+most, m.chart(from, from+most), api.OK)
			wantChart(t, what, list, from, from+most-1, m.chart(from, from+most-1), api.OK)
		}
		wantChart(t, what, list, -1, most-1, "", api.ErrArg)
		wantChart(t, what, list, end-most+1, end+1, "", api.ErrArg)
	}
	// As many slots as ticks.
	wantChart(t, "one tick in two", split(2, 1), 0, most, strings.Repeat("A.", most/2), api.OK)
	wantChart(t, "one tick in two", split(2, 1), 1, most+1, strings.Repeat(".A", most/2), api.OK)
	wantChart(t, "two in turn", split(2, 1, 1), end-most, end, strings.Repeat("AB", most/2), api.OK)
	wantChart(t, "one tick in two", split(2, 1), 0, most+1, "", api.ErrLong)
}

func TestP27_5_NoServersOneAndNone(t *testing.T) {
	t.Parallel()
	for _, from := range []int{0, 1, 7, 1 << 30, end - 40} {
		wantChart(t, "none", nil, from, from+40, strings.Repeat(".", 40), api.OK)
		wantChart(t, "one that has all", split(5, 5), from, from+40, strings.Repeat("A", 40), api.OK)
		wantChart(t, "one that never gets a tick", split(4, 4, 3), from, from+40, strings.Repeat("A", 40), api.OK)
		wantChart(t, "one that never gets a tick, first", []api.Server{server(4, 3, 0, 1), server(1, 1, 0, 2)}, from, from+40, strings.Repeat("B", 40), api.OK)
	}
	wantChart(t, "from its offset on", []api.Server{server(6, 6, 5, 1)}, 0, 12, ".....AAAAAAA", api.OK)
}

// Each partition has a letter of its own: the great ones, then the small ones.
func TestP27_5_AllLetters(t *testing.T) {
	t.Parallel()
	list := split(33, equal(32, 1)...)
	wantChart(t, "32 and nobody", list, 0, 33, "ABCDEFGHIJKLMNOPQRSTUVWXYZabcdef.", api.OK)
	wantChart(t, "32 and nobody", list, 33*7, 33*8, "ABCDEFGHIJKLMNOPQRSTUVWXYZabcdef.", api.OK)
	wantChart(t, "Z, a", list, 25, 27, "Za", api.OK)
	wantChart(t, "f, nobody, A", list, 31, 34, "f.A", api.OK)
	for i := range 32 {
		letter := string("ABCDEFGHIJKLMNOPQRSTUVWXYZabcdef"[i])
		wantChart(t, "one of 32", list, 330+i, 331+i, letter, api.OK)
		// The letter hangs on the partition's number, not on how many there are, nor on priorities.
		alone := split(40, equal(i+1, 1)...)
		alone[i] = server(40, 1, 39, 0)
		wantChart(t, "the last one", alone, 38, 40, "."+letter, api.OK)
	}
}

func TestP27_5_AsTheRuleIsPlayed(t *testing.T) {
	t.Parallel()
	forAll(150, func(m reading) {
		h := m.hyper
		for _, from := range []int{0, 1, h / 2, h - 1, h, h + 1, 2*h - 1, 3 * h, 1<<38 + 5, end - 2*h - 1} {
			for _, below := range []int{from, from + 1, from + h/2, from + h - 1, from + h, from + 2*h + 1} {
				wantChart(t, m.what, m.list, from, below, m.chart(from, below), api.OK)
			}
		}
	})
}

// A chart is a chart of its parts, one behind the other.
func TestP27_5_ByParts(t *testing.T) {
	t.Parallel()
	forAll(20, func(m reading) {
		whole, err := report.Chart(m.list, 3, 3+3*m.hyper)
		if err != api.OK {
			t.Fatal(m.list, err)
		}
		for cut := range 3*m.hyper + 1 {
			wantChart(t, m.what, m.list, 3, 3+cut, whole[:cut], api.OK)
			wantChart(t, m.what, m.list, 3+cut, 3+3*m.hyper, whole[cut:], api.OK)
		}
	})
}
