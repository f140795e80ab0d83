package report_test

import (
	"testing"

	"bulkhead/api"
)

func TestP27_1_Examples(t *testing.T) {
	t.Parallel()
	wantUsed(t, "A B", chapter(), 0, 10, []int{1, 3, 6}, api.OK)
	wantUsed(t, "A B", chapter(), 10, 20, []int{0, 4, 6}, api.OK)
	wantUsed(t, "A B", chapter(), 3, 3, []int{0, 0, 0}, api.OK)
	wantUsed(t, "A B", chapter(), 3, 2, nil, api.ErrArg)
}

// Ticks 0 to 9 are BBBBAABB.A, each turn behind them is ABBBAABBBA.
func TestP27_1_Spans(t *testing.T) {
	t.Parallel()
	for _, row := range []struct {
		from, below int
		want        []int
	}{
		{0, 0, []int{0, 0, 0}},
		{0, 1, []int{0, 0, 1}},
		{0, 4, []int{0, 0, 4}},
		{3, 5, []int{0, 1, 1}},
		{4, 6, []int{0, 2, 0}},
		{8, 9, []int{1, 0, 0}},
		{7, 10, []int{1, 1, 1}},
		{8, 11, []int{1, 2, 0}},
		{9, 12, []int{0, 2, 1}},
		{8, 19, []int{1, 4, 6}},
		{18, 19, []int{0, 0, 1}},
		{10, 10, []int{0, 0, 0}},
		{0, 20, []int{1, 7, 12}},
		{5, 35, []int{1, 12, 17}},
		{1000000000, 1000000000, []int{0, 0, 0}},
		{1000000000, 1000000001, []int{0, 1, 0}},
		{1000000003, 1000000009, []int{0, 2, 4}},
		{0, 1000000000, []int{1, 399999999, 600000000}},
		{10, 1000000000, []int{0, 399999996, 599999994}},
		// The last turn is cut off behind ABBBAA.
		{end - 6, end, []int{0, 3, 3}},
		{end - 1, end, []int{0, 1, 0}},
		{end - 16, end, []int{0, 7, 9}},
		{end, end, []int{0, 0, 0}},
		{0, end, []int{1, 439804651110, 659706976665}},
		{1, end, []int{1, 439804651110, 659706976664}},
	} {
		wantUsed(t, "A B", chapter(), row.from, row.below, row.want, api.OK)
	}
}

func TestP27_1_SpansThatMayNotBe(t *testing.T) {
	t.Parallel()
	for what, list := range families() {
		for _, span := range [][2]int{{1, 0}, {3, 2}, {1000, 10}, {end, end - 1}, {end, 0}, {-1, -1}, {-1, 0}, {-1, 5}, {-5, end}, {0, -1}, {0, end + 1}, {end - 5, end + 1}, {end, end + 1}, {end + 1, end + 1}, {end + 2, end + 1}, {end + 1, end}, {bottom, top}, {top, bottom}, {bottom, bottom}, {top, top}, {0, top}, {bottom, 0}, {1, bottom}} {
			wantUsed(t, what, list, span[0], span[1], nil, api.ErrArg)
		}
	}
}

// The servers' error is told ahead of that of the span.
func TestP27_1_ServersThatMayNotBe(t *testing.T) {
	t.Parallel()
	for what, row := range refused() {
		for _, span := range [][2]int{{0, 0}, {0, 10}, {3, 2}, {-1, 2}, {0, end}, {0, end + 1}, {bottom, top}} {
			wantUsed(t, what, row.list, span[0], span[1], nil, row.err)
		}
	}
}

func TestP27_1_NoServersOneAndMost(t *testing.T) {
	t.Parallel()
	for _, span := range [][2]int{{0, 0}, {0, 1}, {0, 7}, {5, 9}, {1, end}, {0, end}, {end - 3, end}} {
		ticks := span[1] - span[0]
		wantUsed(t, "none", nil, span[0], span[1], []int{ticks}, api.OK)
		wantUsed(t, "one that has all", split(1, 1), span[0], span[1], []int{0, ticks}, api.OK)
		wantUsed(t, "one that has all", split(7, 7), span[0], span[1], []int{0, ticks}, api.OK)
		wantUsed(t, "one that never gets a tick", split(4, 4, 3), span[0], span[1], []int{0, ticks, 0}, api.OK)
		wantUsed(t, "one that never gets a tick", []api.Server{server(4, 3, 0, 1), server(1, 1, 0, 2), server(2, 1, 1, 0)}, span[0], span[1], []int{0, 0, ticks, 0}, api.OK)
	}
	wantUsed(t, "all from its offset on", []api.Server{server(6, 6, 5, 1)}, 0, 20, []int{5, 15}, api.OK)
	wantUsed(t, "one tick in the longest period", []api.Server{server(1<<20, 1, 1<<20-1, 1)}, 0, end, []int{1<<40 - 1<<20, 1 << 20}, api.OK)
	wantUsed(t, "32", split(64, equal(32, 1)...), 0, 64, append([]int{32}, equal(32, 1)...), api.OK)
	wantUsed(t, "32", split(64, equal(32, 1)...), 64, 64+20, append(append([]int{0}, equal(20, 1)...), equal(12, 0)...), api.OK)
	wantUsed(t, "32", split(64, equal(32, 2)...), 1, end, append([]int{0, 1<<35 - 1}, equal(31, 1<<35)...), api.OK)
	// Of two at one tick the greater priority goes first, wherever it stands.
	wantUsed(t, "by priority", []api.Server{server(9, 2, 0, 4), server(9, 3, 0, 5)}, 0, 4, []int{0, 1, 3}, api.OK)
	wantUsed(t, "by priority", []api.Server{server(9, 2, 0, 5), server(9, 3, 0, 4)}, 0, 4, []int{0, 2, 2}, api.OK)
}

// Spans ahead of the hyperperiod, across it and far behind it, held against the second reading.
func TestP27_1_AsTheRuleIsPlayed(t *testing.T) {
	t.Parallel()
	forAll(150, func(m reading) {
		h := m.hyper
		for _, from := range []int{0, 1, h / 2, h - 1, h, h + 1, 2*h - 1, 3 * h, 1<<38 + 5, end - 2*h - 1} {
			for _, below := range []int{from, from + 1, from + h/2, from + h - 1, from + h, from + 2*h + 1, end - 1, end} {
				wantUsed(t, m.what, m.list, from, below, m.used(from, below), api.OK)
			}
		}
	})
}
