package report_test

import (
	"math/rand/v2"
	"testing"

	"bulkhead/api"
)

func TestP27_2_Examples(t *testing.T) {
	t.Parallel()
	wantShares(t, "A B", chapter(), []int{0, 400000, 600000}, api.OK)
	wantShares(t, "a third each", split(3, 1, 1, 1), []int{0, 333334, 333333, 333333}, api.OK)
	wantShares(t, "none", nil, []int{1000000}, api.OK)
	wantShares(t, "none", []api.Server{}, []int{1000000}, api.OK)
}

func TestP27_2_WithoutRemainders(t *testing.T) {
	t.Parallel()
	wantShares(t, "half", split(2, 1), []int{500000, 500000}, api.OK)
	wantShares(t, "one that has all", split(1, 1), []int{0, 1000000}, api.OK)
	wantShares(t, "one that has all", split(7, 7), []int{0, 1000000}, api.OK)
	wantShares(t, "one that has all, from its offset on", []api.Server{server(7, 7, 6, 1)}, []int{0, 1000000}, api.OK)
	wantShares(t, "one that never gets a tick", split(7, 7, 1), []int{0, 1000000, 0}, api.OK)
	wantShares(t, "one that never gets a tick", []api.Server{server(7, 1, 0, 1), server(1, 1, 0, 2)}, []int{0, 0, 1000000}, api.OK)
	wantShares(t, "only ahead of H", []api.Server{server(6, 6, 0, 1), server(3, 3, 2, 2)}, []int{0, 0, 1000000}, api.OK)
	wantShares(t, "nobody's only ahead of H", []api.Server{server(10, 10, 9, 1)}, []int{0, 1000000}, api.OK)
	wantShares(t, "a 64th each", split(64, equal(32, 1)...), append([]int{500000}, equal(32, 15625)...), api.OK)
	wantShares(t, "by tenths", split(10, 1, 2, 3), []int{400000, 100000, 200000, 300000}, api.OK)
	wantShares(t, "too much asked", split(10, 1, 2, 6, 9), []int{0, 100000, 200000, 600000, 100000}, api.OK)
	wantShares(t, "the least share that is one", []api.Server{server(1000000, 1, 0, 1)}, []int{999999, 1}, api.OK)
}

// What is left over goes to the greatest remainders.
func TestP27_2_Remainders(t *testing.T) {
	t.Parallel()
	// 2/3 leaves over 2, 1/3 leaves over 1.
	wantShares(t, "a third", split(3, 1), []int{666667, 333333}, api.OK)
	wantShares(t, "two thirds", split(3, 2), []int{333333, 666667}, api.OK)
	// A million sevenths leave over 1, so each has its count, and the greatest count gets the one that is left.
	wantShares(t, "sevenths", split(7, 1, 2, 3), []int{142857, 142857, 285714, 428572}, api.OK)
	wantShares(t, "sevenths, turned", split(7, 3, 2, 1), []int{142857, 428572, 285714, 142857}, api.OK)
	wantShares(t, "sevenths, in the middle", split(7, 1, 3, 2), []int{142857, 142857, 428572, 285714}, api.OK)
	wantShares(t, "sevenths, nobody's", split(7, 1, 1, 1), []int{571429, 142857, 142857, 142857}, api.OK)
	// A million elevenths leave over 1 too (90909 r 1).
	wantShares(t, "elevenths", split(11, 1, 5, 4), []int{90909, 90909, 454546, 363636}, api.OK)
	// A million ninths leave over 1: nothing is nobody's, so 1 5 3 leave over 1 5 3.
	wantShares(t, "ninths", split(9, 1, 5, 3), []int{0, 111111, 555556, 333333}, api.OK)
	// A million thirteenths leave over 1 (76923 r 1).
	wantShares(t, "thirteenths", split(13, 2, 1, 6, 3), []int{76923, 153846, 76923, 461539, 230769}, api.OK)
	// Of 17 (58823 r 9): counts 2 4 5 6 leave over 1 2 11 3: one is left, for 5.
	wantShares(t, "of 17", split(17, 4, 5, 6), []int{117647, 235294, 294118, 352941}, api.OK)
	// Of 19 (52631 r 11): counts 3 7 8 1 leave over 14 1 12 11: two are left, for 3 and 8.
	wantShares(t, "of 19", split(19, 7, 8, 1), []int{157895, 368421, 421053, 52631}, api.OK)
	// One tick of 2^20 is less than a millionth: 0.95; the others' part 999999.05.
	wantShares(t, "less than one", []api.Server{server(1<<20, 1, 0, 1)}, []int{999999, 1}, api.OK)
	wantShares(t, "less than one, turned", []api.Server{server(1<<20, 1<<20-1, 0, 1)}, []int{1, 999999}, api.OK)
	// 1 of 2^20 to one, 2^19 to another: 0.95, 500000, nobody's are 499999.05.
	wantShares(t, "less than one, and half", split(1<<20, 1, 1<<19), []int{499999, 1, 500000}, api.OK)
}

// Of equal remainders the first in the list come first, nobody ahead of all.
func TestP27_2_EqualRemainders(t *testing.T) {
	t.Parallel()
	wantShares(t, "sixths", split(6, equal(6, 1)...), []int{0, 166667, 166667, 166667, 166667, 166666, 166666}, api.OK)
	wantShares(t, "sixths, one nobody's", split(6, equal(5, 1)...), []int{166667, 166667, 166667, 166667, 166666, 166666}, api.OK)
	wantShares(t, "sevenths", split(7, equal(7, 1)...), []int{0, 142858, 142857, 142857, 142857, 142857, 142857, 142857}, api.OK)
	wantShares(t, "sevenths, one nobody's", split(7, equal(6, 1)...), []int{142858, 142857, 142857, 142857, 142857, 142857, 142857}, api.OK)
	wantShares(t, "ninths", split(9, 2, 2, 2, 1, 2), []int{0, 222223, 222222, 222222, 111111, 222222}, api.OK)
	wantShares(t, "ninths, the first is less", split(9, 1, 2, 2, 2, 2), []int{0, 111111, 222223, 222222, 222222, 222222}, api.OK)
	// Remainders are alike where counts are not: 1 and 4 of 6 leave over 4 each.
	wantShares(t, "of 6: 1 and 4", split(6, 1, 4), []int{166667, 166667, 666666}, api.OK)
	wantShares(t, "of 6: 4 and 1", split(6, 4, 1), []int{166667, 666667, 166666}, api.OK)
	// 33 of them are alike (16 of 48), 11 are left.
	wantShares(t, "48ths", split(48, equal(32, 1)...), append(append([]int{333334}, equal(10, 20834)...), equal(22, 20833)...), api.OK)
	// 32 alike (64 of 96), and nobody's 64 ticks leave over as much: 22 are left.
	wantShares(t, "96ths", split(96, equal(32, 1)...), append(append([]int{666667}, equal(21, 10417)...), equal(11, 10416)...), api.OK)
	// The order is that of the list, not of the priorities.
	turned := split(3, 1, 1, 1)
	turned[0].Priority, turned[2].Priority = 1, 255
	wantShares(t, "thirds, turned", turned, []int{0, 333334, 333333, 333333}, api.OK)
}

// A million 101sts leave over 100: so all but one that have ticks get one more.
func TestP27_2_AsManyLeftOverAsPartitions(t *testing.T) {
	t.Parallel()
	wantShares(t, "one", split(101, 1), []int{990099, 9901}, api.OK)
	wantShares(t, "one, turned", split(101, 100), []int{9901, 990099}, api.OK)
	wantShares(t, "one, of a third", split(3, 1), []int{666667, 333333}, api.OK)
	// Counts 1 60 40 leave over 100 41 61.
	wantShares(t, "two", split(101, 60, 40), []int{9901, 594059, 396040}, api.OK)
	wantShares(t, "two, and nobody's are the most", split(101, 1, 40), []int{594059, 9901, 396040}, api.OK)
	// Counts 99 1 1 leave over 2 100 100.
	wantShares(t, "two of one tick", split(101, 1, 1), []int{980198, 9901, 9901}, api.OK)
	wantShares(t, "two, nothing nobody's", split(101, 50, 51), []int{0, 495050, 504950}, api.OK)
	wantShares(t, "32 of one tick", split(101, equal(32, 1)...), append([]int{683168}, equal(32, 9901)...), api.OK)
	// 31 of 3 ticks (29702 r 98), one of 7 (69306 r 94), one tick nobody's (9900 r 100): the one of 7 alone gets none more.
	wantShares(t, "32, the last is short", split(101, append(equal(31, 3), 7)...), append(append([]int{9901}, equal(31, 29703)...), 69306), api.OK)
	wantShares(t, "32, the first is short", split(101, append([]int{7}, equal(31, 3)...)...), append([]int{9901, 69306}, equal(31, 29703)...), api.OK)
}

func TestP27_2_ServersThatMayNotBe(t *testing.T) {
	t.Parallel()
	for what, row := range refused() {
		wantShares(t, what, row.list, nil, row.err)
	}
}

func TestP27_2_AsTheRuleIsPlayed(t *testing.T) {
	t.Parallel()
	forAll(400, func(m reading) {
		wantShares(t, m.what, m.list, m.shares(), api.OK)
	})
	r := rand.New(rand.NewPCG(27, 22))
	for range 300 {
		m := read("by chance", shared(r, 3000))
		wantShares(t, m.what, m.list, m.shares(), api.OK)
	}
}
