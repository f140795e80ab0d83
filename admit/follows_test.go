package admit_test

import (
	"math/rand/v2"
	"slices"
	"sync"
	"testing"

	"bulkhead/admit"
	"bulkhead/api"
	"bulkhead/occ"
)

// The answers of calls that must be taken.
func admitted(t *testing.T, list []api.Server) bool {
	t.Helper()
	got, err := admit.Admit(list)
	if err != api.OK {
		t.Fatalf("%v: Admit: %d", list, err)
	}
	return got
}

func least(t *testing.T, list []api.Server, part, length int) int {
	t.Helper()
	got, err := admit.Least(list, part, length)
	if err != api.OK {
		t.Fatalf("%v: Least(%d, %d): %d", list, part, length, err)
	}
	return got
}

func supply(t *testing.T, list []api.Server, part, from, below int) int {
	t.Helper()
	got, err := occ.Supply(list, part, from, below)
	if err != api.OK {
		t.Fatalf("%v: Supply(%d, %d, %d): %d", list, part, from, below, err)
	}
	return got
}

// What the windows ahead of the greatest Offset plus 2 H tell holds of all that were played, and of far ones.
func TestP14_7_AShortLookIsEnough(t *testing.T) {
	r := rand.New(rand.NewPCG(4, 40))
	forAll(400, 120, func(m reading) {
		part, from, lost := m.firstLoss(m.shortLook())
		if p, f, l := m.firstLoss(4 * m.hyper); p != part || f != from || l != lost {
			t.Fatalf("%s %v: by a long look %d, %d, %v, by a short one %d, %d, %v", m.what, m.list, p, f, l, part, from, lost)
		}
		if admitted(t, m.list) != !lost {
			t.Fatalf("%s %v: Admit = %v, lost: %v", m.what, m.list, lost, lost)
		}
		if lost {
			return
		}
		for i, s := range m.list {
			last := (end-s.Offset)/s.Period - 1
			for _, number := range []int{0, 1, last / 2, r.IntN(last), last - 1, last} {
				begin := s.Offset + number*s.Period
				if got := supply(t, m.list, i+1, begin, begin+s.Period); got != s.Budget {
					t.Fatalf("%s %v: admitted, but partition %d has %d ticks from %d on", m.what, m.list, i+1, got, begin)
				}
			}
		}
	})
}

// What FirstLoss tells is a window that is not full, and none is ahead of it.
func TestP14_7_AdmitAndFirstLossAgree(t *testing.T) {
	forAll(400, 120, func(m reading) {
		part, from, lost := admit.FirstLoss(m.list)
		if lost == admitted(t, m.list) {
			t.Fatalf("%s %v: admitted, and a loss: %v", m.what, m.list, lost)
		}
		if !lost {
			return
		}
		s := m.list[part-1]
		if from < s.Offset || (from-s.Offset)%s.Period != 0 || from >= 2*m.hyper {
			t.Fatalf("%s %v: no window of server %d begins at %d", m.what, m.list, part, from)
		}
		if got := supply(t, m.list, part, from, from+s.Period); got >= s.Budget {
			t.Fatalf("%s %v: the window from %d on has %d ticks", m.what, m.list, from, got)
		}
		for i, other := range m.list {
			for begin := other.Offset; begin < from || begin == from && i+1 < part; begin += other.Period {
				if got := supply(t, m.list, i+1, begin, begin+other.Period); got != other.Budget {
					t.Fatalf("%s %v: server %d has a loss from %d on, ahead of %d, %d", m.what, m.list, i+1, begin, part, from)
				}
			}
		}
	})
}

func TestP14_7_Supply(t *testing.T) {
	r := rand.New(rand.NewPCG(5, 50))
	yes := 0
	forAll(800, 120, func(m reading) {
		if !admitted(t, m.list) {
			return
		}
		yes++
		load, hyper, err := admit.Load(m.list)
		if load > hyper || hyper != m.hyper || err != api.OK {
			t.Fatalf("%s %v: admitted, Load = %d, %d, %d", m.what, m.list, load, hyper, err)
		}
		sum := 0
		for i, s := range m.list {
			want := s.Budget * m.hyper / s.Period
			sum += want
			for from := m.hyper; from <= 3*m.hyper; from++ {
				if got := m.supply(i+1, from, from+m.hyper); got != want {
					t.Fatalf("%s %v: partition %d has %d ticks of H from %d on, want %d", m.what, m.list, i+1, got, from, want)
				}
			}
			far := m.hyper + r.IntN(end-2*m.hyper)
			if got := supply(t, m.list, i+1, far, far+m.hyper); got != want {
				t.Fatalf("%s %v: partition %d has %d ticks of H from %d on, want %d", m.what, m.list, i+1, got, far, want)
			}
			if got := least(t, m.list, i+1, m.hyper); got != want {
				t.Fatalf("%s %v: Least(%d, H) = %d, want %d", m.what, m.list, i+1, got, want)
			}
		}
		if sum != load {
			t.Fatalf("%s %v: all have %d ticks of H, Load = %d", m.what, m.list, sum, load)
		}
	})
	if yes < 200 {
		t.Errorf("only %d are admitted: that is too few to tell", yes)
	}
}

func TestP14_7_LeastRisesWithTheLength(t *testing.T) {
	forAll(100, 60, func(m reading) {
		for part := 1; part <= len(m.list); part++ {
			before := 0
			for length := range 3*m.hyper + 2 {
				got := least(t, m.list, part, length)
				if got < before || got > before+1 || got > length {
					t.Fatalf("%s %v: Least(%d, %d) = %d, of one tick less %d", m.what, m.list, part, length, got, before)
				}
				before = got
			}
			if got := least(t, m.list, part, mostLength); got < before || got > mostLength {
				t.Fatalf("%s %v: Least(%d, %d) = %d", m.what, m.list, part, mostLength, got)
			}
		}
	})
}

func TestP14_7_OneTickInBlackoutAndOneMore(t *testing.T) {
	r := rand.New(rand.NewPCG(6, 60))
	forAll(300, 120, func(m reading) {
		for part := 1; part <= len(m.list); part++ {
			dark, err := admit.Blackout(m.list, part)
			if err != api.OK {
				t.Fatalf("%s %v: Blackout(%d): %d", m.what, m.list, part, err)
			}
			if dark == api.Never {
				if least(t, m.list, part, mostLength) != 0 || supply(t, m.list, part, m.hyper, end) != 0 {
					t.Fatalf("%s %v: partition %d has a tick", m.what, m.list, part)
				}
				continue
			}
			if least(t, m.list, part, dark) != 0 || least(t, m.list, part, dark+1) != 1 {
				t.Fatalf("%s %v: Blackout(%d) = %d, Least of it %d, of one more %d", m.what, m.list, part, dark, least(t, m.list, part, dark), least(t, m.list, part, dark+1))
			}
			for from := m.hyper; from <= 2*m.hyper; from++ {
				if m.supply(part, from, from+dark+1) == 0 {
					t.Fatalf("%s %v: Blackout(%d) = %d, and none from %d on", m.what, m.list, part, dark, from)
				}
			}
			far := m.hyper + r.IntN(end-3*m.hyper)
			if supply(t, m.list, part, far, far+dark+1) == 0 {
				t.Fatalf("%s %v: Blackout(%d) = %d, and none from %d on", m.what, m.list, part, dark, far)
			}
		}
	})
}

func TestP14_7_TheGreatestPriorityIsNeverInALoss(t *testing.T) {
	forAll(800, 120, func(m reading) {
		if len(m.list) == 0 {
			return
		}
		greatest := 0
		for i, s := range m.list {
			if s.Priority > m.list[greatest].Priority {
				greatest = i
			}
		}
		if part, from, lost := admit.FirstLoss(m.list); lost && part == greatest+1 {
			t.Fatalf("%s %v: server %d in a loss from %d on", m.what, m.list, part, from)
		}
		wantAdmit(t, m.what, m.list[greatest:greatest+1], true, api.OK)
		s := m.list[greatest]
		if got := least(t, m.list, greatest+1, m.hyper); got != s.Budget*m.hyper/s.Period {
			t.Fatalf("%s %v: of H ticks server %d has %d", m.what, m.list, greatest+1, got)
		}
	})
}

// answers are those of all calls, as numbers.
func answers(list []api.Server) []int {
	yes, err := admit.Admit(list)
	part, from, lost := admit.FirstLoss(list)
	sum, hyper, err2 := admit.Load(list)
	out := []int{int(err), part, from, sum, hyper, int(err2)}
	for _, is := range []bool{yes, lost} {
		if is {
			out = append(out, 1)
		} else {
			out = append(out, 0)
		}
	}
	for part := range len(list) + 2 {
		dark, err := admit.Blackout(list, part)
		out = append(out, dark, int(err))
		for _, length := range []int{-1, 0, 7, mostLength, mostLength + 1} {
			ticks, err := admit.Least(list, part, length)
			out = append(out, ticks, int(err))
		}
	}
	return out
}

func TestRulesTheSameAnswersAgain(t *testing.T) {
	for what, list := range families() {
		want := answers(list)
		for range 20 {
			if got := answers(list); !slices.Equal(got, want) {
				t.Fatalf("%s: %v, then %v", what, want, got)
			}
		}
	}
}

func TestRulesTheSameAnswersFromManyGoroutines(t *testing.T) {
	lists := families()
	want := map[string][]int{}
	for what, list := range lists {
		want[what] = answers(list)
	}
	var asked sync.WaitGroup
	for range 16 {
		asked.Go(func() {
			for what, list := range lists {
				if got := answers(list); !slices.Equal(got, want[what]) {
					t.Errorf("%s: %v, want %v", what, got, want[what])
				}
			}
		})
	}
	asked.Wait()
}

func TestRulesServersAreLeftAsTheyAre(t *testing.T) {
	for what, list := range families() {
		room := append(slices.Clone(list), server(3, 2, 1, 77), server(-1, top, bottom, 5))
		before := slices.Clone(room)
		answers(room[:len(list)])
		if !slices.Equal(room, before) {
			t.Errorf("%s: changed to %v", what, room)
		}
	}
	wrong := []api.Server{server(3, 2, 1, 77), server(0, 0, 0, 0), server(1<<20, 1, 0, 77)}
	before := slices.Clone(wrong)
	answers(wrong)
	answers(wrong[:1])
	if !slices.Equal(wrong, before) {
		t.Errorf("changed to %v", wrong)
	}
}

// What lies behind a list is not looked at, and what is called later hangs on its own list alone.
func TestRulesServersAreNotKept(t *testing.T) {
	list := append(chapter(), server(1, 1, 0, 200))
	want := answers(chapter())
	if got := answers(list[:2]); !slices.Equal(got, want) {
		t.Errorf("with spare room %v, want %v", got, want)
	}
	list[0] = server(10, 10, 0, 255)
	answers(list)
	if got := answers(chapter()); !slices.Equal(got, want) {
		t.Errorf("asked again %v, want %v", got, want)
	}
}

func TestRulesNoListIsAnEmptyOne(t *testing.T) {
	want := answers(nil)
	for _, list := range [][]api.Server{{}, chapter()[:0]} {
		if got := answers(list); !slices.Equal(got, want) {
			t.Errorf("%v, want %v", got, want)
		}
		wantAdmit(t, "empty", list, true, api.OK)
		wantLoss(t, "empty", list, 0, 0, false)
		wantLoad(t, "empty", list, 0, 1, api.OK)
		wantBlackout(t, "empty", list, 1, 0, api.ErrPart)
		wantLeast(t, "empty", list, 1, 0, 0, api.ErrPart)
	}
}
