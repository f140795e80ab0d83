package age_test

import (
	"fmt"
	"math/rand/v2"
	"slices"
	"strings"
	"testing"

	"bulkhead/age"
	"bulkhead/api"
	"bulkhead/check"
)

// reader is a process that does READ by port 2 in every second tick that its partition occupies; from the second of these ticks on, or so many later.
func reader(later int) deed {
	return auto(1, strings.Repeat("nop\n", later)+"top: "+strings.Repeat("ldi r1 2\nsys 16\n", 100)+"jmp top")
}

// sampled is an image of a writer and a reader of a sampling channel; without writer the channel comes from the outside.
func sampled(t *testing.T, refresh int, readers api.Part, writers ...api.Part) api.Image {
	t.Helper()
	x := api.Image{
		Parts:    append([]api.Part{readers}, writers...),
		Ports:    []api.Port{{Part: len(writers) + 1, Out: true, Size: 1}, {Part: 1, Size: 1, Refresh: refresh}},
		Channels: []api.Channel{{Kind: api.Sampling, From: min(len(writers), 1), To: []int{2}}},
	}
	if err, number := check.Check(x); err != api.OK {
		t.Fatal(err, number)
	}
	return x
}

// reading is a READ: its tick, the age that it told, how it was answered.
type reading struct {
	tick, age int
	result    int64
}

// readings are a record's READs that told a sample.
func (r record) readings() []reading {
	var list []reading
	for tick := range r.events {
		for _, e := range r.calls(tick, 1, api.CallRead) {
			if e.B == api.ResOK || e.B == api.ResStale {
				list = append(list, reading{tick, int(r.states[tick+1][0].Procs[e.Proc-1].Regs[1]), e.B})
			}
		}
	}
	return list
}

// writer is a partition that does a WRITE in one tick of each N, from the second on, and nothing else.
func writer(t *testing.T, turn int) api.Part {
	t.Helper()
	return housed(t, api.Server{Period: turn, Budget: 1, Priority: 9}, auto(1, "ldi r1 1\ntop: "+strings.Repeat("sys 15\n", 200)+"jmp top"))
}

// fresh wants of a record in which there is a message at N, 2 N, .. that each READ tells the age, and is stale just if Refresh is below that; so never if it is N - 1 or more. It answers the greatest age.
func fresh(t *testing.T, r record, turn int) int {
	t.Helper()
	seen := map[string]int{}
	r.looks(t, seen)
	oldest, err := age.Oldest(r.x, 1, turn)
	if err != api.OK || oldest != turn-1 {
		t.Errorf("P26.5: Oldest(1, %d) = %d, %d", turn, oldest, err)
	}
	refresh, most, stale := r.x.Ports[1].Refresh, 0, 0
	list := r.readings()
	for _, one := range list {
		most = max(most, one.age)
		if one.age != one.tick%turn || one.age > oldest || (one.result == api.ResStale) != (one.age > refresh) {
			t.Errorf("P26.6: %s: %+v", r.what, one)
		}
		if one.result == api.ResStale {
			stale++
		}
	}
	if len(list) < 20 || refresh >= oldest && stale > 0 || refresh < most && stale == 0 || seen["read stale"] != stale || seen["read"] != len(list) {
		t.Errorf("P26.6: %s: %d of %d stale, Refresh is %d, the age at most %d", r.what, stale, len(list), refresh, oldest)
	}
	return most
}

// A sample that is written in one tick of each N is N - 1 ticks old at most, and just that old at a READ in the tick ahead of the next one.
func TestP26_6_AnAgeThatIsMet(t *testing.T) {
	t.Parallel()
	for _, turn := range []int{2, 3, 4, 5, 8, 13, 30} {
		for _, refresh := range []int{0, 1, turn - 2, turn - 1, turn, 1000} {
			for _, how := range []int{api.Online, api.ByTable} {
				most := 0
				for later := range 2 {
					x := sampled(t, refresh, housed(t, whole(1), reader(later)), writer(t, turn))
					r := watched(t, fmt.Sprintf("written once in %d, Refresh %d", turn, refresh), x, nil, how, 30*turn+60)
					most = max(most, fresh(t, r, turn))
				}
				if most != turn-1 {
					t.Errorf("P26.6: written once in %d: the greatest age is %d", turn, most)
				}
			}
		}
	}
}

// The same from the outside: a message that comes in the tick of the READ is 0 ticks old.
func TestP26_6_AnAgeFromTheOutside(t *testing.T) {
	t.Parallel()
	for _, turn := range []int{1, 2, 3, 4, 5, 8, 13} {
		for _, refresh := range []int{0, turn - 1, turn} {
			most := 0
			for later := range 2 {
				x := sampled(t, refresh, housed(t, whole(1), reader(later)))
				var inputs []api.Input
				for tick := turn; tick < 40*turn+40; tick += turn {
					inputs = append(inputs, api.Input{Tick: tick, Kind: api.InputMessage, Target: 1, Data: []int64{int64(tick)}})
				}
				r := watched(t, fmt.Sprintf("a message once in %d, Refresh %d", turn, refresh), x, inputs, api.Online, 40*turn+40)
				most = max(most, fresh(t, r, turn))
			}
			if most != turn-1 {
				t.Errorf("P26.6: a message once in %d: the greatest age is %d", turn, most)
			}
		}
	}
}

// Messages that come at gaps by chance: as long as no gap is longer than N, no READ tells more than Oldest(N), and none is STALE if Refresh is that.
func TestP26_6_AnyGaps(t *testing.T) {
	t.Parallel()
	met := 0
	for seed := range uint64(60) {
		r := rand.New(rand.NewPCG(626, seed))
		most := 1 + r.IntN(12)
		x := sampled(t, most-1, housed(t, api.Server{Period: 5, Budget: 1 + r.IntN(5), Priority: 1}, reader(0)))
		var inputs []api.Input
		for tick := r.IntN(20); tick < 400; tick += 1 + r.IntN(most) {
			inputs = append(inputs, api.Input{Tick: tick, Kind: api.InputMessage, Target: 1, Data: []int64{int64(tick)}})
		}
		one := watched(t, fmt.Sprintf("seed %d", seed), x, inputs, api.Online, 400)
		one.looks(t, map[string]int{})
		oldest, err := age.Oldest(x, 1, most)
		if err != api.OK {
			t.Fatal(err)
		}
		for _, got := range one.readings() {
			if got.age > oldest || got.result != api.ResOK {
				t.Errorf("P26.6: seed %d: gaps of %d at most: %+v", seed, most, got)
			}
			if got.age == oldest {
				met++
			}
		}
	}
	if met < 100 {
		t.Errorf("the greatest age was met %d times", met)
	}
}

// A gap that is one longer: in its last tick the READ is one tick older than Oldest, and STALE where that is Refresh.
func TestP26_6_AGapThatIsLonger(t *testing.T) {
	t.Parallel()
	x := sampled(t, 7, housed(t, whole(1), auto(1, "sys 3\ntop: ldi r1 2\nsys 16\njmp top")))
	var inputs []api.Input
	for _, tick := range []int{8, 16, 24, 33, 41} {
		inputs = append(inputs, api.Input{Tick: tick, Kind: api.InputMessage, Target: 1, Data: []int64{int64(tick)}})
	}
	r := watched(t, "a gap of 9 among those of 8", x, inputs, api.Online, 45)
	r.looks(t, map[string]int{})
	// Its READs are in the ticks 2, 5, 8, ..
	want := []reading{{8, 0, 0}, {11, 3, 0}, {14, 6, 0}, {17, 1, 0}, {20, 4, 0}, {23, 7, 0}, {26, 2, 0}, {29, 5, 0}, {32, 8, api.ResStale}, {35, 2, 0}, {38, 5, 0}, {41, 0, 0}, {44, 3, 0}}
	if got := r.readings(); !slices.Equal(got, want) {
		t.Errorf("P26.6: %v, want %v", got, want)
	}
}

// Ahead of the first message there is nothing to be read, and behind a boot anew of the reader either, until the next message comes.
func TestP26_6_AReaderBootedAnew(t *testing.T) {
	t.Parallel()
	for what, c := range map[string]struct {
		wake  int
		empty []int // the ticks of READs that are told EMPTY
	}{
		"by an input":           {26, []int{2, 5, 28, 31}},
		"ahead of a message":    {31, []int{2, 5}},
		"in a message's tick":   {32, []int{2, 5, 34, 37}},
		"just behind a message": {33, []int{2, 5, 35, 38}},
	} {
		x := sampled(t, 7, housed(t, whole(1), auto(1, "sys 3\ntop: ldi r1 2\nsys 16\njmp top")))
		var inputs []api.Input
		for tick := range 60 {
			// In one tick the message comes ahead of the waking.
			if tick >= 8 && tick%8 == 0 {
				inputs = append(inputs, api.Input{Tick: tick, Kind: api.InputMessage, Target: 1, Data: []int64{int64(tick)}})
			}
			if tick == c.wake {
				inputs = append(inputs, api.Input{Tick: tick, Kind: api.InputWake, Target: 1})
			}
		}
		r := watched(t, what, x, inputs, api.Online, 60)
		r.looks(t, map[string]int{})
		var empty []int
		for tick := range r.events {
			for _, e := range r.calls(tick, 1, api.CallRead) {
				if e.B == api.ResEmpty {
					empty = append(empty, tick)
				}
			}
		}
		if !slices.Equal(empty, c.empty) {
			t.Errorf("P26.6: %s: nothing to be read at %v, want %v", what, empty, c.empty)
		}
		for _, one := range r.readings() {
			if one.age > 7 || one.result != api.ResOK {
				t.Errorf("P26.6: %s: %+v", what, one)
			}
		}
	}
}

// A writer that writes to several ports, its own too: each READ is told the age; none of what it writes elsewhere counts.
func TestP26_6_OtherChannelsCountForNothing(t *testing.T) {
	t.Parallel()
	x := sampled(t, 100, housed(t, whole(1), reader(0)), housed(t, api.Server{Period: 6, Budget: 4, Priority: 9}, auto(1, strings.Repeat("ldi r1 1\nsys 15\nldi r1 3\nsys 15\n"+strings.Repeat("ldi r1 4\nsys 15\n", 4), 20))))
	x.Ports = append(x.Ports, api.Port{Part: 2, Out: true, Size: 1}, api.Port{Part: 2, Out: true, Size: 1}, api.Port{Part: 1, Size: 1}, api.Port{Part: 2, Size: 1})
	x.Channels = append(x.Channels, api.Channel{Kind: api.Sampling, From: 3, To: []int{5, 6}})
	r := watched(t, "several ports", x, nil, api.Online, 200)
	seen := map[string]int{}
	r.looks(t, seen)
	// It writes to port 1 once in three windows: at 1, 19, 37, ..
	for _, one := range r.readings() {
		if one.age != (one.tick-1)%18 {
			t.Errorf("P26.6: %+v", one)
		}
	}
	if oldest, err := age.Oldest(x, 1, 18); oldest != 17 || err != api.OK || seen["read, as old as may be"] == 0 {
		t.Errorf("P26.5: %d, %d; %v", oldest, err, seen)
	}
}

// The greatest age of all: written at 0, read in the last tick.
func TestP26_6_TheGreatestAge(t *testing.T) {
	t.Parallel()
	for _, refresh := range []int{api.MaxTick - 1, api.MaxTick - 2, api.MaxTick - 3} {
		p := housed(t, whole(1), auto(1, "ld r1 r0 0\nsys 2\nldi r1 2\nsys 16\nldi r1 2\nsys 16\nsys 4"))
		p.Init = []int64{api.MaxTick - 5}
		x := sampled(t, refresh, p)
		k := booted(t, x, []api.Input{{Kind: api.InputMessage, Target: 1, Data: []int64{5}}}, api.Online)
		runs(t, k, api.MaxTick)
		state, _ := k.Part(1)
		oldest, err := age.Oldest(x, 1, api.MaxTick)
		// The DELAY is done at 1, so that the second READ is in the last tick.
		if told := int(state.Procs[0].Regs[1]); err != api.OK || told != oldest || oldest != api.MaxTick-1 {
			t.Errorf("P26.6: Refresh %d: the age is %d, Oldest %d, %d", refresh, told, oldest, err)
		}
		want := int64(api.ResOK)
		if refresh < oldest {
			want = api.ResStale
		}
		if got := state.Procs[0].Regs[0]; got != want {
			t.Errorf("P26.6: Refresh %d: it is answered %d, want %d", refresh, got, want)
		}
	}
}
