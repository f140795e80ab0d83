package age_test

import (
	"fmt"
	"slices"
	"strings"
	"testing"

	"bulkhead/age"
	"bulkhead/api"
	"bulkhead/check"
)

// flood is a process that sends by port 1 whenever there is room.
func flood() deed { return auto(1, "ldi r3 -1\nldi r1 1\ntop: "+quickSends(100)+"jmp top") }

// emptied is an image whose partition 2 empties two queues by RECEIVE, the first one of Depth room, the second one of Depth room - 1, once in room Periods of 20 ticks.
// It occupies the ticks from 1 on in each window of so many: 1 and one RECEIVE for each message, for both ports, and a jump. The channel's ticks are 20, 40, ..; nothing has been sent at 0.
func emptied(t *testing.T, room int) api.Image {
	t.Helper()
	const period = 20
	receives := strings.Repeat("sys 18\n", room)
	p := housed(t, api.Server{Period: room * period, Budget: 2*room + 3, Offset: 1, Priority: 9}, auto(1, "top: ldi r1 2\n"+receives+"ldi r1 3\n"+receives+"jmp top"))
	x := api.Image{
		Parts:    []api.Part{housed(t, whole(1), flood()), p},
		Ports:    []api.Port{queue(1, true, 64), queue(2, false, room), queue(2, false, room-1)},
		Channels: []api.Channel{{Kind: api.Queuing, From: 1, To: []int{2, 3}, Period: period}},
	}
	if err, number := check.Check(x); err != api.OK {
		t.Fatal(err, number)
	}
	return x
}

// lossesBehind counts the messages that a port has lost in a record's ticks, up to one.
func (r record) lossesBehind(tick, port int) int {
	n := 0
	for i := range tick + 1 {
		if r.has(i, r.x.Ports[port-1].Part, api.EventLost, port) {
			n++
		}
	}
	return n
}

// Of two queues that are emptied once in N ticks the one that Safe speaks for gets just full, and loses none; the one with room for one less loses one in each N ticks.
func TestP26_6_W7_OneLess(t *testing.T) {
	t.Parallel()
	for room := 2; room <= 7; room++ {
		x := emptied(t, room)
		turn := 20 * room
		alone, less := x, x
		alone.Channels, less.Channels = slices.Clone(x.Channels), slices.Clone(x.Channels)
		alone.Channels[0].To, less.Channels[0].To = []int{2}, []int{3}
		safeAt(t, "with room", alone, 1, turn, true, api.OK)
		safeAt(t, "with room, one tick more", alone, 1, turn+1, false, api.OK)
		safeAt(t, "with less room", less, 1, turn, false, api.OK)
		safeAt(t, "with less room, so often", less, 1, turn-20, true, api.OK)
		safeAt(t, "both", x, 1, turn, false, api.OK)
		for _, how := range []int{api.Online, api.ByTable} {
			r := watched(t, fmt.Sprintf("room for %d", room), x, nil, how, 4*turn)
			seen := map[string]int{}
			r.looks(t, seen)
			if seen["a safe port, one message more"] != 1 || seen["a port that has lost some"] != 1 {
				t.Errorf("P26.6: %s: %v", r.what, seen)
			}
			for tick := range 4 * turn {
				ports := r.states[tick+1][1].Ports
				// The messages of a turn come at its end: at 20, 40, .. turn; each that finds no room comes in its last tick.
				if ports[1].Lost != 0 || ports[2].Lost != tick/turn || r.lossesBehind(tick, 3) != tick/turn {
					t.Fatalf("P26.6: %s: behind %d port 2 has lost %d, port 3 %d, want 0 and %d", r.what, tick, ports[1].Lost, ports[2].Lost, tick/turn)
				}
			}
		}
	}
}

// A queue of one message that is emptied once in N ticks, N from 1 to twice the channel's Period, in each tick of the N: it loses some just if its empty ticks lie too far apart for Safe.
func TestP26_6_OneMessage(t *testing.T) {
	t.Parallel()
	const period = 6
	safe, lost := 0, 0
	for turn := 2; turn <= 2*period; turn++ {
		for offset := range turn {
			// One RECEIVE in each turn, all of them in one tick of it.
			receiver := housed(t, api.Server{Period: turn, Budget: 1, Offset: offset, Priority: 9}, auto(1, "ldi r1 2\ntop: "+strings.Repeat("sys 18\n", 200)+"jmp top"))
			x := api.Image{
				Parts:    []api.Part{housed(t, whole(1), flood()), receiver},
				Ports:    []api.Port{queue(1, true, 3), queue(2, false, 1)},
				Channels: []api.Channel{{Kind: api.Queuing, From: 1, To: []int{2}, Period: period, Phase: 1}},
			}
			r := watched(t, fmt.Sprintf("emptied once in %d, from %d on", turn, offset), x, nil, api.Online, 30*turn)
			r.looks(t, map[string]int{})
			// The RECEIVEs begin in the second turn, at the latest with the third message's tick; from then on it is empty in one of any so many ticks.
			is, err := age.Safe(x, 1, turn)
			if err != api.OK || is != (turn <= period) {
				t.Errorf("P26.4: Safe(1, %d) is %v, %d", turn, is, err)
			}
			last := r.lossesBehind(30*turn-1, 2) - r.lossesBehind(3*turn, 2)
			if is && last > 0 || !is && last == 0 {
				t.Errorf("P26.6: %s: it loses %d", r.what, last)
			}
			if is {
				safe++
			} else {
				lost++
			}
		}
	}
	if safe != 20 || lost != 57 {
		t.Errorf("%d safe, %d not", safe, lost)
	}
}

// A queue that is emptied at once, by a boot anew once in N ticks: N = Depth times Period is the most at which none is lost; at one more, some of the ways to lie to the channel's ticks lose some.
func TestP26_6_EmptiedAtOnce(t *testing.T) {
	t.Parallel()
	const period = 5
	for depth := 1; depth <= 4; depth++ {
		for more := -1; more <= 1; more++ {
			turn := depth*period + more
			lost, tight := 0, 0
			for first := range turn {
				x := api.Image{
					Parts:    []api.Part{housed(t, whole(1), flood()), housed(t, api.Server{Period: 9, Budget: 1, Priority: 9}, auto(1, "here: jmp here"))},
					Ports:    []api.Port{queue(1, true, 3), queue(2, false, depth)},
					Channels: []api.Channel{{Kind: api.Queuing, From: 1, To: []int{2}, Period: period, Phase: 4}},
				}
				var inputs []api.Input
				for tick := first; tick < 8*turn; tick += turn {
					inputs = append(inputs, api.Input{Tick: tick, Kind: api.InputWake, Target: 2})
				}
				r := watched(t, fmt.Sprintf("Depth %d, booted anew once in %d from %d on", depth, turn, first), x, inputs, api.Online, 8*turn)
				seen := map[string]int{}
				r.looks(t, seen)
				lost += seen["lost"]
				tight += seen["a safe port, one message more"]
			}
			// One that is booted anew in a tick of the channel's is not empty behind it.
			if more <= 0 && lost > 0 || more > 0 && lost == 0 || more == 0 && tight != turn-turn/period {
				t.Errorf("P26.6: Depth %d, once in %d: %d lost, %d just safe", depth, turn, lost, tight)
			}
		}
	}
}

// A receiver that is IDLE, or never occupies, or never receives, is not spoken of: the port gets full, and loses all that comes behind.
func TestP26_6_NeverEmptied(t *testing.T) {
	t.Parallel()
	never := api.Server{Period: 1000, Budget: 1, Offset: 999}
	for what, p := range map[string]api.Part{
		"it is IDLE":      housed(t, whole(1), auto(1, "ldi r1 0\nsys 13")),
		"it loops":        housed(t, whole(1), auto(1, "here: jmp here")),
		"it never works":  housed(t, never, auto(1, "ldi r1 2\ntop: sys 18\njmp top")),
		"it faults":       housed(t, whole(1), auto(1, "ldi r1 2\nldi r2 99\nsys 18")),
		"another port":    housed(t, whole(1), auto(1, "ldi r1 1\ntop: sys 18\njmp top")),
		"it never starts": housed(t, whole(1), deed{text: "ldi r1 2\ntop: sys 18\njmp top"}),
	} {
		p.Health[api.FaultMemory] = api.ActStop
		x := api.Image{
			Parts:    []api.Part{housed(t, api.Server{Period: 4, Budget: 2, Priority: 9}, flood()), p},
			Ports:    []api.Port{queue(1, true, 2), queue(2, false, 3)},
			Channels: []api.Channel{{Kind: api.Queuing, From: 1, To: []int{2}, Period: 5}},
		}
		r := watched(t, what, x, nil, api.Online, 101)
		seen := map[string]int{}
		r.looks(t, seen)
		// Messages come at 5, 10, .. 100; the first three find room.
		if n := r.lossesBehind(100, 2); n != 17 || seen["lost"] != 17 {
			t.Errorf("P26.6: %s: it has lost %d", what, n)
		}
	}
}

// To the outside none is lost.
func TestP26_6_ToTheOutside(t *testing.T) {
	t.Parallel()
	x := outwards(t, 2, 3, 1, housed(t, whole(1), flood()))
	r := watched(t, "to the outside", x, nil, api.Online, 300)
	r.looks(t, map[string]int{})
	events := slices.Concat(r.events...)
	laid, taken := layings(events, 1), outs(events, 1)
	if len(taken) != 99 || len(laid) < 99 || slices.ContainsFunc(events, func(e api.Event) bool { return e.Kind == api.EventLost }) {
		t.Errorf("%d laid down, %d taken", len(laid), len(taken))
	}
	safeAt(t, "to the outside", x, 1, 300, true, api.OK)
}
