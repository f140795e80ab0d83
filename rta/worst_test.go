package rta_test

import (
	"testing"

	"bulkhead/api"
)

// A job that ends in the very tick ahead of its next release, in that tick, and one behind.
func TestP25_2_AroundTheRelease(t *testing.T) {
	for _, c := range []struct {
		what     string
		server   api.Server
		capacity int
		want     int
	}{
		{"all ticks", server(1, 1, 0, 0), 7, 7},
		{"all ticks, to the last", server(1, 1, 0, 0), 8, 8},
		{"all ticks, in that of the release", server(1, 1, 0, 0), 9, api.Never},
		{"all ticks, one behind", server(1, 1, 0, 0), 10, api.Never},
		{"a Budget that is the whole Period", server(8, 8, 0, 0), 8, 8},
		{"a Budget that is the whole Period, in that of the release", server(8, 8, 0, 0), 9, api.Never},
		{"ticks 0 1 4 5", server(4, 2, 0, 0), 4, 6},
		{"ticks 0 1 4 5, in that of the release", server(4, 2, 0, 0), 5, api.Never},
		{"ticks 0 1 4 5, one behind", server(4, 2, 0, 0), 6, api.Never},
		{"ticks 2 3 6 7", server(4, 2, 2, 0), 3, 7},
		{"ticks 2 3 6 7, to the last", server(4, 2, 2, 0), 4, 8},
		{"ticks 2 3 6 7, far behind", server(4, 2, 2, 0), 5, api.Never},
		{"tick 7", server(8, 1, 7, 0), 1, 8},
		{"tick 7, a turn behind", server(8, 1, 7, 0), 2, api.Never},
		{"ticks 7 8, the second in that of the release", server(8, 2, 7, 0), 2, api.Never},
		{"ticks 7 8 9, the first one later in the first half", server(8, 3, 7, 0), 1, 8},
	} {
		tells(t, c.what, alone(c.server, proc(3, 8, 8, c.capacity)), 1, 16, c.want != api.Never, c.want)
	}
}

// With another one above, which takes its ticks.
func TestP25_2_BehindAnother(t *testing.T) {
	whole := server(1, 1, 0, 0)
	tells(t, "to the last tick", alone(whole, proc(9, 4, 4, 1), proc(1, 8, 8, 6)), 1, 16, true, 1, 8)
	tells(t, "one more", alone(whole, proc(9, 4, 4, 1), proc(1, 8, 8, 7)), 1, 16, false, 1, api.Never)
	tells(t, "the other way round", alone(whole, proc(1, 8, 8, 6), proc(9, 4, 4, 1)), 1, 16, true, 8, 1)
	tells(t, "in the middle of its job", alone(whole, proc(1, 6, 6, 2), proc(9, 3, 3, 2)), 1, 12, true, 6, 2)
	tells(t, "a job of one that is released later comes ahead", alone(whole, proc(1, 12, 12, 3), proc(9, 4, 4, 1), proc(5, 6, 6, 2)), 1, 24, true, 10, 1, 3)
	tells(t, "without a common factor", alone(whole, proc(9, 3, 3, 1), proc(5, 5, 5, 1), proc(1, 7, 7, 1)), 1, 210, true, 1, 2, 3)
	tells(t, "a Period that does not divide H", alone(server(4, 2, 0, 1), proc(0, 6, 6, 2)), 1, 24, true, 4)
	tells(t, "and one instruction more", alone(server(4, 2, 0, 1), proc(0, 6, 6, 3)), 1, 24, false, api.Never)
}

// carried is the image of DOC.md's rule 6: X takes a tick of B's second half that it does not take of the first.
func carried(budget int, procs ...api.Proc) api.Image {
	return image([]api.Server{server(10, budget, 0, 1), server(5, 2, 4, 9)}, procs...)
}

// delayed has a first half in which it is above nobody, and a second one that begins with the ticks 14 to 17.
func delayed(procs ...api.Proc) api.Image {
	return image([]api.Server{server(10, 10, 0, 1), server(10, 6, 8, 9)}, procs...)
}

func TestP25_2_FirstAndSecondHalf(t *testing.T) {
	early := server(4, 2, 3, 1) // the ticks 3, 4, 7, 8, ..
	tells(t, "late in the first half alone", alone(early, proc(5, 4, 4, 2)), 1, 8, false, api.Never)
	tells(t, "the first half is the worse", alone(early, proc(5, 4, 4, 1)), 1, 8, true, 4)
	tells(t, "late in the first half alone, below one that is not", alone(early, proc(5, 4, 4, 1), proc(9, 4, 4, 1)), 1, 8, false, api.Never, 4)
	tells(t, "late in the second half alone", delayed(proc(5, 5, 5, 2)), 1, 20, false, api.Never)
	tells(t, "the second half is the worse", delayed(proc(5, 5, 5, 1)), 1, 20, true, 5)
	tells(t, "the second half is the worse, and above the Limit", delayed(proc(5, 5, 4, 1)), 1, 20, false, 5)
	tells(t, "late in the second half alone, below one that is not", delayed(proc(5, 5, 5, 1), proc(9, 10, 10, 1)), 1, 20, false, api.Never, 5)
	tells(t, "a tick less in the second half", carried(6, proc(5, 10, 10, 6)), 1, 20, true, 9)
	tells(t, "a tick less in the second half, and above the Limit", carried(6, proc(5, 10, 8, 6)), 1, 20, false, 9)
	tells(t, "two in each half", carried(6, proc(5, 5, 5, 2)), 1, 20, true, 3)
	tells(t, "seven of six ticks", carried(6, proc(5, 10, 10, 7)), 1, 20, false, api.Never)
}

// A job that is not done at the end of the play; no release is there to find it late.
func TestP25_2_NotDoneAtTheEnd(t *testing.T) {
	tells(t, "one is left", carried(10, proc(5, 10, 10, 7)), 1, 20, false, api.Never)
	tells(t, "six of six", carried(10, proc(5, 10, 10, 6)), 1, 20, true, 9)
	tells(t, "one is left of the lower one", carried(10, proc(9, 10, 10, 6), proc(5, 10, 10, 1)), 1, 20, false, 9, api.Never)
	tells(t, "released in the last slot", delayed(proc(5, 5, 5, 1), proc(3, 10, 10, 4)), 1, 20, false, 5, api.Never)
	// Behind the last slot (the ticks 10 to 11 of 16) one is released at tick 12, and has no tick any more.
	tells(t, "released behind the last slot", alone(server(16, 2, 10, 1), proc(5, 16, 16, 1), proc(3, 4, 4, 1)), 1, 32, false, 11, api.Never)
	tells(t, "all of it released behind the last slot", alone(server(16, 2, 0, 1), proc(5, 8, 8, 1)), 1, 32, false, api.Never)
}

func TestP25_2_Offsets(t *testing.T) {
	for offset := range 8 {
		tells(t, "one tick of eight", alone(server(8, 1, offset, 1), proc(5, 8, 8, 1)), 1, 16, true, offset+1)
	}
	tells(t, "three ticks from 7 on", alone(server(10, 3, 7, 1), proc(5, 10, 10, 3)), 1, 20, true, 10)
	tells(t, "two of three ticks from 7 on", alone(server(10, 3, 7, 1), proc(5, 10, 10, 2)), 1, 20, true, 9)
	tells(t, "a server with a longer Period than the processes", alone(server(40, 39, 1, 1), proc(5, 10, 10, 3), proc(6, 20, 20, 4)), 1, 80, true, 8, 5)
}

func TestP25_2_NoTicks(t *testing.T) {
	never := []api.Server{server(4, 4, 0, 1), server(1, 1, 0, 9)}
	tells(t, "another one has all ticks", image(never, proc(5, 4, 4, 1)), 1, 8, false, api.Never)
	tells(t, "another one has all ticks, of several", image(never, proc(5, 4, 4, 1), proc(7, 8, 8, 1), proc(0, 1, 1, 1)), 1, 16, false, api.Never, api.Never, api.Never)
	// From tick 3 on the other one takes all.
	soon := []api.Server{server(4, 4, 0, 1), server(4, 4, 3, 9)}
	tells(t, "three ticks at the beginning alone", image(soon, proc(5, 4, 4, 1)), 1, 8, false, api.Never)
}

// Who is late leaves those above it as they are, and all below it are Never, whatever they take and wherever they stand in the list.
func TestP25_2_BelowOneThatIsLate(t *testing.T) {
	two := server(8, 2, 0, 1) // the ticks 0, 1 of 8
	late, above, below := proc(50, 4, 4, 1), proc(60, 8, 8, 1), proc(40, 8, 8, 1)
	tells(t, "late, in the middle", alone(two, above, late, below), 1, 16, false, 1, api.Never, api.Never)
	tells(t, "late, at the end of the list", alone(two, below, above, late), 1, 16, false, api.Never, 1, api.Never)
	tells(t, "late, at its beginning", alone(two, late, below, above), 1, 16, false, api.Never, api.Never, 1)
	tells(t, "without the late one", alone(two, below, above), 1, 16, true, 2, 1)
	tells(t, "two above", alone(two, proc(61, 8, 8, 1), late, above), 1, 16, false, 1, api.Never, 2)
	// The one that works on behind its release would be done at last, and the one below it too.
	tells(t, "late once, and caught up", delayed(proc(9, 5, 5, 2), proc(3, 10, 10, 1)), 1, 20, false, api.Never, api.Never)
	tells(t, "the lowest one alone is late", alone(server(4, 2, 0, 1), proc(9, 8, 8, 1), proc(8, 8, 8, 1), proc(7, 8, 8, 1), proc(6, 8, 8, 2)), 1, 16, false, 1, 2, 5, api.Never)
	tells(t, "two are late one after the other", delayed(proc(7, 5, 5, 1), proc(6, 5, 5, 2), proc(5, 10, 10, 1)), 1, 20, false, 5, api.Never, api.Never)
}

func TestP25_3_Limits(t *testing.T) {
	for _, c := range []struct {
		first, second int
		in            bool
	}{
		{8, 8, true}, {1, 6, true}, {1, 5, false}, {1, 7, true}, {1, 8, true}, {2, 6, true}, {8, 5, false}, {8, 1, false}, {1, 1, false},
	} {
		x := chapter(3)
		x.Parts[0].Procs[0].Limit, x.Parts[0].Procs[1].Limit = c.first, c.second
		tells(t, "the chapter's", x, 1, 16, c.in, 1, 6)
	}
	// The first in the list alone is above its Limit, or the last alone.
	whole := server(1, 1, 0, 0)
	tells(t, "the first", alone(whole, proc(1, 9, 4, 3), proc(2, 9, 9, 2), proc(3, 9, 9, 1)), 1, 18, false, 6, 3, 1)
	tells(t, "the first, equal", alone(whole, proc(1, 9, 6, 3), proc(2, 9, 3, 2), proc(3, 9, 1, 1)), 1, 18, true, 6, 3, 1)
	tells(t, "the middle one", alone(whole, proc(1, 9, 6, 3), proc(2, 9, 2, 2), proc(3, 9, 1, 1)), 1, 18, false, 6, 3, 1)
	tells(t, "the last", alone(whole, proc(3, 9, 1, 1), proc(2, 9, 3, 2), proc(1, 9, 5, 3)), 1, 18, false, 1, 3, 6)
	tells(t, "the last is Never", alone(whole, proc(3, 9, 1, 1), proc(2, 9, 3, 2), proc(1, 9, 9, 7)), 1, 18, false, 1, 3, api.Never)
	tells(t, "the first is Never", alone(whole, proc(1, 9, 9, 7), proc(3, 9, 1, 1), proc(2, 9, 3, 2)), 1, 18, false, api.Never, 1, 3)
}
