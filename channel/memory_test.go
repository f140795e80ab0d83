package channel_test

import (
	"math/rand/v2"
	"slices"
	"strconv"
	"testing"

	"bulkhead/api"
	"bulkhead/channel"
)

// spoil writes over a list, its spare room too.
func spoil[T any](list []T, with T) {
	list = list[:cap(list)]
	for i := range list {
		list[i] = with
	}
}

// piece is a list cut out of a longer one, with room behind it; and the longer one.
func piece[T any](list []T, around T) ([]T, []T) {
	whole := append([]T{around, around}, list...)
	whole = append(whole, around, around, around)
	return whole[2 : 2+len(list)], whole
}

// handed is an image, each list of which that a call looks at is cut out of a longer one; and the longer ones.
type handed struct {
	x        api.Image
	ports    []api.Port
	channels []api.Channel
	tos      [][]int
}

func handIn(x api.Image) *handed {
	h := &handed{x: x}
	var list []api.Channel
	for _, c := range x.Channels {
		to, whole := piece(c.To, 2)
		c.To = to
		list, h.tos = append(list, c), append(h.tos, whole)
	}
	h.x.Ports, h.ports = piece(x.Ports, queuingOut(2, 1))
	h.x.Channels, h.channels = piece(list, queuing(0, 1, 1, 2))
	return h
}

// is tells whether all of it is as another one is.
func (h *handed) is(other *handed) bool {
	return slices.Equal(h.ports, other.ports) && slices.EqualFunc(h.channels, other.channels, sameChannel) && slices.EqualFunc(h.tos, other.tos, slices.Equal)
}

func sameChannel(a, b api.Channel) bool {
	return a.Kind == b.Kind && a.From == b.From && slices.Equal(a.To, b.To) && a.Phase == b.Phase && a.Period == b.Period
}

// told are all lists that an image's calls answer, at these ticks, partitions and channels.
func told(x api.Image, ticks, parts, numbers []int) [][]int {
	var lists [][]int
	for _, tick := range ticks {
		lists = append(lists, channel.DueAt(x, tick))
	}
	for _, part := range parts {
		lists = append(lists, channel.Outlet(x, part), channel.Inlet(x, part))
	}
	for _, number := range numbers {
		_, to, _ := channel.Parts(x, number)
		lists = append(lists, to)
	}
	return lists
}

// samples are images of all sorts.
func samples() map[string]api.Image {
	list := families()
	for what, x := range illMade() {
		list[what] = x
	}
	r := rand.New(rand.NewPCG(18, 3))
	for i := range 100 {
		list["by chance, well made "+strconv.Itoa(i)] = wellMade(r)
		list["by chance "+strconv.Itoa(i)] = anyMade(r)
	}
	return list
}

// TestArgumentsAreLeft: the image and the channels that are handed in are left as they are, their lists' spare room too; and what stands in the spare room counts for nothing.
func TestArgumentsAreLeft(t *testing.T) {
	for what, x := range samples() {
		h := handIn(x)
		holds(t, what, h.x, edgesOf(x)...)
		if !h.is(handIn(x)) {
			t.Errorf("%s: what was handed in has changed: %v, %v, %v", what, h.ports, h.channels, h.tos)
		}
	}
}

// TestAnswersAreNew: what was told may be written over, spare room too: neither the image nor what is told else, before or later, changes.
func TestAnswersAreNew(t *testing.T) {
	for what, x := range samples() {
		h := handIn(x)
		ticks := []int{-1, 0, 1, 3, 6, 13, last}
		_, parts, numbers := named(read(x))
		want := told(x, ticks, parts, numbers)
		first, second := told(h.x, ticks, parts, numbers), told(h.x, ticks, parts, numbers)
		for i, list := range first {
			spoil(list, -77)
			// Those that are not yet written over are as they were.
			if later := first[i+1:]; !slices.EqualFunc(later, want[i+1:], slices.Equal) {
				t.Fatalf("%s: one list lies in another's memory: %v, want %v", what, later, want[i+1:])
			}
		}
		if !slices.EqualFunc(second, want, slices.Equal) {
			t.Errorf("%s: an answer has changed: %v, want %v", what, second, want)
		}
		if third := told(h.x, ticks, parts, numbers); !slices.EqualFunc(third, want, slices.Equal) {
			t.Errorf("%s: a later answer is %v, want %v", what, third, want)
		}
		if !h.is(handIn(x)) {
			t.Errorf("%s: an answer lies in what was handed in: %v, %v, %v", what, h.ports, h.channels, h.tos)
		}
		for _, list := range first {
			if slices.ContainsFunc(list[:cap(list)], func(n int) bool { return n != -77 }) {
				t.Errorf("%s: an answer is written into: %v", what, list[:cap(list)])
			}
		}
	}
}

// TestNothingIsKept: what was told does not change with the image that it was told of, and what is told of another image does not hang on what was asked before.
func TestNothingIsKept(t *testing.T) {
	for what, x := range samples() {
		h := handIn(x)
		ticks := []int{-1, 0, 1, 3, 6, 13, last}
		_, parts, numbers := named(read(x))
		want := told(x, ticks, parts, numbers)
		got := told(h.x, ticks, parts, numbers)
		for _, to := range h.tos {
			spoil(to, 3)
		}
		spoil(h.ports, queuingIn(4, 1))
		spoil(h.channels, queuing(1, 3, 1, 1))
		if !slices.EqualFunc(got, want, slices.Equal) {
			t.Errorf("%s: what was told has changed with the image: %v, want %v", what, got, want)
		}
		holds(t, what+", written over", h.x, ticks...)
		holds(t, what, x, ticks...)
	}
}

// TestToIsNotTold (P18.4): where the ports' numbers are those of their partitions, the list is another all the same.
func TestToIsNotTold(t *testing.T) {
	x := image(3, []api.Port{queuingIn(1, 1), queuingIn(2, 1), queuingIn(3, 1)}, queuing(0, 2, 1, 1, 2, 3))
	_, to, _ := channel.Parts(x, 1)
	lists(t, "Parts", to, 1, 2, 3)
	spoil(to, -77)
	lists(t, "To", x.Channels[0].To, 1, 2, 3)
	partsAre(t, x, 1, 1, 1, 2, 3)
	_, to, _ = channel.Parts(with(x, sampling(1)), 1)
	spoil(to, -77)
	partsAre(t, with(x, sampling(1)), 1, 1, 0)
}

// TestNilAndEmpty: nil and empty lists are the same.
func TestNilAndEmpty(t *testing.T) {
	for what, x := range samples() {
		empty := api.Image{Parts: append([]api.Part{}, x.Parts...), Ports: append([]api.Port{}, x.Ports...), Channels: []api.Channel{}}
		for _, c := range x.Channels {
			c.To = append([]int{}, c.To...)
			empty.Channels = append(empty.Channels, c)
		}
		ticks := []int{-1, 0, 1, 3, 6, 13, last}
		_, parts, numbers := named(read(x))
		if got, want := told(empty, ticks, parts, numbers), told(x, ticks, parts, numbers); !slices.EqualFunc(got, want, slices.Equal) {
			t.Errorf("%s: %v, want %v", what, got, want)
		}
		holds(t, what, empty, ticks...)
	}
}
