package flow_test

import (
	"fmt"
	"math/bits"
	"math/rand/v2"
	"slices"
	"testing"

	"bulkhead/api"
	"bulkhead/flow"
)

// relation is which of n partitions has to do with which: the bit i * n + j for i and j.
type relation uint32

func (e relation) has(n, i, j int) bool { return e>>(i*n+j)&1 == 1 }

// isOrder tells whether a relation of n is reflexive and transitive.
func (e relation) isOrder(n int) bool {
	for i := range n {
		if !e.has(n, i, i) {
			return false
		}
		for j := range n {
			for k := range n {
				if e.has(n, i, j) && e.has(n, j, k) && !e.has(n, i, k) {
					return false
				}
			}
		}
	}
	return true
}

// imageOf is an image whose channels are a relation's: a channel for each two, or for all that one has to do with.
func (e relation) imageOf(n int, together bool) api.Image {
	x := each(n)
	for i := range n {
		var to []int
		for j := range n {
			if e.has(n, i, j) {
				to = append(to, j+1)
			}
		}
		switch {
		case together:
			slices.Reverse(to)
			x.Channels = append(x.Channels, road(i+1, to...))
		default:
			for _, goal := range to {
				x.Channels = append(x.Channels, road(i+1, goal))
			}
		}
	}
	return x
}

// relationOf is the relation that rows tell.
func relationOf(rows [][]bool) relation {
	var e relation
	for i, row := range rows {
		for j, is := range row {
			if is {
				e |= 1 << (i*len(rows) + j)
			}
		}
	}
	return e
}

// Of all images of up to four partitions: Reach is what all reflexive and transitive relations that hold Direct have in common, and one of them.
func TestP24_7_ReachIsTheLeast(t *testing.T) {
	t.Parallel()
	for n := range 5 {
		var orders []relation
		all := relation(1) << (n * n)
		for e := range all {
			if e.isOrder(n) {
				orders = append(orders, e)
			}
		}
		// As many as there are preorders of so many things.
		if want := []int{1, 1, 4, 29, 355}[n]; len(orders) != want {
			t.Fatalf("%d orders of %d, want %d", len(orders), n, want)
		}
		for e := range all {
			x := e.imageOf(n, bits.OnesCount32(uint32(e))%2 == 0)
			if got := relationOf(flow.Direct(x)); got != e {
				t.Fatalf("P24.1: %d partitions, channels %b: %b", n, e, got)
			}
			least := all - 1
			for _, o := range orders {
				if o&e == e {
					least &= o
				}
			}
			if got := relationOf(flow.Reach(x)); got != least || !got.isOrder(n) {
				t.Fatalf("P24.2: %d partitions, channels %b: %b, want %b", n, e, got, least)
			}
		}
	}
}

// somePath is a search of the test's own for a path, deep first; seen are those that were tried.
func somePath(direct [][]bool, from, to int, seen map[int]int) bool {
	if from == to {
		return true
	}
	seen[from]++
	for next, is := range direct[from] {
		if is && seen[next] == 0 && somePath(direct, next, to, seen) {
			return true
		}
	}
	return false
}

// follows wants of an image what P24.7 says of Direct, Reach, Sources and Text, from these answers alone.
func follows(t *testing.T, what string, x api.Image) {
	t.Helper()
	direct, reach, n := flow.Direct(x), flow.Reach(x), len(x.Parts)
	if len(direct) != n || len(reach) != n {
		t.Fatalf("%s: %d, %d rows of %d", what, len(direct), len(reach), n)
	}
	for i := range n {
		if !reach[i][i] {
			t.Errorf("%s: %d does not reach itself", what, i+1)
		}
		for j := range n {
			if direct[i][j] && !reach[i][j] {
				t.Errorf("%s: %d has a channel to %d, and does not reach it", what, i+1, j+1)
			}
			if is := somePath(direct, i, j, map[int]int{}); is != reach[i][j] {
				t.Errorf("%s: from %d to %d: %v, a path is there: %v", what, i+1, j+1, reach[i][j], is)
			}
			for k := range n {
				if reach[i][j] && reach[j][k] && !reach[i][k] {
					t.Errorf("%s: %d reaches %d, that reaches %d, which it does not reach", what, i+1, j+1, k+1)
				}
			}
		}
	}
	for j := range n {
		var want []int
		for i := range n {
			if reach[i][j] {
				want = append(want, i+1)
			}
		}
		got, err := flow.Sources(x, j+1)
		if !slices.Equal(got, want) || err != api.OK || !slices.IsSorted(got) || !slices.Contains(got, j+1) {
			t.Errorf("%s: Sources(%d) = %v, %d, want %v", what, j+1, got, err, want)
		}
	}
}

func TestP24_7_WhatReachIs(t *testing.T) {
	t.Parallel()
	for seed := range uint64(3000) {
		r := rand.New(rand.NewPCG(247, seed))
		follows(t, fmt.Sprintf("seed %d", seed), anyImage(r))
		if t.Failed() {
			t.FailNow()
		}
	}
	for what, x := range map[string]api.Image{"the chapter's": chapter(), "crossing": crossing(), "bootable": bootable(), "nothing": {}, "a chain": chain(40)} {
		follows(t, what, x)
	}
}

// turnedOthers is an image with all that is not a partition's sources' turned by chance, but for the servers.
func turnedOthers(r *rand.Rand, x api.Image, sources []int) api.Image {
	y := copyOf(x)
	for i := range y.Parts {
		if !slices.Contains(sources, i+1) && r.IntN(3) > 0 {
			server := y.Parts[i].Server
			y.Parts[i] = anyPart(r)
			y.Parts[i].Server = server
		}
	}
	return y
}

// Alike is reflexive, symmetric where both have the partition, blind to what is no source's; where it is true the sources are the same in both.
func TestP24_7_WhatAlikeIs(t *testing.T) {
	t.Parallel()
	alike, blind := 0, 0
	for seed := range uint64(800) {
		r := rand.New(rand.NewPCG(742, seed))
		x := anyImage(r)
		if r.IntN(4) == 0 {
			x = bootable()
		}
		list := []api.Image{x, copyOf(x), anyImage(r)}
		for i := range x.Parts {
			sources, _ := flow.Sources(x, i+1)
			y := turnedOthers(r, x, sources)
			list = append(list, y)
			if is, err := flow.Alike(x, y, i+1); !is || err != api.OK {
				t.Fatalf("seed %d: Alike(%d) = %v, %d, where only others are turned", seed, i+1, is, err)
			}
			if told(x) != told(y) {
				blind++
			}
		}
		places := placesOf(x)
		for range 4 {
			z := copyOf(x)
			oneOf(r, places).turn(&z)
			list = append(list, z)
		}
		for _, y := range list {
			for part := range len(x.Parts) + 2 {
				is, err := flow.Alike(x, y, part)
				back, backErr := flow.Alike(y, x, part)
				if err == api.OK && backErr == api.OK && is != back {
					t.Fatalf("seed %d: Alike(%d) = %v, turned round %v", seed, part, is, back)
				}
				if self, err := flow.Alike(y, copyOf(y), part); self != (err == api.OK) || (err == api.OK) != (part >= 1 && part <= len(y.Parts)) {
					t.Fatalf("seed %d: Alike(%d) of one with itself: %v, %d", seed, part, self, err)
				}
				if !is {
					continue
				}
				alike++
				a, aErr := flow.Sources(x, part)
				b, bErr := flow.Sources(y, part)
				if !slices.Equal(a, b) || aErr != api.OK || bErr != api.OK || backErr != api.OK {
					t.Fatalf("seed %d: %d is alike, and has the sources %v, %d and %v, %d", seed, part, a, aErr, b, bErr)
				}
			}
		}
	}
	if alike < 5000 || blind < 500 {
		t.Errorf("%d alike, %d with others turned", alike, blind)
	}
}

// Whatever is alike for a partition is alike for its sources: they have no sources but its own.
func TestP24_7_AlikeForTheSources(t *testing.T) {
	for seed := range uint64(2000) {
		r := rand.New(rand.NewPCG(427, seed))
		x := anyImage(r)
		y := copyOf(x)
		if len(y.Parts) > 0 {
			i := r.IntN(len(y.Parts))
			y.Parts[i].Words++
		}
		a := few(r, 6, func() api.Input { return anyInput(r, x) })
		b := turned(r, x, a)
		for part := 1; part <= len(x.Parts); part++ {
			sources, _ := flow.Sources(x, part)
			images, _ := flow.Alike(x, y, part)
			inputs, _ := flow.AlikeInputs(x, a, b, part)
			for _, source := range sources {
				if is, _ := flow.Alike(x, y, source); images && !is {
					t.Fatalf("seed %d: alike for %d, not for its source %d", seed, part, source)
				}
				if is, _ := flow.AlikeInputs(x, a, b, source); inputs && !is {
					t.Fatalf("seed %d: inputs alike for %d, not for its source %d", seed, part, source)
				}
			}
		}
	}
}
