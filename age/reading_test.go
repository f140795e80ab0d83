package age_test

import (
	"fmt"
	"math"
	"math/rand/v2"
	"slices"
	"testing"

	"bulkhead/age"
	"bulkhead/api"
	"bulkhead/channel"
	"bulkhead/check"
)

const (
	top    = math.MaxInt
	bottom = math.MinInt
	wrong  = -1 // stands for ErrArg in tables
)

// answers are what the four calls tell of a channel and a number of ticks.
type answers struct {
	stay, rate, oldest                   int
	safe                                 bool
	stayErr, rateErr, safeErr, oldestErr api.Errno
}

// ask puts all calls to a channel.
func ask(x api.Image, number, ticks int) answers {
	var a answers
	a.stay, a.stayErr = age.Stay(x, number)
	a.rate, a.rateErr = age.Rate(x, number, ticks)
	a.safe, a.safeErr = age.Safe(x, number, ticks)
	a.oldest, a.oldestErr = age.Oldest(x, number, ticks)
	return a
}

// read is a second reading of what all calls tell: by sums where the program multiplies and divides.
func read(x api.Image, number, ticks int) answers {
	if err, _ := check.Check(x); err != api.OK {
		return answers{stayErr: err, rateErr: err, safeErr: err, oldestErr: err}
	}
	a := answers{stayErr: api.ErrArg, rateErr: api.ErrArg, safeErr: api.ErrArg, oldestErr: api.ErrArg}
	for i, c := range x.Channels {
		if i+1 != number {
			continue
		}
		if c.Kind == api.Sampling {
			if 1 <= ticks && ticks <= 1<<40 {
				a.oldest, a.oldestErr = ticks-1, api.OK
			}
			continue
		}
		if c.From == 0 {
			continue
		}
		a.stayErr = api.OK
		for range x.Ports[c.From-1].Depth {
			a.stay += c.Period
		}
		if ticks < 0 || ticks > 1<<40 {
			continue
		}
		a.rateErr, a.safeErr = api.OK, api.OK
		a.rate = roundedUp(ticks, c.Period)
		a.safe = true
		for _, port := range c.To {
			a.safe = a.safe && a.rate <= x.Ports[port-1].Depth
		}
	}
	return a
}

// roundedUp is the least number that times b is not below a, found by halves.
func roundedUp(a, b int) int {
	low, high := 0, 1<<40
	for low < high {
		middle := (low + high) / 2
		if middle*b >= a {
			high = middle
		} else {
			low = middle + 1
		}
	}
	return low
}

// reads wants all calls to say what the second reading says.
func reads(t *testing.T, what string, x api.Image, number, ticks int) answers {
	t.Helper()
	got, want := ask(x, number, ticks), read(x, number, ticks)
	if got != want {
		t.Fatalf("%s, channel %d, %d ticks: %+v, want %+v", what, number, ticks, got, want)
	}
	return got
}

func oneOf[T any](r *rand.Rand, list ...T) T { return list[r.IntN(len(list))] }

// partitions are so many of the least kind, each with a server of its own.
func partitions(n int) []api.Part {
	var list []api.Part
	for i := range n {
		list = append(list, api.Part{Server: api.Server{Period: 8, Budget: 2, Offset: i % 8, Priority: n - i}, Words: 2, Code: []api.Instr{{Op: 1}}, Procs: []api.Proc{{Auto: true}}})
	}
	return list
}

// add lays a port behind those of an image, and tells its number.
func add(x *api.Image, q api.Port) int {
	x.Ports = append(x.Ports, q)
	return len(x.Ports)
}

// addChannel lays a channel by chance behind those of an image, with ports of its own.
func addChannel(r *rand.Rand, x *api.Image) {
	kind, size := r.IntN(2), 1+r.IntN(api.MaxSize)
	if r.IntN(3) == 0 {
		add(x, api.Port{Part: 1, Kind: api.Sampling, Size: 1}) // A port that no channel joins.
	}
	in := func() {
		q := api.Port{Part: 1 + r.IntN(len(x.Parts)), Kind: kind, Size: size}
		if kind == api.Queuing {
			q.Depth = oneOf(r, 1, 1, 2, 3, 5, 8, 63, 64)
		} else {
			q.Refresh = r.IntN(20)
		}
		add(x, q)
	}
	c := api.Channel{Kind: kind}
	first := len(x.Ports) + 1
	for range oneOf(r, 0, 1, 1, 2, 3, 5) {
		in()
	}
	if r.IntN(5) > 0 {
		q := api.Port{Part: 1 + r.IntN(len(x.Parts)), Kind: kind, Out: true, Size: size}
		if kind == api.Queuing {
			q.Depth = oneOf(r, 1, 1, 2, 3, 5, 8, 63, 64)
			c.Period = oneOf(r, 1, 1, 2, 3, 4, 7, 10, 64, 1000, 1<<20-1, 1<<20, 1+r.IntN(1<<20))
			c.Phase = oneOf(r, 0, c.Period-1, r.IntN(c.Period))
		}
		c.From = add(x, q)
	}
	if c.From == 0 || r.IntN(3) == 0 {
		in()
	}
	for port := first; port <= len(x.Ports); port++ {
		if port != c.From {
			c.To = append(c.To, port)
		}
	}
	x.Channels = append(x.Channels, c)
}

// anyImage is an image by chance that may be booted.
func anyImage(t *testing.T, r *rand.Rand) api.Image {
	t.Helper()
	x := api.Image{Parts: partitions(1 + r.IntN(4))}
	for range oneOf(r, 0, 1, 2, 3, 5, 8) {
		addChannel(r, &x)
	}
	if len(x.Ports) > api.MaxPorts {
		return anyImage(t, r)
	}
	if err, number := check.Check(x); err != api.OK {
		t.Fatalf("%d, %d: %+v", err, number, x)
	}
	return x
}

// spoilt is an image one of whose numbers has been turned: it may be refused.
func spoilt(r *rand.Rand, x api.Image) api.Image {
	number := oneOf(r, -1, 0, 1, 2, 64, 65, 1<<20, 1<<20+1, bottom, top)
	x.Parts, x.Ports, x.Channels = slices.Clone(x.Parts), slices.Clone(x.Ports), slices.Clone(x.Channels)
	places := []*int{&x.Parts[0].Server.Budget, &x.Parts[0].Words, &x.Parts[0].Handler}
	for i := range x.Ports {
		q := &x.Ports[i]
		places = append(places, &q.Part, &q.Kind, &q.Size, &q.Depth, &q.Refresh)
	}
	for i := range x.Channels {
		c := &x.Channels[i]
		c.To = slices.Clone(c.To)
		places = append(places, &c.Kind, &c.From, &c.Period, &c.Phase)
		for k := range c.To {
			places = append(places, &c.To[k])
		}
	}
	*oneOf(r, places...) = number
	return x
}

// someTicks are numbers of ticks at which a channel's answers change, and others.
func someTicks(r *rand.Rand, x api.Image, number int) []int {
	list := []int{bottom, -1, 0, 1, 2, api.MaxTick - 1, api.MaxTick, api.MaxTick + 1, top, r.IntN(100), r.IntN(1 << 20), r.IntN(1 << 40)}
	if number < 1 || number > len(x.Channels) {
		return list
	}
	c := x.Channels[number-1]
	depth := oneOf(r, 1, 64)
	if len(c.To) > 0 && c.To[0] > 0 && c.To[0] <= len(x.Ports) {
		depth = x.Ports[c.To[0]-1].Depth
	}
	return append(list, c.Period-1, c.Period, c.Period+1, depth*c.Period-1, depth*c.Period, depth*c.Period+1, (depth+1)*c.Period)
}

func TestP26_1_2_3_4_5_ByChance(t *testing.T) {
	t.Parallel()
	seen := map[string]int{}
	for seed := range uint64(800) {
		r := rand.New(rand.NewPCG(26, seed))
		x := anyImage(t, r)
		if r.IntN(3) == 0 {
			x = spoilt(r, x)
		}
		what := fmt.Sprintf("seed %d", seed)
		for number := -1; number <= len(x.Channels)+1; number++ {
			for _, ticks := range someTicks(r, x, number) {
				a := reads(t, what, x, number, ticks)
				seen[fmt.Sprintf("Stay %d", a.stayErr)]++
				seen[fmt.Sprintf("Rate %d", a.rateErr)]++
				seen[fmt.Sprintf("Safe %d %v", a.safeErr, a.safe)]++
				seen[fmt.Sprintf("Oldest %d", a.oldestErr)]++
			}
		}
	}
	for _, kind := range []string{"Stay 0", "Stay 2", "Stay 107", "Stay 108", "Rate 0", "Rate 2", "Safe 0 true", "Safe 0 false", "Safe 2 false", "Oldest 0", "Oldest 2", "Oldest 101", "Oldest 109"} {
		if seen[kind] < 100 {
			t.Errorf("%s: %d times", kind, seen[kind])
		}
	}
}

// The most ticks that a channel has among so many on end, counted for every place at which these may begin.
func TestP26_3_NoMoreTicksOfTheChannel(t *testing.T) {
	t.Parallel()
	for period := 1; period <= 12; period++ {
		for phase := range period {
			x := road(api.Port{Part: 1, Kind: api.Queuing, Out: true, Size: 1, Depth: 1}, period, phase)
			c := x.Channels[0]
			for ticks := range 3*period + 3 {
				most := 0
				for from := range 3*period + phase {
					n := 0
					for tick := from; tick < from+ticks; tick++ {
						if channel.Due(c, tick) {
							n++
						}
					}
					most = max(most, n)
				}
				if n, err := age.Rate(x, 1, ticks); n != most || err != api.OK {
					t.Errorf("P26.3: Period %d, Phase %d: Rate(%d) = %d, %d, want %d", period, phase, ticks, n, err, most)
				}
			}
		}
	}
}

// road is an image of two partitions and a channel from an out port to ports of partition 2 with these depths.
func road(from api.Port, period, phase int, depths ...int) api.Image {
	x := api.Image{Parts: partitions(2), Ports: []api.Port{from}}
	c := api.Channel{Kind: api.Queuing, From: 1, Period: period, Phase: phase}
	for _, depth := range depths {
		c.To = append(c.To, add(&x, api.Port{Part: 2, Kind: api.Queuing, Size: from.Size, Depth: depth}))
	}
	x.Channels = []api.Channel{c}
	return x
}
