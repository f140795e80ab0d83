package channel_test

import (
	"math"
	"math/big"
	"math/rand/v2"
	"slices"
	"testing"

	"bulkhead/api"
	"bulkhead/channel"
	"bulkhead/check"
)

const (
	top    = math.MaxInt
	bottom = math.MinInt
	last   = api.MaxTick - 1
)

// takes is a second reading of whether a channel takes messages.
func takes(c api.Channel) bool {
	return c.Kind == api.Queuing && c.From != 0 && c.Period > 0 && c.Phase >= 0
}

// due is a second reading of Due, in numbers that have no end.
func due(c api.Channel, t int) bool {
	if !takes(c) || t < 0 || t >= api.MaxTick {
		return false
	}
	past := new(big.Int).Sub(whole(t), whole(c.Phase))
	return past.Sign() >= 0 && new(big.Int).Mod(past, whole(c.Period)).Sign() == 0
}

// next is a second reading of Next: from Phase on, as many Periods as from is away, in numbers that have no end.
func next(c api.Channel, from int) int {
	if !takes(c) {
		return api.Never
	}
	tick, period := whole(c.Phase), whole(c.Period)
	if away := new(big.Int).Sub(whole(from), tick); away.Sign() > 0 {
		steps, rest := new(big.Int).DivMod(away, period, new(big.Int))
		if rest.Sign() > 0 {
			steps.Add(steps, whole(1))
		}
		tick.Add(tick, steps.Mul(steps, period))
	}
	if tick.Cmp(whole(api.MaxTick)) >= 0 {
		return api.Never
	}
	return int(tick.Int64())
}

func whole(n int) *big.Int { return big.NewInt(int64(n)) }

// end is one end of a channel: the port that is named there, and whose it is (0, if the port is not there).
type end struct {
	channel, port, part int
	there, from         bool
}

// ends are all ends of all channels, each To one by one.
func ends(x api.Image) []end {
	var list []end
	for i, c := range x.Channels {
		for k, port := range append([]int{c.From}, c.To...) {
			e := end{channel: i + 1, port: port, from: k == 0}
			for q, form := range x.Ports {
				if q+1 == port {
					e.part, e.there = form.Part, true
				}
			}
			list = append(list, e)
		}
	}
	return list
}

// set are numbers, rising, each once.
func set(list []int) []int {
	list = slices.Clone(list)
	slices.Sort(list)
	return slices.Compact(list)
}

// channels are the numbers of the channels of these ends, rising, each once.
func channels(list []end, want func(e end) bool) []int {
	var numbers []int
	for _, e := range list {
		if want(e) {
			numbers = append(numbers, e.channel)
		}
	}
	return set(numbers)
}

// firstOf is the first number of a list; 0 of none.
func firstOf(list []int) int {
	if len(list) == 0 {
		return 0
	}
	return list[0]
}

// reading is a second reading of the calls on an image, from the list of all ends.
type reading struct {
	x    api.Image
	ends []end
}

func read(x api.Image) reading { return reading{x, ends(x)} }

func (m reading) dueAt(t int) []int {
	var list []int
	for i, c := range m.x.Channels {
		if due(c, t) {
			list = append(list, i+1)
		}
	}
	return list
}

func (m reading) port(port int, from bool) int {
	return firstOf(channels(m.ends, func(e end) bool { return e.from == from && e.port == port && port >= 1 }))
}

func (m reading) part(part int, from bool) []int {
	return channels(m.ends, func(e end) bool { return e.from == from && e.there && e.part == part && part >= 1 })
}

func (m reading) parts(number int) (from int, to []int, err api.Errno) {
	if number < 1 || number > len(m.x.Channels) {
		return 0, nil, api.ErrArg
	}
	for _, e := range m.ends {
		switch {
		case e.channel != number:
		case e.from:
			from = e.part
		default:
			to = append(to, e.part)
		}
	}
	if to == nil {
		to = []int{0}
	}
	return from, set(to), api.OK
}

// holds wants every call on an image to answer as the second reading has it, at these ticks, and at all ports, channels and partitions that are there or named, those beside them, and far ones.
func holds(t *testing.T, what string, x api.Image, ticks ...int) {
	t.Helper()
	m := read(x)
	for _, tick := range ticks {
		if got, want := channel.DueAt(x, tick), m.dueAt(tick); !slices.Equal(got, want) {
			t.Errorf("%s: DueAt(%d) = %v, want %v", what, tick, got, want)
		}
		for i, c := range x.Channels {
			if got, want := channel.Due(c, tick), due(c, tick); got != want {
				t.Errorf("%s: channel %d %v: Due(%d) = %v, want %v", what, i+1, c, tick, got, want)
			}
			if got, want := channel.Next(c, tick), next(c, tick); got != want {
				t.Errorf("%s: channel %d %v: Next(%d) = %d, want %d", what, i+1, c, tick, got, want)
			}
		}
	}
	ports, parts, numbers := named(m)
	for _, port := range ports {
		if got, want := channel.FromPort(x, port), m.port(port, true); got != want {
			t.Errorf("%s: FromPort(%d) = %d, want %d", what, port, got, want)
		}
		if got, want := channel.ToPort(x, port), m.port(port, false); got != want {
			t.Errorf("%s: ToPort(%d) = %d, want %d", what, port, got, want)
		}
	}
	for _, part := range parts {
		if got, want := channel.Outlet(x, part), m.part(part, true); !slices.Equal(got, want) {
			t.Errorf("%s: Outlet(%d) = %v, want %v", what, part, got, want)
		}
		if got, want := channel.Inlet(x, part), m.part(part, false); !slices.Equal(got, want) {
			t.Errorf("%s: Inlet(%d) = %v, want %v", what, part, got, want)
		}
	}
	for _, number := range numbers {
		from, to, err := channel.Parts(x, number)
		wantFrom, wantTo, wantErr := m.parts(number)
		if from != wantFrom || !slices.Equal(to, wantTo) || err != wantErr {
			t.Errorf("%s: Parts(%d) = %d, %v, %d, want %d, %v, %d", what, number, from, to, err, wantFrom, wantTo, wantErr)
		}
	}
}

// named are the ports, partitions and channels at which an image is asked.
func named(m reading) (ports, parts, numbers []int) {
	far := []int{bottom, bottom + 1, -2, -1, 0, 1, 1 << 32, 1<<32 + 1, top - 1, top}
	ports, parts, numbers = slices.Clone(far), slices.Clone(far), slices.Clone(far)
	for i := range len(m.x.Ports) + 2 {
		ports = append(ports, i)
	}
	for i := range len(m.x.Parts) + 2 {
		parts = append(parts, i)
	}
	for i := range len(m.x.Channels) + 2 {
		numbers = append(numbers, i)
	}
	for _, q := range m.x.Ports {
		parts = append(parts, q.Part)
	}
	for _, e := range m.ends {
		ports = append(ports, e.port)
	}
	return set(ports), set(parts), set(numbers)
}

// edges are ticks at which a channel might change, and those beside them.
func edges(c api.Channel) []int {
	list := []int{bottom, bottom + 1, -8, -7, -2, -1, 0, 1, 2, last - 1, last, api.MaxTick, api.MaxTick + 1, top - 1, top}
	for _, tick := range []int{c.Phase, c.Period, c.Phase + c.Period, c.Phase + 2*c.Period, c.Phase - c.Period, next(c, last-c.Period), next(c, 12345)} {
		// These wrap round at times: then they are ticks like others.
		list = append(list, tick-1, tick, tick+1)
	}
	return set(list)
}

// edgesOf are the edges of all channels of an image.
func edgesOf(x api.Image) []int {
	list := edges(api.Channel{})
	for _, c := range x.Channels {
		list = append(list, edges(c)...)
	}
	return set(list)
}

// Ports, channels and images, in short.
func queuingIn(part, size int) api.Port {
	return api.Port{Part: part, Kind: api.Queuing, Size: size, Depth: 2}
}

func queuingOut(part, size int) api.Port {
	return api.Port{Part: part, Kind: api.Queuing, Out: true, Size: size, Depth: 3}
}

func samplingIn(part, size int) api.Port {
	return api.Port{Part: part, Kind: api.Sampling, Size: size, Refresh: 4}
}

func samplingOut(part, size int) api.Port {
	return api.Port{Part: part, Kind: api.Sampling, Out: true, Size: size}
}

func queuing(phase, period, from int, to ...int) api.Channel {
	return api.Channel{Kind: api.Queuing, From: from, To: to, Phase: phase, Period: period}
}

func sampling(from int, to ...int) api.Channel {
	return api.Channel{Kind: api.Sampling, From: from, To: to}
}

// image is an image of so many partitions, with these ports and channels.
func image(parts int, ports []api.Port, list ...api.Channel) api.Image {
	x := api.Image{Ports: ports, Channels: list}
	for i := range parts {
		x.Parts = append(x.Parts, api.Part{Server: api.Server{Period: 1, Budget: 1, Priority: i}, Code: make([]api.Instr, 1), Procs: make([]api.Proc, 1)})
	}
	return x
}

// with is an image with other channels.
func with(x api.Image, list ...api.Channel) api.Image {
	x.Channels = list
	return x
}

// chapter is the image of the chapter's examples. (Its channel 2 is Sampling, and goes to a port that channel 1 goes to: chapter 10 does not let it stand.)
func chapter() api.Image {
	return image(3, []api.Port{queuingOut(2, 1), queuingIn(3, 1), queuingIn(1, 1)}, queuing(3, 10, 1, 2, 3), sampling(0, 2))
}

// plain is an image that chapter 10 lets stand, with a channel of each sort.
func plain() api.Image {
	return image(4, []api.Port{
		queuingOut(1, 1), queuingOut(2, 1), queuingOut(2, 2), queuingIn(1, 1), queuingIn(3, 1), queuingIn(3, 1), queuingIn(4, 1), queuingIn(2, 2),
		samplingOut(1, 1), samplingOut(4, 3), samplingIn(2, 1), samplingIn(3, 1), samplingIn(3, 2), queuingIn(4, 2), samplingOut(4, 1), queuingOut(4, 1),
	},
		queuing(3, 10, 2, 4, 5, 6),
		queuing(0, 1, 1),
		queuing(0, 0, 0, 8, 14),
		queuing(0, 4, 16, 7),
		sampling(9, 11, 12),
		sampling(10),
		sampling(0, 13),
		queuing(api.MaxPeriod-1, api.MaxPeriod, 3),
	)
}

// crowd is an image with as many ports and channels as there may be: each out port feeds a channel of its own, to nobody.
func crowd() api.Image {
	var ports []api.Port
	var list []api.Channel
	for i := range api.MaxPorts {
		ports = append(ports, queuingOut(i%api.MaxParts+1, 1))
	}
	for i := range api.MaxChannels {
		list = append(list, queuing(i%7, 7+i%5, api.MaxPorts-i))
	}
	return image(api.MaxParts, ports, list...)
}

// fan is an image in which one channel goes to all ports but the one that it comes from.
func fan() api.Image {
	ports := []api.Port{queuingOut(5, 1)}
	var to []int
	for i := 1; i < api.MaxPorts; i++ {
		ports = append(ports, queuingIn(i*7%6+1, 1))
		to = append(to, i+1)
	}
	return image(6, ports, queuing(1, 2, 1, to...))
}

// inwards is an image in which each in port is fed by a channel of its own, from outside.
func inwards() api.Image {
	var ports []api.Port
	var list []api.Channel
	for i := range api.MaxPorts {
		ports = append(ports, []api.Port{queuingIn(i%3+1, 1), samplingIn(i%3+1, 2)}[i%2])
		list = append(list, api.Channel{Kind: ports[i].Kind, To: []int{i + 1}})
	}
	slices.Reverse(list)
	return image(3, ports, list...)
}

// families are images that chapter 10 lets stand.
func families() map[string]api.Image {
	return map[string]api.Image{
		"nothing":                   {},
		"partitions alone":          image(3, nil),
		"ports alone":               image(4, plain().Ports),
		"a channel of each sort":    plain(),
		"all ports out":             crowd(),
		"one to all":                fan(),
		"all from outside":          inwards(),
		"the chapter's, as may be":  with(chapter(), queuing(3, 10, 1, 2, 3)),
		"one port, out":             image(1, []api.Port{queuingOut(1, 1)}, queuing(0, 1, 1)),
		"one port, from outside":    image(1, []api.Port{samplingIn(1, 1)}, sampling(0, 1)),
		"a partition to itself":     image(1, []api.Port{queuingIn(1, 1), queuingOut(1, 1)}, queuing(1, 2, 2, 1)),
		"there and back":            image(2, []api.Port{queuingOut(1, 1), queuingIn(2, 1), queuingOut(2, 1), queuingIn(1, 1)}, queuing(0, 3, 1, 2), queuing(1, 3, 3, 4)),
		"the last of all":           image(api.MaxParts, []api.Port{samplingOut(api.MaxParts, 1), samplingIn(1, 1), samplingIn(api.MaxParts, 1)}, sampling(1, 2, 3)),
		"to the outside alone":      image(2, []api.Port{queuingOut(1, 1), samplingOut(2, 1)}, sampling(2), queuing(0, 5, 1)),
		"the longest and shortest":  image(1, []api.Port{queuingOut(1, 1), queuingOut(1, 1), queuingOut(1, 1)}, queuing(0, 1, 1), queuing(0, api.MaxPeriod, 2), queuing(api.MaxPeriod-1, api.MaxPeriod, 3)),
		"periods 2, 3 and 5":        image(1, []api.Port{queuingOut(1, 1), queuingOut(1, 1), queuingOut(1, 1)}, queuing(0, 2, 3), queuing(0, 3, 2), queuing(1, 5, 1)),
		"later ports, earlier ends": image(3, []api.Port{queuingIn(3, 1), queuingIn(2, 1), queuingIn(1, 1), queuingOut(3, 1), queuingOut(2, 1)}, queuing(0, 2, 5, 1, 3), queuing(0, 2, 4, 2)),
	}
}

// illMade are images that chapter 10 does not let stand.
func illMade() map[string]api.Image {
	far := []int{bottom, bottom + 1, -1, 0, 1, 2, 3, 4, 1 << 32, 1<<32 + 1, top - 1, top}
	ports := []api.Port{queuingOut(2, 1), queuingIn(3, 1), queuingIn(1, 1)}
	var kinds, phases, froms, tos, owned []api.Channel
	var strange []api.Port
	for _, n := range far {
		kinds = append(kinds, api.Channel{Kind: n, From: 1, To: []int{2}, Phase: 1, Period: 2})
		froms = append(froms, queuing(0, 2, n, 2))
		tos = append(tos, queuing(0, 2, 1, n), queuing(0, 2, 1, 3, n, 2), queuing(0, 2, 1, n, n))
		for _, p := range far {
			phases = append(phases, queuing(n, p, 1, 2))
		}
		strange = append(strange, queuingOut(n, 1), queuingIn(n, 1))
	}
	for i := range strange {
		owned = append(owned, queuing(0, 2, i+1), queuing(0, 2, 0, i+1, (i+5)%len(strange)+1))
	}
	return map[string]api.Image{
		"the chapter's":            chapter(),
		"kinds of all sorts":       image(3, ports, kinds...),
		"phases and periods":       image(3, ports, phases...),
		"froms of all sorts":       image(3, ports, froms...),
		"tos of all sorts":         image(3, ports, tos...),
		"parts of all sorts":       image(3, strange, owned...),
		"no partitions":            image(0, ports, queuing(3, 10, 1, 2, 3)),
		"no ports":                 image(3, nil, queuing(3, 10, 1, 2, 3), sampling(2, 1)),
		"neither":                  image(0, nil, queuing(0, 1, 1, 1)),
		"from nowhere to nowhere":  image(3, ports, sampling(0), queuing(0, 0, 0)),
		"one from for all":         image(3, ports, slices.Repeat([]api.Channel{queuing(0, 3, 1, 2)}, 5)...),
		"one to twice":             image(3, ports, queuing(0, 3, 1, 2, 2, 2)),
		"too many channels":        image(3, ports, slices.Repeat([]api.Channel{queuing(0, 3, 1, 2), sampling(1), queuing(1, 3, 0, 3)}, 50)...),
		"too many ports":           image(3, slices.Repeat(ports, 40), queuing(0, 3, 118, 119, 120, 121, 2)),
		"one feeds itself":         image(3, ports, queuing(0, 3, 1, 1)),
		"in to out":                image(3, ports, queuing(0, 3, 2, 1)),
		"a sampling one with time": image(3, []api.Port{samplingOut(1, 1)}, api.Channel{Kind: api.Sampling, From: 1, Phase: 1, Period: 3}),
		"from outside with time":   image(3, ports, queuing(1, 3, 0, 2)),
	}
}

// TestKinds: chapter 10 lets the families stand, and the others not.
func TestKinds(t *testing.T) {
	for what, x := range families() {
		if err, number := check.Check(x); err != api.OK {
			t.Errorf("%s: %d, %d", what, err, number)
		}
	}
	for what, x := range illMade() {
		if err, _ := check.Check(x); err == api.OK {
			t.Errorf("%s may be", what)
		}
	}
}

// oneOf is one of a list, by chance.
func oneOf[T any](r *rand.Rand, list []T) T { return list[r.IntN(len(list))] }

// wellMade is an image by chance that chapter 10 lets stand: ports of all sorts, some of which are joined.
func wellMade(r *rand.Rand) api.Image {
	parts := 1 + r.IntN(5)
	var ports []api.Port
	for range r.IntN(30) {
		make := oneOf(r, []func(part, size int) api.Port{queuingIn, queuingIn, queuingOut, samplingIn, samplingIn, samplingOut})
		ports = append(ports, make(1+r.IntN(parts), 1+r.IntN(2)))
	}
	x := image(parts, ports)
	free := r.Perm(len(ports))
	for range r.IntN(15) {
		c := api.Channel{Kind: r.IntN(2)}
		size := 1 + r.IntN(2)
		var left []int
		for _, i := range free {
			q := ports[i]
			switch {
			case q.Kind != c.Kind || q.Size != size || r.IntN(3) == 0:
				left = append(left, i)
			case !q.Out:
				c.To = append(c.To, i+1)
			case c.From == 0:
				c.From = i + 1
			default:
				left = append(left, i)
			}
		}
		if free = left; c.From == 0 && len(c.To) == 0 {
			continue
		}
		slices.Sort(c.To)
		if c.Kind == api.Queuing && c.From != 0 {
			c.Period = oneOf(r, []int{1, 1 + r.IntN(9), 1 + r.IntN(9), 1 + r.IntN(api.MaxPeriod), api.MaxPeriod})
			c.Phase = oneOf(r, []int{0, r.IntN(c.Period), c.Period - 1})
		}
		x.Channels = append(x.Channels, c)
	}
	return x
}

// anyMade is an image by chance, whatever chapter 10 says of it.
func anyMade(r *rand.Rand) api.Image {
	number := func(most int) int {
		if r.IntN(12) == 0 {
			return oneOf(r, []int{bottom, bottom + 1, -3, -1, 0, most + 1, 1<<32 + 1, api.MaxTick - 1, api.MaxTick, top - 1, top})
		}
		return r.IntN(most + 1)
	}
	x := image(r.IntN(5), nil)
	for range r.IntN(12) {
		x.Ports = append(x.Ports, api.Port{Part: number(5), Kind: number(1), Out: r.IntN(2) == 0, Size: number(2), Depth: number(2), Refresh: number(2)})
	}
	for range r.IntN(12) {
		c := api.Channel{Kind: api.Queuing, From: number(len(x.Ports) + 1), Phase: number(12), Period: number(9)}
		if r.IntN(3) == 0 {
			c.Kind = number(1)
		}
		for range r.IntN(5) {
			c.To = append(c.To, number(len(x.Ports)+1))
		}
		x.Channels = append(x.Channels, c)
	}
	return x
}

// TestWellMade: chapter 10 lets stand what wellMade makes, and anyMade makes both sorts.
func TestWellMade(t *testing.T) {
	r := rand.New(rand.NewPCG(18, 1))
	for range 2000 {
		x := wellMade(r)
		if err, number := check.Check(x); err != api.OK {
			t.Fatalf("%v, %v: %d, %d", x.Ports, x.Channels, err, number)
		}
	}
	refused := 0
	for range 1000 {
		if err, _ := check.Check(anyMade(r)); err != api.OK {
			refused++
		}
	}
	if refused < 500 || refused == 1000 {
		t.Errorf("of 1000 images %d are refused", refused)
	}
}
