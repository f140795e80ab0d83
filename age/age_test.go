package age_test

import (
	"fmt"
	"slices"
	"testing"

	"bulkhead/age"
	"bulkhead/api"
	"bulkhead/check"
)

func staysFor(t *testing.T, what string, x api.Image, number, want int, err api.Errno) {
	t.Helper()
	if n, e := age.Stay(x, number); n != want || e != err {
		t.Errorf("P26.2: %s: Stay(%d) = %d, %d, want %d, %d", what, number, n, e, want, err)
	}
}

func ratesAt(t *testing.T, what string, x api.Image, number, ticks, want int, err api.Errno) {
	t.Helper()
	if n, e := age.Rate(x, number, ticks); n != want || e != err {
		t.Errorf("P26.3: %s: Rate(%d, %d) = %d, %d, want %d, %d", what, number, ticks, n, e, want, err)
	}
}

func safeAt(t *testing.T, what string, x api.Image, number, ticks int, want bool, err api.Errno) {
	t.Helper()
	if is, e := age.Safe(x, number, ticks); is != want || e != err {
		t.Errorf("P26.4: %s: Safe(%d, %d) = %v, %d, want %v, %d", what, number, ticks, is, e, want, err)
	}
}

func oldestAt(t *testing.T, what string, x api.Image, number, ticks, want int, err api.Errno) {
	t.Helper()
	if n, e := age.Oldest(x, number, ticks); n != want || e != err {
		t.Errorf("P26.5: %s: Oldest(%d, %d) = %d, %d, want %d, %d", what, number, ticks, n, e, want, err)
	}
}

// refuses wants all calls to have an error, and to tell nothing else.
func refuses(t *testing.T, what string, x api.Image, number, ticks int, err api.Errno) {
	t.Helper()
	if got := ask(x, number, ticks); got != (answers{stayErr: err, rateErr: err, safeErr: err, oldestErr: err}) {
		t.Errorf("P26.1: %s, channel %d, %d ticks: %+v, want %d alone", what, number, ticks, got, err)
	}
}

// queue is a queuing port of one word.
func queue(part int, out bool, depth int) api.Port {
	return api.Port{Part: part, Kind: api.Queuing, Out: out, Size: 1, Depth: depth}
}

// chapter is the image of the chapter's examples.
func chapter() api.Image {
	return api.Image{
		Parts: partitions(2),
		Ports: []api.Port{queue(1, true, 3), queue(2, false, 2), queue(2, false, 5), {Part: 1, Out: true, Size: 1}, {Part: 2, Size: 1, Refresh: 7}, queue(2, false, 1), queue(2, true, 1)},
		Channels: []api.Channel{
			{Kind: api.Queuing, From: 1, To: []int{2, 3}, Phase: 4, Period: 10},
			{Kind: api.Sampling, From: 4, To: []int{5}},
			{Kind: api.Queuing, To: []int{6}},
			{Kind: api.Queuing, From: 7, Period: 1},
		},
	}
}

func TestP26_2_3_4_5_Examples(t *testing.T) {
	x := chapter()
	for number, want := range map[int]int{1: 30, 4: 1} {
		staysFor(t, "the chapter's", x, number, want, api.OK)
	}
	for _, number := range []int{2, 3, 0} {
		staysFor(t, "the chapter's", x, number, 0, api.ErrArg)
	}
	for ticks, want := range map[int]int{0: 0, 1: 1, 10: 1, 11: 2, 21: 3} {
		ratesAt(t, "the chapter's", x, 1, ticks, want, api.OK)
	}
	ratesAt(t, "the chapter's", x, 1, -1, 0, api.ErrArg)
	safeAt(t, "the chapter's", x, 1, 20, true, api.OK)
	safeAt(t, "the chapter's", x, 1, 21, false, api.OK)
	safeAt(t, "the chapter's", x, 4, 1000, true, api.OK)
	safeAt(t, "the chapter's", x, 2, 5, false, api.ErrArg)
	oldestAt(t, "the chapter's", x, 2, 8, 7, api.OK)
	oldestAt(t, "the chapter's", x, 2, 1, 0, api.OK)
	oldestAt(t, "the chapter's", x, 2, 0, 0, api.ErrArg)
	oldestAt(t, "the chapter's", x, 1, 8, 0, api.ErrArg)
}

// full is an image with a channel of each kind, and objects of all sorts.
func full() api.Image {
	x := chapter()
	for i := range x.Parts {
		p := &x.Parts[i]
		p.Words, p.Fixed, p.Init = 4, 1, []int64{7}
		p.Sems, p.Events, p.Buffers = []api.Sem{{Max: 1}}, []bool{true}, []api.Buffer{{Size: 1, Depth: 1}}
		p.Procs = []api.Proc{{Priority: 1, Period: 8, Limit: 8, Capacity: 1, Auto: true}, {Priority: 2}}
	}
	return x
}

type refusal struct {
	err    api.Errno
	change func(x *api.Image)
}

// refused are images that check.Check does not take, each made of the full one.
func refused() map[string]refusal {
	return map[string]refusal{
		"too many partitions": {api.ErrCount, func(x *api.Image) { x.Parts = append(x.Parts, make([]api.Part, 31)...) }},
		"too many ports":      {api.ErrCount, func(x *api.Image) { x.Ports = append(x.Ports, make([]api.Port, 58)...) }},
		"too many channels":   {api.ErrCount, func(x *api.Image) { x.Channels = append(x.Channels, make([]api.Channel, 61)...) }},
		"words below 0":       {api.ErrCount, func(x *api.Image) { x.Parts[1].Words = -1 }},
		"no processes":        {api.ErrCount, func(x *api.Image) { x.Parts[0].Procs = nil }},
		"too much code":       {api.ErrCount, func(x *api.Image) { x.Parts[0].Code = slices.Repeat(x.Parts[0].Code, 1025) }},
		"too many semaphores": {api.ErrCount, func(x *api.Image) { x.Parts[1].Sems = slices.Repeat(x.Parts[1].Sems, 9) }},
		"no budget":           {api.ErrServer, func(x *api.Image) { x.Parts[0].Server.Budget = 0 }},
		"a priority twice":    {api.ErrServer, func(x *api.Image) { x.Parts[1].Server.Priority = x.Parts[0].Server.Priority }},
		"no hyperperiod":      {api.ErrHyper, func(x *api.Image) { x.Parts[1].Server.Period = 1048573 }},
		"too many releases": {api.ErrTable, func(x *api.Image) {
			x.Parts[0].Server, x.Parts[1].Server = api.Server{Period: 1, Budget: 1, Priority: 9}, api.Server{Period: 1 << 15, Budget: 1}
		}},
		"no memory to be fixed":   {api.ErrMemory, func(x *api.Image) { x.Parts[0].Fixed = 5 }},
		"no memory for Init":      {api.ErrMemory, func(x *api.Image) { x.Parts[1].Init = make([]int64, 5) }},
		"no code":                 {api.ErrCode, func(x *api.Image) { x.Parts[0].Code = nil }},
		"Entry behind the code":   {api.ErrProc, func(x *api.Image) { x.Parts[0].Procs[1].Entry = 1 }},
		"Limit above Period":      {api.ErrProc, func(x *api.Image) { x.Parts[1].Procs[0].Limit = 9 }},
		"a semaphore":             {api.ErrObject, func(x *api.Image) { x.Parts[0].Sems[0].Max = 0 }},
		"a buffer":                {api.ErrObject, func(x *api.Image) { x.Parts[1].Buffers[0].Depth = 65 }},
		"an action":               {api.ErrHealth, func(x *api.Image) { x.Parts[0].Health[3] = 6 }},
		"a handler that starts":   {api.ErrHealth, func(x *api.Image) { x.Parts[0].Handler = 1 }},
		"a port of nobody":        {api.ErrPort, func(x *api.Image) { x.Ports[6].Part = 3 }},
		"Depth 0":                 {api.ErrPort, func(x *api.Image) { x.Ports[0].Depth = 0 }},
		"Depth 65":                {api.ErrPort, func(x *api.Image) { x.Ports[0].Depth = 65 }},
		"a To port of Depth 65":   {api.ErrPort, func(x *api.Image) { x.Ports[1].Depth = 65 }},
		"a Refresh of MaxTick":    {api.ErrPort, func(x *api.Image) { x.Ports[4].Refresh = api.MaxTick }},
		"a channel of no kind":    {api.ErrChannel, func(x *api.Image) { x.Channels[0].Kind = 2 }},
		"Period 0":                {api.ErrChannel, func(x *api.Image) { x.Channels[0].Period = 0 }},
		"Period below 0":          {api.ErrChannel, func(x *api.Image) { x.Channels[0].Period = -1 }},
		"Period above MaxPeriod":  {api.ErrChannel, func(x *api.Image) { x.Channels[0].Period = api.MaxPeriod + 1 }},
		"Phase is Period":         {api.ErrChannel, func(x *api.Image) { x.Channels[0].Phase = 10 }},
		"Phase below 0":           {api.ErrChannel, func(x *api.Image) { x.Channels[3].Phase = -1 }},
		"from an in port":         {api.ErrChannel, func(x *api.Image) { x.Channels[0].From = 6 }},
		"from no port":            {api.ErrChannel, func(x *api.Image) { x.Channels[0].From = 8 }},
		"from below 0":            {api.ErrChannel, func(x *api.Image) { x.Channels[0].From = -1 }},
		"to no port":              {api.ErrChannel, func(x *api.Image) { x.Channels[0].To = []int{2, 8} }},
		"to ports that fall":      {api.ErrChannel, func(x *api.Image) { x.Channels[0].To = []int{3, 2} }},
		"from nowhere to nowhere": {api.ErrChannel, func(x *api.Image) { x.Channels[2].To = nil }},
		"a sample with a Period":  {api.ErrChannel, func(x *api.Image) { x.Channels[1].Period = 3 }},
		"the last channel":        {api.ErrChannel, func(x *api.Image) { x.Channels[3].To = []int{2} }},
	}
}

// edges are numbers of channels and of ticks, those that may be and those that may not.
var (
	someChannels = []int{1, 2, 3, 4, 5, 0, -1, bottom, top, 1<<32 + 1, 1<<32 + 2}
	edgeTicks    = []int{1, 10, 0, -1, bottom, top, api.MaxTick, api.MaxTick + 1}
)

// The error of check.Check comes first, whatever the channel and the ticks are.
func TestP26_1_RefusedByCheck(t *testing.T) {
	seen := map[api.Errno]int{}
	for what, c := range refused() {
		x := full()
		c.change(&x)
		if err, _ := check.Check(x); err != c.err {
			t.Fatalf("%s: check says %d, want %d", what, err, c.err)
		}
		for _, number := range someChannels {
			for _, ticks := range edgeTicks {
				refuses(t, what, x, number, ticks, c.err)
			}
		}
		seen[c.err]++
	}
	for err := api.ErrCount; err <= api.ErrMemory; err++ {
		if seen[err] == 0 {
			t.Errorf("no image has the error %d", err)
		}
	}
}

// A number that is no channel's is refused, whatever the ticks are.
func TestP26_1_NoSuchChannel(t *testing.T) {
	all, none := full(), full()
	none.Channels = nil
	short := full()
	short.Channels = short.Channels[:1]
	for what, x := range map[string]api.Image{"four channels": all, "no channels": none, "one channel": short, "nothing": {}, "empty lists": {Parts: []api.Part{}, Ports: []api.Port{}, Channels: []api.Channel{}}} {
		n := len(x.Channels)
		for _, number := range []int{0, -1, -2, -4, bottom, bottom + 1, n + 1, n + 2, 64, 65, 1 << 32, 1<<32 + 1, 1<<32 + 2, -1 << 32, top - 1, top} {
			for _, ticks := range edgeTicks {
				refuses(t, what, x, number, ticks, api.ErrArg)
			}
		}
	}
	// The last one is there.
	staysFor(t, "the last", all, 4, 1, api.OK)
	ratesAt(t, "the last", all, 4, 9, 9, api.OK)
	safeAt(t, "the last", all, 4, 9, true, api.OK)
	staysFor(t, "the only one", short, 1, 30, api.OK)
	all.Channels[3] = api.Channel{Kind: api.Sampling, From: add(&all, api.Port{Part: 2, Out: true, Size: 1})}
	oldestAt(t, "the last", all, 4, 9, 8, api.OK)
	all.Channels = all.Channels[1:2]
	oldestAt(t, "the only one", all, 1, 9, 8, api.OK)
}

// As many channels as an image may have: each has its own bounds.
func TestP26_2_3_4_5_Many(t *testing.T) {
	x := api.Image{Parts: partitions(1)}
	for i := range api.MaxChannels {
		c := api.Channel{Kind: api.Queuing, Period: 100 + i, Phase: i, From: i + 1}
		q := queue(1, true, i+1)
		if i%4 == 3 {
			c, q = api.Channel{Kind: api.Sampling, From: i + 1}, api.Port{Part: 1, Out: true, Size: 1}
		}
		x.Channels, x.Ports = append(x.Channels, c), append(x.Ports, q)
	}
	for i := range api.MaxChannels {
		if i%4 == 3 {
			staysFor(t, "many", x, i+1, 0, api.ErrArg)
			ratesAt(t, "many", x, i+1, 1000, 0, api.ErrArg)
			safeAt(t, "many", x, i+1, 1000, false, api.ErrArg)
			oldestAt(t, "many", x, i+1, 1000, 999, api.OK)
			continue
		}
		staysFor(t, "many", x, i+1, (i+1)*(100+i), api.OK)
		ratesAt(t, "many", x, i+1, 10*(100+i)+1, 11, api.OK)
		safeAt(t, "many", x, i+1, 1000, true, api.OK)
		oldestAt(t, "many", x, i+1, 1000, 0, api.ErrArg)
	}
	refuses(t, "many", x, api.MaxChannels+1, 5, api.ErrArg)
}

// What each call speaks of: all kinds of channels, with all kinds of ends.
func TestP26_1_Kinds(t *testing.T) {
	x := api.Image{Parts: partitions(2)}
	x.Ports = []api.Port{
		queue(1, true, 4), queue(1, true, 4), queue(1, true, 4), queue(2, false, 3), queue(1, false, 3), queue(2, false, 3), queue(2, false, 3), queue(1, false, 3),
		{Part: 1, Out: true, Size: 1}, {Part: 1, Out: true, Size: 1}, {Part: 1, Out: true, Size: 1}, {Part: 2, Size: 1}, {Part: 2, Size: 1}, {Part: 1, Size: 1}, {Part: 2, Size: 1}, {Part: 1, Size: 1},
	}
	x.Channels = []api.Channel{
		{Kind: api.Queuing, From: 1, To: []int{4}, Period: 6}, {Kind: api.Queuing, From: 2, To: []int{5, 6}, Period: 6}, {Kind: api.Queuing, From: 3, Period: 6},
		{Kind: api.Queuing, To: []int{7}}, {Kind: api.Queuing, To: []int{8}},
		{Kind: api.Sampling, From: 9, To: []int{12}}, {Kind: api.Sampling, From: 10, To: []int{13, 14}}, {Kind: api.Sampling, From: 11},
		{Kind: api.Sampling, To: []int{15}}, {Kind: api.Sampling, To: []int{16}},
	}
	carry, sample := []int{1, 2, 3}, []int{6, 7, 8, 9, 10}
	for number := 0; number <= 11; number++ {
		want := answers{stayErr: api.ErrArg, rateErr: api.ErrArg, safeErr: api.ErrArg, oldestErr: api.ErrArg}
		if slices.Contains(carry, number) {
			want = answers{stay: 24, rate: 3, safe: true, oldestErr: api.ErrArg}
		}
		if slices.Contains(sample, number) {
			want.oldest, want.oldestErr = 16, api.OK
		}
		if got := reads(t, "kinds", x, number, 17); got != want {
			t.Errorf("channel %d: %+v, want %+v", number, got, want)
		}
	}
}

// One number of ticks at a time, in each call; a channel that it does not speak of is refused whatever they are.
func TestP26_1_3_4_5_Ticks(t *testing.T) {
	const most = api.MaxTick
	x := chapter()
	for _, c := range []struct {
		ticks, rate1, rate4 int
		safe                bool
		oldest              int
	}{
		{bottom, wrong, wrong, false, wrong}, {bottom + 1, wrong, wrong, false, wrong}, {-most, wrong, wrong, false, wrong}, {-10, wrong, wrong, false, wrong}, {-1, wrong, wrong, false, wrong},
		{0, 0, 0, true, wrong}, {1, 1, 1, true, 0}, {2, 1, 2, true, 1}, {4, 1, 4, true, 3}, {5, 1, 5, true, 4}, {9, 1, 9, true, 8}, {10, 1, 10, true, 9}, {11, 2, 11, true, 10},
		{19, 2, 19, true, 18}, {20, 2, 20, true, 19}, {21, 3, 21, false, 20}, {30, 3, 30, false, 29}, {31, 4, 31, false, 30}, {50, 5, 50, false, 49}, {51, 6, 51, false, 50},
		{1 << 32, 429496730, 1 << 32, false, 1<<32 - 1}, {most - 1, 109951162778, most - 1, false, most - 2}, {most, 109951162778, most, false, most - 1},
		{most + 1, wrong, wrong, false, wrong}, {most + 10, wrong, wrong, false, wrong}, {1 << 62, wrong, wrong, false, wrong}, {top, wrong, wrong, false, wrong},
	} {
		rate := func(number, want int) {
			if want == wrong {
				ratesAt(t, "ticks", x, number, c.ticks, 0, api.ErrArg)
				safeAt(t, "ticks", x, number, c.ticks, false, api.ErrArg)
			} else {
				ratesAt(t, "ticks", x, number, c.ticks, want, api.OK)
				safeAt(t, "ticks", x, number, c.ticks, c.safe || number == 4, api.OK)
			}
		}
		rate(1, c.rate1)
		rate(4, c.rate4)
		if c.oldest == wrong {
			oldestAt(t, "ticks", x, 2, c.ticks, 0, api.ErrArg)
		} else {
			oldestAt(t, "ticks", x, 2, c.ticks, c.oldest, api.OK)
		}
		for _, number := range []int{2, 3} {
			ratesAt(t, "ticks", x, number, c.ticks, 0, api.ErrArg)
			safeAt(t, "ticks", x, number, c.ticks, false, api.ErrArg)
		}
		for _, number := range []int{1, 3, 4} {
			oldestAt(t, "ticks", x, number, c.ticks, 0, api.ErrArg)
		}
	}
}

// Stay and Rate at the ends of what Depth and Period may be; Phase counts for nothing.
func TestP26_2_3_Ends(t *testing.T) {
	const most = api.MaxPeriod
	for _, c := range []struct{ depth, period, stay int }{
		{1, 1, 1}, {2, 1, 2}, {64, 1, 64}, {1, 2, 2}, {1, 10, 10}, {3, 7, 21}, {63, 11, 693}, {64, 11, 704},
		{1, most - 1, 1048575}, {1, most, 1048576}, {2, most, 2097152}, {63, most, 66060288}, {64, most - 1, 67108800}, {64, most, 67108864},
	} {
		for _, phase := range []int{0, c.period / 2, c.period - 1} {
			what := fmt.Sprintf("Depth %d, Period %d, Phase %d", c.depth, c.period, phase)
			x := road(queue(1, true, c.depth), c.period, phase, 1)
			staysFor(t, what, x, 1, c.stay, api.OK)
			ratesAt(t, what, x, 1, 0, 0, api.OK)
			ratesAt(t, what, x, 1, 1, 1, api.OK)
			ratesAt(t, what, x, 1, c.period-1, min(1, c.period-1), api.OK)
			ratesAt(t, what, x, 1, c.period, 1, api.OK)
			ratesAt(t, what, x, 1, c.period+1, 2, api.OK)
			ratesAt(t, what, x, 1, 2*c.period, 2, api.OK)
			ratesAt(t, what, x, 1, 2*c.period+1, 3, api.OK)
			ratesAt(t, what, x, 1, 65*c.period, 65, api.OK)
			ratesAt(t, what, x, 1, api.MaxTick, roundedUp(api.MaxTick, c.period), api.OK)
			ratesAt(t, what, x, 1, api.MaxTick+1, 0, api.ErrArg)
		}
	}
	x := road(queue(1, true, 1), most, 0)
	ratesAt(t, "the greatest Period", x, 1, api.MaxTick, 1<<20, api.OK)
	ratesAt(t, "the greatest Period", x, 1, api.MaxTick-most, 1<<20-1, api.OK)
	ratesAt(t, "the greatest Period", x, 1, api.MaxTick-most+1, 1<<20, api.OK)
	x = road(queue(1, true, 1), 1, 0)
	ratesAt(t, "a Period of 1", x, 1, api.MaxTick, 1<<40, api.OK)
}

// Safe is true up to as many ticks as the least To port has room for, wherever that stands, and no more.
func TestP26_4_TheLeastRoom(t *testing.T) {
	for _, depths := range [][]int{{1}, {2}, {5}, {64}, {1, 1}, {2, 5}, {5, 2}, {64, 1}, {1, 64}, {64, 63}, {9, 4, 7}, {4, 9, 7}, {7, 9, 4}, {8, 8, 8, 8, 3, 8}, slices.Repeat([]int{64}, 63), append(slices.Repeat([]int{64}, 62), 63)} {
		for _, period := range []int{1, 2, 3, 10, 1000, api.MaxPeriod} {
			x := road(queue(1, true, 1), period, period-1, depths...)
			what := fmt.Sprintf("Depths %v, Period %d", depths, period)
			room := slices.Min(depths) * period
			for _, ticks := range []int{0, 1, room / 2, room - 1, room} {
				safeAt(t, what, x, 1, ticks, true, api.OK)
			}
			for _, ticks := range []int{room + 1, room + 2, room + period, 2*room + 1, api.MaxTick - 1, api.MaxTick} {
				safeAt(t, what, x, 1, ticks, false, api.OK)
			}
			for _, ticks := range []int{-1, api.MaxTick + 1} {
				safeAt(t, what, x, 1, ticks, false, api.ErrArg)
			}
			ratesAt(t, what, x, 1, room, slices.Min(depths), api.OK)
			ratesAt(t, what, x, 1, room+1, slices.Min(depths)+1, api.OK)
		}
	}
}

// The room of the out port counts for nothing, nor that of ports that the channel does not lead to.
func TestP26_4_OtherPortsCountForNothing(t *testing.T) {
	for _, depth := range []int{1, 2, 3, 64} {
		x := road(queue(1, true, depth), 5, 0, 3)
		add(&x, queue(2, false, 1))
		x.Channels = append(x.Channels, api.Channel{Kind: api.Queuing, To: []int{add(&x, queue(2, false, 2))}}, api.Channel{Kind: api.Queuing, From: add(&x, queue(1, true, 1)), To: []int{add(&x, queue(2, false, 4))}, Period: 5})
		safeAt(t, "one of several", x, 1, 15, true, api.OK)
		safeAt(t, "one of several", x, 1, 16, false, api.OK)
		safeAt(t, "one of several", x, 3, 20, true, api.OK)
		safeAt(t, "one of several", x, 3, 21, false, api.OK)
	}
	for _, ticks := range []int{0, 1, 1000, api.MaxTick} {
		safeAt(t, "to the outside", road(queue(1, true, 1), 1, 0), 1, ticks, true, api.OK)
		x := road(queue(1, true, 1), 1, 0)
		x.Channels[0].To = []int{}
		safeAt(t, "to the outside, not nil", x, 1, ticks, true, api.OK)
	}
}

// Stay hangs on the channel's own out port, wherever it stands.
func TestP26_2_TheOutPort(t *testing.T) {
	for place := 1; place <= 6; place++ {
		x := api.Image{Parts: partitions(2)}
		for i := 1; i <= 6; i++ {
			add(&x, queue(1+i%2, i == place, 10+i))
		}
		x.Channels = []api.Channel{{Kind: api.Queuing, From: place, Period: 3, Phase: 1}}
		for i := 1; i <= 6; i++ {
			if i != place {
				x.Channels[0].To = append(x.Channels[0].To, i)
			}
		}
		staysFor(t, fmt.Sprintf("the out port is %d", place), x, 1, 3*(10+place), api.OK)
	}
}

// Bounds hang on the channels and the ports alone, not on what the partitions are and do.
func TestP26_2_3_4_5_PartitionsCountForNothing(t *testing.T) {
	one, other := chapter(), full()
	other.Parts = append(other.Parts, partitions(1)...)
	other.Parts[2].Server.Priority = 200
	other.Parts[0].Code = []api.Instr{{Op: 27, Imm: 17}, {}, {Op: 255}}
	for i := range other.Ports {
		other.Ports[i].Part = 1 + i%3
	}
	other.Ports[4].Refresh = 0
	if err, number := check.Check(other); err != api.OK {
		t.Fatal(err, number)
	}
	for number := range 6 {
		for _, ticks := range edgeTicks {
			if a, b := ask(one, number, ticks), ask(other, number, ticks); a != b {
				t.Errorf("channel %d, %d ticks: %+v and %+v", number, ticks, a, b)
			}
		}
	}
}
