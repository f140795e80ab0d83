package check_test

import (
	"cmp"
	"math/big"
	"slices"

	"bulkhead/api"
)

// complaint is one thing that the chapter's words find wrong with an image: at which of P10.3's six steps, with which number, at which place of the order within a step.
type complaint struct {
	step, number, order int
	err                 api.Errno
}

// reading is the chapter's words on images, read a second time: all that is wrong is gathered, wherever it stands, and what comes first is picked from it.
type reading struct {
	x    api.Image
	list []complaint
}

func (o *reading) want(ok bool, step, number, order int, err api.Errno) {
	if !ok {
		o.list = append(o.list, complaint{step, number, order, err})
	}
}

func (o *reading) first() (api.Errno, int) {
	if len(o.list) == 0 {
		return api.OK, 0
	}
	least := slices.MinFunc(o.list, func(a, b complaint) int {
		return cmp.Or(cmp.Compare(a.step, b.step), cmp.Compare(a.number, b.number), cmp.Compare(a.order, b.order))
	})
	return least.err, least.number
}

func readCheck(x api.Image) (api.Errno, int) {
	o := &reading{x: x}
	o.want(len(x.Parts) <= 32, 1, 0, 0, api.ErrCount)
	o.want(len(x.Ports) <= 64, 1, 0, 0, api.ErrCount)
	o.want(len(x.Channels) <= 64, 1, 0, 0, api.ErrCount)
	var servers []api.Server
	for i, p := range x.Parts {
		o.counts(i+1, p)
		servers = append(servers, p.Server)
		o.part(i+1, p)
	}
	err, number := readServers(servers)
	o.want(err == api.OK, 3, number, 0, err)
	if err == api.OK {
		_, err = readHyper(servers)
		o.want(err == api.OK, 3, 0, 0, err)
	}
	for i, q := range x.Ports {
		o.port(i+1, q)
	}
	for i, c := range x.Channels {
		o.channel(i+1, c)
	}
	return o.first()
}

func (o *reading) counts(number int, p api.Part) {
	o.want(p.Words >= 0 && p.Words <= 4096, 2, number, 0, api.ErrCount)
	o.want(len(p.Code) <= 1024, 2, number, 0, api.ErrCount)
	o.want(len(p.Procs) >= 1 && len(p.Procs) <= 16, 2, number, 0, api.ErrCount)
	o.want(len(p.Sems) <= 8 && len(p.Events) <= 8 && len(p.Buffers) <= 8, 2, number, 0, api.ErrCount)
}

func (o *reading) part(number int, p api.Part) {
	o.want(p.Fixed >= 0 && p.Fixed <= p.Words, 4, number, 1, api.ErrMemory)
	o.want(len(p.Init) <= p.Words, 4, number, 1, api.ErrMemory)
	o.want(len(p.Code) != 0, 4, number, 2, api.ErrCode)
	for _, q := range p.Procs {
		o.want(q.Entry >= 0 && q.Entry < len(p.Code), 4, number, 3, api.ErrProc)
		o.want(q.Priority >= 0 && q.Priority <= 255, 4, number, 3, api.ErrProc)
		o.want(q.Period >= 0 && q.Period < 1<<40, 4, number, 3, api.ErrProc)
		o.want(q.Limit >= 0 && q.Limit < 1<<40, 4, number, 3, api.ErrProc)
		if q.Period != 0 {
			o.want(q.Limit <= q.Period, 4, number, 3, api.ErrProc)
		}
		o.want(q.Capacity >= 0 && q.Capacity <= 2147483647, 4, number, 3, api.ErrProc)
	}
	for _, s := range p.Sems {
		o.want(s.Max >= 1 && s.Max <= 2147483647 && s.Start >= 0 && s.Start <= s.Max, 4, number, 4, api.ErrObject)
	}
	for _, b := range p.Buffers {
		o.want(b.Size >= 1 && b.Size <= 16 && b.Depth >= 1 && b.Depth <= 64, 4, number, 4, api.ErrObject)
	}
	for kind, action := range p.Health {
		o.want(action >= 0 && action <= 5 && (kind != 0 || action == 0), 4, number, 5, api.ErrHealth)
	}
	ok := p.Handler == 0
	for i, q := range p.Procs {
		ok = ok || p.Handler == i+1 && q.Period == 0 && q.Limit == 0 && !q.Auto
	}
	o.want(ok, 4, number, 5, api.ErrHealth)
}

func (o *reading) port(number int, q api.Port) {
	least, most, refresh := 0, 0, 0
	switch {
	case q.Kind == 1:
		least, most = 1, 64
	case !q.Out:
		refresh = 1<<40 - 1
	}
	o.want(q.Part >= 1 && q.Part <= len(o.x.Parts), 5, number, 0, api.ErrPort)
	o.want(q.Kind == 0 || q.Kind == 1, 5, number, 0, api.ErrPort)
	o.want(q.Size >= 1 && q.Size <= 16, 5, number, 0, api.ErrPort)
	o.want(q.Depth >= least && q.Depth <= most, 5, number, 0, api.ErrPort)
	o.want(q.Refresh >= 0 && q.Refresh <= refresh, 5, number, 0, api.ErrPort)
}

func (o *reading) channel(number int, c api.Channel) {
	want := func(ok bool) { o.want(ok, 6, number, 0, api.ErrChannel) }
	ahead := o.x.Channels[:number-1]
	sizes := map[int]int{}
	end := func(n int, out bool) {
		ok := false
		for i, q := range o.x.Ports {
			if i+1 == n {
				ok = q.Out == out && q.Kind == c.Kind
				sizes[q.Size]++
			}
		}
		want(ok)
	}
	want(c.Kind == 0 || c.Kind == 1)
	if c.From != 0 {
		end(c.From, true)
		for _, o := range ahead {
			want(o.From != c.From)
		}
	}
	for i, n := range c.To {
		end(n, false)
		want(i == 0 || n > c.To[i-1])
		for _, o := range ahead {
			want(!slices.Contains(o.To, n))
		}
	}
	want(len(sizes) < 2)
	want(c.From != 0 || len(c.To) != 0)
	if c.Kind == 1 && c.From != 0 {
		want(c.Period >= 1 && c.Period <= 1<<20 && c.Phase >= 0 && c.Phase < c.Period)
	} else {
		want(c.Period == 0 && c.Phase == 0)
	}
}

func readServers(list []api.Server) (api.Errno, int) {
	if len(list) > 32 {
		return api.ErrCount, 0
	}
	held := map[int]int{}
	for i, s := range list {
		held[s.Priority]++
		if s.Period < 1 || s.Period > 1<<20 || s.Budget < 1 || s.Budget > s.Period || s.Offset < 0 || s.Offset >= s.Period || s.Priority < 0 || s.Priority > 255 || held[s.Priority] > 1 {
			return api.ErrServer, i + 1
		}
	}
	return api.OK, 0
}

// readHyper reckons with numbers of any length.
func readHyper(list []api.Server) (int, api.Errno) {
	if err, _ := readServers(list); err != api.OK {
		return 0, err
	}
	multiple := big.NewInt(1)
	for _, s := range list {
		period := big.NewInt(int64(s.Period))
		common := new(big.Int).GCD(nil, nil, multiple, period)
		multiple.Div(multiple.Mul(multiple, period), common)
	}
	if multiple.Cmp(big.NewInt(1<<20)) > 0 {
		return 0, api.ErrHyper
	}
	sum := new(big.Int)
	for _, s := range list {
		twice := new(big.Int).Mul(multiple, big.NewInt(2))
		sum.Add(sum, twice.Div(twice, big.NewInt(int64(s.Period))))
	}
	if sum.Cmp(big.NewInt(65536)) > 0 {
		return 0, api.ErrTable
	}
	return int(multiple.Int64()), api.OK
}

// readScript is the chapter's words on scripts, of an image that may be.
func readScript(x api.Image, inputs []api.Input) (api.Errno, int) {
	if len(inputs) > 65536 {
		return api.ErrLong, 0
	}
	before := 0
	for i, in := range inputs {
		ok := in.Tick >= before && in.Tick < 1<<40
		switch in.Kind {
		case 1:
			ok = ok && slices.Contains(outside(x), in.Target) && len(in.Data) == size(x, in.Target)
		case 2:
			ok = ok && in.Target >= 1 && in.Target <= len(x.Parts) && len(in.Data) == 0
		default:
			ok = false
		}
		if !ok {
			return api.ErrScript, i
		}
		before = in.Tick
	}
	return api.OK, 0
}

// outside are the numbers of the channels that come from there.
func outside(x api.Image) []int {
	var list []int
	for i, c := range x.Channels {
		if c.From == 0 {
			list = append(list, i+1)
		}
	}
	return list
}

// size is that of a channel's ports.
func size(x api.Image, channel int) int {
	c := x.Channels[channel-1]
	if len(c.To) > 0 {
		return x.Ports[c.To[0]-1].Size
	}
	return x.Ports[c.From-1].Size
}
