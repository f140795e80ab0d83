package port_test

import (
	"math"
	"math/rand/v2"
	"slices"
	"testing"

	"bulkhead/api"
	"bulkhead/check"
	"bulkhead/port"
)

const (
	top    = math.MaxInt
	bottom = math.MinInt
	last   = api.MaxTick - 1
)

// call is a call on ports, with its arguments.
type call struct {
	name   string
	number int
	kind   int
	out    bool
	data   []int64
	now    int
}

// names are all calls on a port.
func names() []string { return []string{"Own", "Push", "Pop", "Lose", "Set", "Last", "Count"} }

// answer is all that a call tells.
type answer struct {
	ok    bool
	data  []int64
	count int // an age, or how many messages there are
	lost  int
	err   api.Errno
}

func (a answer) is(b answer) bool {
	return a.ok == b.ok && slices.Equal(a.data, b.data) && a.count == b.count && a.lost == b.lost && a.err == b.err
}

// on does a call on ports.
func (c call) on(p *port.Ports) (a answer) {
	switch c.name {
	case "Own":
		a.ok = p.Own(c.number, c.kind, c.out)
	case "Push":
		a.ok, a.err = p.Push(c.number, c.data)
	case "Pop":
		a.data, a.ok, a.err = p.Pop(c.number)
	case "Lose":
		a.err = p.Lose(c.number)
	case "Set":
		a.err = p.Set(c.number, c.data, c.now)
	case "Last":
		a.data, a.count, a.ok, a.err = p.Last(c.number, c.now)
	case "Count":
		a.count, a.lost, a.err = p.Count(c.number)
	default:
		panic("no such call: " + c.name)
	}
	return a
}

// world is an image and the number of the partition whose ports are looked at.
type world struct {
	x    api.Image
	part int
}

// port is the partition's port of a number, and whether it has it.
func (w world) port(number int) (api.Port, bool) {
	for i, q := range w.x.Ports {
		if i+1 == number && q.Part == w.part {
			return q, true
		}
	}
	return api.Port{}, false
}

// numbers are those of the partition's ports of some sort.
func (w world) numbers(sort func(q api.Port) bool) []int {
	var list []int
	for i, q := range w.x.Ports {
		if q.Part == w.part && sort(q) {
			list = append(list, i+1)
		}
	}
	return list
}

func isAny(api.Port) bool          { return true }
func isQueuing(q api.Port) bool    { return q.Kind == 1 }
func isQueuingIn(q api.Port) bool  { return q.Kind == 1 && !q.Out }
func isSampling(q api.Port) bool   { return q.Kind == 0 }
func isSamplingIn(q api.Port) bool { return q.Kind == 0 && !q.Out }

// asks is of which sort a port must be for a call (of Own any: it refuses nothing).
func asks(name string) func(api.Port) bool {
	switch name {
	case "Push", "Pop":
		return isQueuing
	case "Lose":
		return isQueuingIn
	case "Set", "Last":
		return isSamplingIn
	}
	return isAny
}

// record is a second reading of the chapter's words: of each port of the image what has been done to it from its beginning on. How it stands is reckoned from that each time.
type record struct {
	world
	came [][][]int64    // all messages, those that it began with first
	gone []int          // how many of them went
	lost []int          // what it began with, and the Loses that were OK
	sets [][]api.Sample // all samples, the one that it began with first
}

// begin is a record of ports that began so; what P17.10 leaves out is left out; it shares nothing with what is handed in.
func begin(w world, from []api.PortState) *record {
	n := len(w.x.Ports)
	m := &record{world: w, came: make([][][]int64, n), gone: make([]int, n), lost: make([]int, n), sets: make([][]api.Sample, n)}
	m.x.Ports = slices.Clone(w.x.Ports)
	for i, s := range clone(from) {
		q, own := w.port(i + 1)
		if !own {
			continue
		}
		m.lost[i] = s.Lost
		if isQueuing(q) {
			m.came[i] = s.Queue
		} else if s.Sample.Has {
			m.sets[i] = []api.Sample{s.Sample}
		}
	}
	return m
}

// queue is what the port at a place holds.
func (m *record) queue(i int) [][]int64 { return m.came[i][m.gone[i]:] }

// sample is the sample of the port at a place.
func (m *record) sample(i int) api.Sample {
	if n := len(m.sets[i]); n > 0 {
		return m.sets[i][n-1]
	}
	return api.Sample{}
}

// state is how all of it stands.
func (m *record) state() []api.PortState {
	var list []api.PortState
	for i := range m.x.Ports {
		list = append(list, api.PortState{Queue: m.queue(i), Sample: m.sample(i), Lost: m.lost[i]})
	}
	return clone(list)
}

// refusal is the error of a call.
func (m *record) refusal(c call) api.Errno {
	q, own := m.port(c.number)
	if c.name == "Own" {
		return api.OK
	}
	if !own || !asks(c.name)(q) {
		return api.ErrPort
	}
	if (c.name == "Push" || c.name == "Set") && len(c.data) != q.Size {
		return api.ErrArg
	}
	if (c.name == "Set" || c.name == "Last") && (c.now < 0 || c.now >= api.MaxTick) {
		return api.ErrArg
	}
	if s := m.sample(c.number - 1); c.name == "Last" && s.Has && c.now < s.Tick {
		return api.ErrArg
	}
	return api.OK
}

// do does a call, and tells what the chapter says that it answers.
func (m *record) do(c call) answer {
	if err := m.refusal(c); err != api.OK {
		return answer{err: err}
	}
	i := c.number - 1
	switch q, own := m.port(c.number); c.name {
	case "Own":
		return answer{ok: own && q.Kind == c.kind && q.Out == c.out}
	case "Push":
		if len(m.queue(i)) < q.Depth {
			m.came[i] = append(m.came[i], slices.Clone(c.data))
			return answer{ok: true}
		}
	case "Pop":
		if list := m.queue(i); len(list) > 0 {
			m.gone[i]++
			return answer{ok: true, data: slices.Clone(list[0])}
		}
	case "Lose":
		m.lost[i]++
	case "Set":
		m.sets[i] = append(m.sets[i], api.Sample{Has: true, Tick: c.now, Data: slices.Clone(c.data)})
	case "Last":
		if s := m.sample(i); s.Has {
			return answer{data: slices.Clone(s.Data), count: c.now - s.Tick, ok: c.now-s.Tick <= q.Refresh}
		}
	case "Count":
		if isQueuing(q) {
			return answer{count: len(m.queue(i)), lost: m.lost[i]}
		}
		if m.sample(i).Has {
			return answer{count: 1, lost: m.lost[i]}
		}
		return answer{lost: m.lost[i]}
	}
	return answer{}
}

// fits tells whether P17.10 lets the partition's ports stand so.
func fits(w world, s []api.PortState) bool {
	if len(s) != len(w.x.Ports) {
		return false
	}
	for _, number := range w.numbers(isQueuing) {
		q, list := w.x.Ports[number-1], s[number-1].Queue
		if len(list) > q.Depth || slices.ContainsFunc(list, func(data []int64) bool { return len(data) != q.Size }) {
			return false
		}
	}
	for _, number := range w.numbers(isSampling) {
		if sample := s[number-1].Sample; sample.Has && len(sample.Data) != w.x.Ports[number-1].Size {
			return false
		}
	}
	return true
}

// pair is ports beside their record.
type pair struct {
	t     *testing.T
	ports *port.Ports
	m     *record
}

func newPair(t *testing.T, w world) *pair {
	t.Helper()
	x := &pair{t: t, ports: port.New(w.x, w.part), m: begin(w, nil)}
	x.stands("New")
	return x
}

// loadPair is ports that are loaded; the load must be let be.
func loadPair(t *testing.T, w world, s []api.PortState) *pair {
	t.Helper()
	ports, err := port.Load(w.x, w.part, s)
	if ports == nil || err != api.OK {
		t.Fatalf("Load of %v, partition %d, with %v: %d", w.x.Ports, w.part, s, err)
	}
	x := &pair{t: t, ports: ports, m: begin(w, s)}
	x.stands("Load")
	return x
}

// refused wants a load to be ErrForm and nil.
func refused(t *testing.T, what string, w world, s []api.PortState) {
	t.Helper()
	if ports, err := port.Load(w.x, w.part, s); ports != nil || err != api.ErrForm {
		t.Errorf("%s: Load of %v, partition %d, with %v: %v, %d", what, w.x.Ports, w.part, s, ports, err)
	}
}

// stands wants every port to be as the record has it, told by State and one by one.
func (x *pair) stands(behind string) {
	x.t.Helper()
	if got, want := x.ports.State(), x.m.state(); !same(got, want) {
		x.t.Fatalf("behind %s: State = %v, want %v", behind, got, want)
	}
	for number := range len(x.m.x.Ports) + 2 {
		c := count(number)
		if got, want := c.on(x.ports), x.m.do(c); !got.is(want) {
			x.t.Fatalf("behind %s: %+v = %+v, want %+v", behind, c, got, want)
		}
	}
	for _, number := range x.m.numbers(isSamplingIn) {
		c := latest(number, max(0, x.m.sample(number-1).Tick))
		if got, want := c.on(x.ports), x.m.do(c); !got.is(want) {
			x.t.Fatalf("behind %s: %+v = %+v, want %+v", behind, c, got, want)
		}
	}
}

// do does a call on both, and wants the same answer and the same ports behind it.
func (x *pair) do(c call) answer {
	x.t.Helper()
	got, want := c.on(x.ports), x.m.do(c)
	if !got.is(want) {
		x.t.Fatalf("%+v = %+v, want %+v", c, got, want)
	}
	x.stands(c.name)
	return got
}

// must wants calls to be done: a Push to be true, the others to be OK.
func (x *pair) must(list ...call) {
	x.t.Helper()
	for _, c := range list {
		if a := x.do(c); a.err != api.OK || c.name == "Push" && !a.ok {
			x.t.Fatalf("%+v = %+v", c, a)
		}
	}
}

// denies wants calls to be false, with nothing beside it and without an error, and to change nothing.
func (x *pair) denies(list ...call) {
	x.t.Helper()
	x.allAre(answer{}, list)
}

// refuses wants calls to be an error, with nothing beside it and nothing changed.
func (x *pair) refuses(err api.Errno, list ...call) {
	x.t.Helper()
	x.allAre(answer{err: err}, list)
}

// allAre wants calls to answer this, and to change nothing.
func (x *pair) allAre(want answer, list []call) {
	x.t.Helper()
	for _, c := range list {
		before := x.ports.State()
		if a := x.do(c); !a.is(want) {
			x.t.Fatalf("%+v = %+v, want %+v", c, a, want)
		}
		if got := x.ports.State(); !same(got, before) {
			x.t.Fatalf("%+v has changed %v to %v", c, before, got)
		}
	}
}

// pops wants Pop to answer this message.
func (x *pair) pops(number int, want ...int64) {
	x.t.Helper()
	if a := x.do(pop(number)); !a.is(answer{ok: true, data: want}) {
		x.t.Fatalf("Pop(%d) = %+v, want %v", number, a, want)
	}
}

// tells wants Last to answer this.
func (x *pair) tells(number, now, age int, fresh bool, want ...int64) {
	x.t.Helper()
	if a := x.do(latest(number, now)); !a.is(answer{data: want, count: age, ok: fresh}) {
		x.t.Fatalf("Last(%d, %d) = %+v, want %v, %d, %v", number, now, a, want, age, fresh)
	}
}

// Calls, in short.
func own(n, kind int, out bool) call  { return call{name: "Own", number: n, kind: kind, out: out} }
func push(n int, words ...int64) call { return call{name: "Push", number: n, data: words} }
func pop(n int) call                  { return call{name: "Pop", number: n} }
func lose(n int) call                 { return call{name: "Lose", number: n} }
func set(n int, now int, words ...int64) call {
	return call{name: "Set", number: n, now: now, data: words}
}
func latest(n, now int) call { return call{name: "Last", number: n, now: now} }
func count(n int) call       { return call{name: "Count", number: n} }

// words is n words, from a number on.
func words(n int, from int64) []int64 {
	list := make([]int64, n)
	for i := range list {
		list[i] = from + int64(i)
	}
	return list
}

// messages are n messages of so many words, all unlike.
func messages(n, size int, from int64) [][]int64 {
	list := make([][]int64, n)
	for i := range list {
		list[i] = words(size, from+int64(100*i))
	}
	return list
}

// same tells whether two states are the same; nil and an empty list are.
func same(a, b []api.PortState) bool { return slices.EqualFunc(a, b, samePort) }

func samePort(a, b api.PortState) bool {
	return sameMessages(a.Queue, b.Queue) && a.Lost == b.Lost &&
		a.Sample.Has == b.Sample.Has && a.Sample.Tick == b.Sample.Tick && slices.Equal(a.Sample.Data, b.Sample.Data)
}

func sameMessages(a, b [][]int64) bool { return slices.EqualFunc(a, b, slices.Equal) }

// clone is a state that shares nothing with another, at any depth.
func clone(s []api.PortState) []api.PortState {
	list := make([]api.PortState, len(s))
	for i, q := range s {
		list[i] = q
		list[i].Sample.Data = slices.Clone(q.Sample.Data)
		list[i].Queue = nil
		for _, data := range q.Queue {
			list[i].Queue = append(list[i].Queue, slices.Clone(data))
		}
	}
	return list
}

// with is a state that is changed by a function; what it was made from stays.
func with(s []api.PortState, change func(x []api.PortState)) []api.PortState {
	s = clone(s)
	change(s)
	return s
}

// Ports, in short.
func queuingIn(part, size, depth int) api.Port {
	return api.Port{Part: part, Kind: api.Queuing, Size: size, Depth: depth}
}

func queuingOut(part, size, depth int) api.Port {
	return api.Port{Part: part, Kind: api.Queuing, Out: true, Size: size, Depth: depth}
}

func samplingIn(part, size, refresh int) api.Port {
	return api.Port{Part: part, Kind: api.Sampling, Size: size, Refresh: refresh}
}

func samplingOut(part, size int) api.Port {
	return api.Port{Part: part, Kind: api.Sampling, Out: true, Size: size}
}

// image is an image of so many partitions, with these ports.
func image(parts int, ports ...api.Port) api.Image {
	x := api.Image{Ports: ports}
	for i := range parts {
		x.Parts = append(x.Parts, api.Part{Server: api.Server{Period: 1, Budget: 1, Priority: i}, Code: make([]api.Instr, 1), Procs: make([]api.Proc, 1)})
	}
	return x
}

// chapter is the image of the chapter's examples, and partition 1.
func chapter() world {
	return world{image(2, queuingIn(1, 2, 2), samplingIn(1, 1, 5), queuingOut(2, 1, 1)), 1}
}

// each is a partition 2 with one port of each sort, each between ports of the same sort of partitions 1 and 3. Its numbers are 2, 5, 8 and 11.
func each() world {
	var ports []api.Port
	for part := 1; part <= 3; part++ {
		ports = append(ports, queuingIn(part, 2, 3))
	}
	for part := 1; part <= 3; part++ {
		ports = append(ports, queuingOut(part, 1, 2))
	}
	for part := 1; part <= 3; part++ {
		ports = append(ports, samplingIn(part, 2, 10))
	}
	for part := 1; part <= 3; part++ {
		ports = append(ports, samplingOut(part, 3))
	}
	return world{image(3, ports...), 2}
}

// families are images that chapter 10 lets stand, each with a partition of its.
func families() map[string]world {
	var edges, spread, crowd []api.Port
	for _, size := range []int{1, 2, api.MaxSize} {
		for _, depth := range []int{1, 2, api.MaxDepth} {
			edges = append(edges, queuingIn(1, size, depth), queuingOut(1, size, depth))
		}
		for _, refresh := range []int{0, 1, last - 1, last} {
			edges = append(edges, samplingIn(1, size, refresh))
		}
		edges = append(edges, samplingOut(1, size))
	}
	for i := range api.MaxPorts {
		spread = append(spread, []api.Port{queuingIn(i%5+1, 1, 2), queuingOut(i%5+1, 2, 1), samplingIn(i%5+1, 1, 3), samplingOut(i%5+1, 1)}[i%4])
		crowd = append(crowd, []api.Port{queuingIn(1, 2, 2), samplingIn(1, 1, 4), queuingOut(1, 1, 2), samplingOut(1, 2)}[i/2%4])
	}
	return map[string]world{
		"the chapter's":               chapter(),
		"the chapter's, of 2":         {chapter().x, 2},
		"each, of 1":                  {each().x, 1},
		"each, of 2":                  each(),
		"each, of 3":                  {each().x, 3},
		"no partition, no port":       {image(0), 1},
		"no port":                     {image(3), 2},
		"others' ports alone":         {image(3, queuingIn(1, 1, 1), samplingIn(3, 1, 1)), 2},
		"a queuing in port alone":     {image(1, queuingIn(1, 1, 1)), 1},
		"a queuing out port alone":    {image(1, queuingOut(1, 1, 1)), 1},
		"a sampling in port alone":    {image(1, samplingIn(1, 1, 0)), 1},
		"a sampling out port alone":   {image(1, samplingOut(1, 1)), 1},
		"all numbers at their edges":  {image(1, edges...), 1},
		"all ports, one partition's":  {image(1, crowd...), 1},
		"all ports, many's, of 1":     {image(5, spread...), 1},
		"all ports, many's, of 3":     {image(5, spread...), 3},
		"all ports, many's, of 5":     {image(5, spread...), 5},
		"own ports first":             {image(2, queuingIn(1, 1, 2), samplingIn(1, 2, 3), queuingIn(2, 1, 2), samplingIn(2, 2, 3)), 1},
		"own ports last":              {image(2, queuingIn(1, 1, 2), samplingIn(1, 2, 3), queuingIn(2, 1, 2), samplingIn(2, 2, 3)), 2},
		"the last of all partitions":  {image(api.MaxParts, queuingOut(api.MaxParts, 3, 2), samplingIn(1, 1, 1), samplingIn(api.MaxParts, 1, 1)), api.MaxParts},
		"one of many, deep":           {image(2, queuingIn(2, 3, 5), queuingIn(1, 3, 7), queuingOut(1, 1, api.MaxDepth), queuingIn(2, 1, 1)), 1},
		"a partition that is none":    {each().x, 4},
		"partition 0":                 {each().x, 0},
		"a partition below 0":         {each().x, -2},
		"the greatest partition":      {each().x, top},
		"the least partition":         {each().x, bottom},
		"a far partition, low bits 2": {each().x, 1<<32 + 2},
	}
}

// illMade are images that chapter 10 does not let stand: of these what is answered is free.
func illMade() map[string]world {
	ends := []int{bottom, -1, 0, 1, 2, 3, top}
	var sorts, sizes, parts []api.Port
	for _, a := range ends {
		for _, out := range []bool{false, true} {
			sorts = append(sorts, api.Port{Part: 1, Kind: a, Out: out, Size: 2, Depth: 2, Refresh: 2})
		}
		for _, b := range ends {
			sizes = append(sizes, queuingIn(1, a, b), queuingOut(1, a, b), samplingIn(1, a, b), samplingOut(1, a))
		}
		parts = append(parts, queuingIn(a, 1, 1), samplingIn(a, 1, 1))
	}
	return map[string]world{
		"no partitions":        {image(0, chapter().x.Ports...), 1},
		"kinds of all sorts":   {image(1, sorts...), 1},
		"sizes of all sorts":   {image(1, sizes...), 1},
		"parts of all sorts":   {image(1, parts...), 1},
		"part 0":               {image(1, parts...), 0},
		"the least part":       {image(1, parts...), bottom},
		"the greatest part":    {image(1, parts...), top},
		"too many":             {image(1, slices.Repeat(chapter().x.Ports[:2], 50)...), 1},
		"too long, too deep":   {image(1, queuingIn(1, api.MaxSize+1, api.MaxDepth+1), samplingIn(1, api.MaxSize+1, api.MaxTick)), 1},
		"two kinds' numbers":   {image(1, api.Port{Part: 1, Kind: api.Sampling, Size: 1, Depth: 3, Refresh: 1}, api.Port{Part: 1, Kind: api.Queuing, Size: 1, Depth: 1, Refresh: 4}), 1},
		"a refresh of no ends": {image(1, samplingIn(1, 1, bottom), samplingIn(1, 1, top)), 1},
	}
}

// sorted are the names of images in one order, so that chance of a fixed seed is the same each time.
func sorted(kinds map[string]world) []string {
	var list []string
	for what := range kinds {
		list = append(list, what)
	}
	slices.Sort(list)
	return list
}

// TestKinds: chapter 10 lets the families stand, and the others not.
func TestKinds(t *testing.T) {
	for what, w := range families() {
		if err, number := check.Check(w.x); err != api.OK {
			t.Errorf("%s: %d, %d", what, err, number)
		}
	}
	for what, w := range illMade() {
		if err, _ := check.Check(w.x); err == api.OK {
			t.Errorf("%s may be", what)
		}
	}
}

// oneOf is one of a list, by chance.
func oneOf[T any](r *rand.Rand, list []T) T { return list[r.IntN(len(list))] }

// chance is a call by chance, mostly on a port of the partition that it suits; its words are unlike those of other calls.
func chance(r *rand.Rand, m *record, mark int64) call {
	c := call{name: oneOf(r, names()), kind: oneOf(r, []int{0, 1, 0, 1, 0, 1, 2, -1, top}), out: r.IntN(2) == 0}
	n := len(m.x.Ports)
	c.number = oneOf(r, []int{bottom, -1, 0, n, n + 1, top})
	if list := m.numbers(asks(c.name)); len(list) > 0 && r.IntN(5) > 0 {
		c.number = oneOf(r, list)
	} else if r.IntN(3) > 0 {
		c.number = 1 + r.IntN(n+1)
	}
	size := 1 + r.IntN(3)
	var sample api.Sample
	q, is := m.port(c.number)
	if is {
		size, sample = q.Size, m.sample(c.number-1)
	}
	if r.IntN(8) == 0 {
		size = max(0, size+oneOf(r, []int{-1, 1, -size}))
	}
	c.data = words(size, 1000*mark)
	c.now = oneOf(r, []int{r.IntN(30), r.IntN(30), 0, last, sample.Tick, sample.Tick, sample.Tick + 1, sample.Tick + q.Refresh, sample.Tick + q.Refresh + 1, sample.Tick - 1})
	if r.IntN(20) == 0 {
		c.now = oneOf(r, []int{bottom, -1, api.MaxTick, top})
	}
	return c
}

// standing is a state by chance that P17.10 lets be; of ports and fields that are not asked it tells something too.
func standing(r *rand.Rand, w world) []api.PortState {
	list := make([]api.PortState, len(w.x.Ports))
	for i, q := range w.x.Ports {
		mark := int64(-1000 * (i + 1))
		s := &list[i]
		s.Lost = oneOf(r, []int{0, 0, 1, 7, -1, bottom, top - 1<<32})
		s.Queue = messages(r.IntN(5), r.IntN(4), mark)
		s.Sample = api.Sample{Has: r.IntN(2) == 0, Tick: oneOf(r, []int{bottom, -1, 0, 5, top}), Data: words(r.IntN(4), mark)}
		if _, own := w.port(i + 1); !own {
			continue
		}
		if isQueuing(q) {
			s.Queue = messages(oneOf(r, []int{0, 1, q.Depth / 2, q.Depth - 1, q.Depth}), q.Size, mark)
		} else if s.Sample.Has {
			s.Sample.Tick, s.Sample.Data = oneOf(r, []int{0, 1, r.IntN(30), last - 1, last}), words(q.Size, mark)
		}
	}
	return list
}
