package objects_test

import (
	"math"
	"math/rand/v2"
	"slices"
	"testing"

	"bulkhead/api"
	"bulkhead/check"
	"bulkhead/objects"
)

const (
	top    = math.MaxInt
	bottom = math.MinInt
)

// call is a call on a set, with its arguments.
type call struct {
	name   string
	number int
	up     bool
	data   []int64
}

// names are all calls on an object.
func names() []string { return []string{"Down", "Up", "Count", "Raise", "IsUp", "Put", "Get"} }

// answer is all that a call tells.
type answer struct {
	ok    bool
	count int
	data  []int64
	err   api.Errno
}

func (a answer) is(b answer) bool {
	return a.ok == b.ok && a.count == b.count && slices.Equal(a.data, b.data) && a.err == b.err
}

// on does a call on a set.
func (c call) on(s *objects.Set) (a answer) {
	switch c.name {
	case "Down":
		a.ok, a.err = s.Down(c.number)
	case "Up":
		a.ok, a.err = s.Up(c.number)
	case "Count":
		a.count, a.err = s.Count(c.number)
	case "Raise":
		a.ok, a.err = s.Raise(c.number, c.up)
	case "IsUp":
		a.ok, a.err = s.IsUp(c.number)
	case "Put":
		a.ok, a.err = s.Put(c.number, c.data)
	case "Get":
		a.data, a.ok, a.err = s.Get(c.number)
	default:
		panic("no such call: " + c.name)
	}
	return a
}

// record is a second reading of the chapter's words: of each object what has been done to it from its beginning on. How it stands is reckoned from that each time.
type record struct {
	part   api.Part
	from   api.ObjectState // what it began with
	ups    []int           // of each semaphore: Ups that were true
	downs  []int           // of each semaphore: Downs that were true
	raised [][]bool        // of each event: what it was made
	gone   []int           // of each buffer: how many messages went
	came   [][][]int64     // of each buffer: all messages, those that it began with first
}

// begin is a record of objects that began so; it shares nothing with what is handed in.
func begin(p api.Part, from api.ObjectState) *record {
	m := &record{part: clonePart(p), from: clone(from), came: clone(from).Buffers}
	m.ups, m.downs = make([]int, len(p.Sems)), make([]int, len(p.Sems))
	m.raised = make([][]bool, len(p.Events))
	m.gone = make([]int, len(p.Buffers))
	return m
}

// fresh is a state as New makes it.
func fresh(p api.Part) api.ObjectState {
	x := api.ObjectState{Events: slices.Clone(p.Events), Buffers: make([][][]int64, len(p.Buffers))}
	for _, s := range p.Sems {
		x.Sems = append(x.Sems, s.Start)
	}
	return x
}

func (m *record) count(i int) int { return m.from.Sems[i] + m.ups[i] - m.downs[i] }

func (m *record) isUp(i int) bool {
	if n := len(m.raised[i]); n > 0 {
		return m.raised[i][n-1]
	}
	return m.from.Events[i]
}

func (m *record) messages(i int) [][]int64 { return m.came[i][m.gone[i]:] }

// state is how all of it stands.
func (m *record) state() api.ObjectState {
	x := api.ObjectState{}
	for i := range m.part.Sems {
		x.Sems = append(x.Sems, m.count(i))
	}
	for i := range m.part.Events {
		x.Events = append(x.Events, m.isUp(i))
	}
	for i := range m.part.Buffers {
		x.Buffers = append(x.Buffers, m.messages(i))
	}
	return clone(x)
}

// do does a call, and tells what the chapter says that it answers.
func (m *record) do(c call) answer {
	there := map[string]int{
		"Down": len(m.part.Sems), "Up": len(m.part.Sems), "Count": len(m.part.Sems),
		"Raise": len(m.part.Events), "IsUp": len(m.part.Events),
		"Put": len(m.part.Buffers), "Get": len(m.part.Buffers),
	}
	i := c.number - 1
	if c.number <= 0 || c.number > there[c.name] || c.name == "Put" && len(c.data) != m.part.Buffers[i].Size {
		return answer{err: api.ErrArg}
	}
	switch c.name {
	case "Down":
		if m.count(i) > 0 {
			m.downs[i]++
			return answer{ok: true}
		}
	case "Up":
		if m.count(i) < m.part.Sems[i].Max {
			m.ups[i]++
			return answer{ok: true}
		}
	case "Count":
		return answer{count: m.count(i)}
	case "Raise":
		was := m.isUp(i)
		m.raised[i] = append(m.raised[i], c.up)
		return answer{ok: was}
	case "IsUp":
		return answer{ok: m.isUp(i)}
	case "Put":
		if len(m.messages(i)) < m.part.Buffers[i].Depth {
			m.came[i] = append(m.came[i], slices.Clone(c.data))
			return answer{ok: true}
		}
	case "Get":
		if list := m.messages(i); len(list) > 0 {
			m.gone[i]++
			return answer{ok: true, data: slices.Clone(list[0])}
		}
	}
	return answer{}
}

// fits tells whether P16.2 lets a partition's objects stand so.
func fits(p api.Part, s api.ObjectState) bool {
	if len(s.Sems) != len(p.Sems) || len(s.Events) != len(p.Events) || len(s.Buffers) != len(p.Buffers) {
		return false
	}
	for i, n := range s.Sems {
		if n < 0 || n > p.Sems[i].Max {
			return false
		}
	}
	for i, list := range s.Buffers {
		if len(list) > 0 && len(list) > p.Buffers[i].Depth {
			return false
		}
		if slices.ContainsFunc(list, func(data []int64) bool { return len(data) != p.Buffers[i].Size }) {
			return false
		}
	}
	return true
}

// pair is a set beside its record.
type pair struct {
	t   *testing.T
	set *objects.Set
	m   *record
}

func newPair(t *testing.T, p api.Part) *pair {
	t.Helper()
	x := &pair{t: t, set: objects.New(p), m: begin(p, fresh(p))}
	x.stands("New")
	return x
}

// loadPair is a set that is loaded; the load must be let be.
func loadPair(t *testing.T, p api.Part, s api.ObjectState) *pair {
	t.Helper()
	set, err := objects.Load(p, s)
	if set == nil || err != api.OK {
		t.Fatalf("Load of %v with %v: %d", show(p), s, err)
	}
	x := &pair{t: t, set: set, m: begin(p, s)}
	x.stands("Load")
	return x
}

// stands wants every object to be as the record has it, told by State and one by one.
func (x *pair) stands(behind string) {
	x.t.Helper()
	want := x.m.state()
	if got := x.set.State(); !same(got, want) {
		x.t.Fatalf("behind %s: State = %v, want %v", behind, got, want)
	}
	for i, count := range want.Sems {
		if n, err := x.set.Count(i + 1); n != count || err != api.OK {
			x.t.Fatalf("behind %s: Count(%d) = %d, %d; want %d", behind, i+1, n, err, count)
		}
	}
	for i, up := range want.Events {
		if is, err := x.set.IsUp(i + 1); is != up || err != api.OK {
			x.t.Fatalf("behind %s: IsUp(%d) = %v, %d; want %v", behind, i+1, is, err, up)
		}
	}
}

// do does a call on both, and wants the same answer and the same objects behind it.
func (x *pair) do(c call) answer {
	x.t.Helper()
	got, want := c.on(x.set), x.m.do(c)
	if !got.is(want) {
		x.t.Fatalf("%+v = %+v, want %+v", c, got, want)
	}
	x.stands(c.name)
	return got
}

// must wants calls to be true.
func (x *pair) must(list ...call) {
	x.t.Helper()
	for _, c := range list {
		if a := x.do(c); !a.ok || a.err != api.OK {
			x.t.Fatalf("%+v = %+v", c, a)
		}
	}
}

// denies wants calls to be false, without an error.
func (x *pair) denies(list ...call) {
	x.t.Helper()
	x.allAre(answer{}, list)
}

// refuses wants calls to be ErrArg, with nothing beside it and nothing changed.
func (x *pair) refuses(list ...call) {
	x.t.Helper()
	x.allAre(answer{err: api.ErrArg}, list)
}

// allAre wants calls to answer this, and to change nothing.
func (x *pair) allAre(want answer, list []call) {
	x.t.Helper()
	for _, c := range list {
		before := x.set.State()
		if a := x.do(c); !a.is(want) {
			x.t.Fatalf("%+v = %+v, want %+v", c, a, want)
		}
		if got := x.set.State(); !same(got, before) {
			x.t.Fatalf("%+v has changed %v to %v", c, before, got)
		}
	}
}

// gets wants Get to answer this message.
func (x *pair) gets(buffer int, want ...int64) {
	x.t.Helper()
	if a := x.do(get(buffer)); !a.is(answer{ok: true, data: want}) {
		x.t.Fatalf("Get(%d) = %+v, want %v", buffer, a, want)
	}
}

// Calls, in short.
func down(n int) call                { return call{name: "Down", number: n} }
func up(n int) call                  { return call{name: "Up", number: n} }
func count(n int) call               { return call{name: "Count", number: n} }
func raise(n int, up bool) call      { return call{name: "Raise", number: n, up: up} }
func isUp(n int) call                { return call{name: "IsUp", number: n} }
func put(n int, words ...int64) call { return call{name: "Put", number: n, data: words} }
func get(n int) call                 { return call{name: "Get", number: n} }
func times(n int, c call) []call     { return slices.Repeat([]call{c}, n) }

// words is n words, from a number on.
func words(n int, from int64) []int64 {
	list := make([]int64, n)
	for i := range list {
		list[i] = from + int64(i)
	}
	return list
}

// same tells whether two states are the same; nil and an empty list are.
func same(a, b api.ObjectState) bool {
	return slices.Equal(a.Sems, b.Sems) && slices.Equal(a.Events, b.Events) && slices.EqualFunc(a.Buffers, b.Buffers, sameMessages)
}

func sameMessages(a, b [][]int64) bool { return slices.EqualFunc(a, b, slices.Equal) }

// clone is a state that shares nothing with another, at any depth.
func clone(s api.ObjectState) api.ObjectState {
	x := api.ObjectState{Sems: slices.Clone(s.Sems), Events: slices.Clone(s.Events)}
	for _, list := range s.Buffers {
		var own [][]int64
		for _, data := range list {
			own = append(own, slices.Clone(data))
		}
		x.Buffers = append(x.Buffers, own)
	}
	return x
}

// clonePart is what counts of a partition, shared with nobody.
func clonePart(p api.Part) api.Part {
	return api.Part{Sems: slices.Clone(p.Sems), Events: slices.Clone(p.Events), Buffers: slices.Clone(p.Buffers)}
}

// show is what counts of a partition, as far as it is short.
func show(p api.Part) api.Part {
	p = clonePart(p)
	p.Sems, p.Events, p.Buffers = p.Sems[:min(9, len(p.Sems))], p.Events[:min(9, len(p.Events))], p.Buffers[:min(9, len(p.Buffers))]
	return p
}

// chapter is the partition of the chapter's examples.
func chapter() api.Part {
	return api.Part{Sems: []api.Sem{{Start: 1, Max: 2}}, Events: []bool{false, true}, Buffers: []api.Buffer{{Size: 2, Depth: 1}}}
}

// families are partitions that chapter 10 lets stand, as far as their objects go.
func families() map[string]api.Part {
	var edges []api.Sem
	for _, most := range []int{1, 2, 3, api.MaxSem} {
		for _, start := range []int{0, 1, most - 1, most} {
			edges = append(edges, api.Sem{Start: start, Max: most})
		}
	}
	return map[string]api.Part{
		"the chapter's":     chapter(),
		"none":              {},
		"a semaphore alone": {Sems: []api.Sem{{Start: 0, Max: 1}}},
		"an event alone":    {Events: []bool{true}},
		"a buffer alone":    {Buffers: []api.Buffer{{Size: 1, Depth: 1}}},
		"semaphores, first": {Sems: edges[:8], Events: []bool{true, true, false}, Buffers: []api.Buffer{{Size: 3, Depth: 2}}},
		"semaphores, last":  {Sems: edges[8:], Buffers: []api.Buffer{{Size: 1, Depth: 3}, {Size: 2, Depth: 2}}},
		"events":            {Events: []bool{true, false, false, true, true, false, true, false}, Sems: []api.Sem{{Start: 3, Max: 5}}},
		"buffers": {Events: []bool{false}, Buffers: []api.Buffer{
			{Size: 1, Depth: 1}, {Size: 1, Depth: 2}, {Size: 2, Depth: 3}, {Size: 3, Depth: 5},
			{Size: api.MaxSize, Depth: 1}, {Size: api.MaxSize, Depth: 4}, {Size: 1, Depth: api.MaxDepth}, {Size: api.MaxSize, Depth: api.MaxDepth},
		}},
		"all that there may be": {Sems: slices.Repeat([]api.Sem{{Start: 1, Max: 3}}, api.MaxObjects), Events: slices.Repeat([]bool{false}, api.MaxObjects), Buffers: slices.Repeat([]api.Buffer{{Size: 1, Depth: 2}}, api.MaxObjects)},
		"three, one, two":       {Sems: []api.Sem{{Start: 0, Max: 2}, {Start: 1, Max: 2}, {Start: 2, Max: 2}}, Events: []bool{true}, Buffers: []api.Buffer{{Size: 2, Depth: 2}, {Size: 1, Depth: 1}}},
		"one, two, three":       {Sems: []api.Sem{{Start: 1, Max: 1}}, Events: []bool{false, true}, Buffers: []api.Buffer{{Size: 1, Depth: 1}, {Size: 2, Depth: 1}, {Size: 3, Depth: 2}}},
		"two, three, one":       {Sems: []api.Sem{{Start: 0, Max: 1}, {Start: 0, Max: 7}}, Events: []bool{true, false, true}, Buffers: []api.Buffer{{Size: 1, Depth: 4}}},
	}
}

// illMade are partitions that chapter 10 does not let stand.
func illMade() map[string]api.Part {
	ends := []int{bottom, bottom + 1, -2, -1, 0, 1, 2, top - 1, top}
	var sems []api.Sem
	for _, start := range ends {
		for _, most := range ends {
			sems = append(sems, api.Sem{Start: start, Max: most})
		}
	}
	var buffers []api.Buffer
	for _, size := range ends {
		for _, depth := range ends {
			buffers = append(buffers, api.Buffer{Size: size, Depth: depth})
		}
	}
	return map[string]api.Part{
		"a Start above Max":    {Sems: []api.Sem{{Start: 5, Max: 3}}},
		"a Start below 0":      {Sems: []api.Sem{{Start: -3, Max: 2}}},
		"a Max of 0":           {Sems: []api.Sem{{Start: 0, Max: 0}}},
		"a Max below 0":        {Sems: []api.Sem{{Start: 0, Max: -1}}},
		"a Size of 0":          {Buffers: []api.Buffer{{Size: 0, Depth: 3}}},
		"a Size below 0":       {Buffers: []api.Buffer{{Size: -1, Depth: 3}}},
		"a Depth of 0":         {Buffers: []api.Buffer{{Size: 2, Depth: 0}}},
		"a Depth below 0":      {Buffers: []api.Buffer{{Size: 2, Depth: -1}}},
		"too long, too deep":   {Buffers: []api.Buffer{{Size: api.MaxSize + 1, Depth: api.MaxDepth + 1}, {Size: 300, Depth: 3}}},
		"nine of each":         {Sems: slices.Repeat([]api.Sem{{Start: 1, Max: 2}}, 9), Events: slices.Repeat([]bool{true}, 9), Buffers: slices.Repeat([]api.Buffer{{Size: 1, Depth: 1}}, 9)},
		"semaphores of all":    {Sems: sems},
		"buffers of all":       {Buffers: buffers},
		"hundreds of each":     {Sems: slices.Repeat([]api.Sem{{Start: 1, Max: 2}}, 300), Events: slices.Repeat([]bool{true, false}, 200), Buffers: slices.Repeat([]api.Buffer{{Size: 0, Depth: 1}}, 257)},
		"the greatest numbers": {Sems: []api.Sem{{Start: top, Max: top}, {Start: top - 1, Max: top}, {Start: 0, Max: top}}, Buffers: []api.Buffer{{Size: 0, Depth: top}, {Size: 1, Depth: top}, {Size: top, Depth: top}}},
	}
}

// bothKinds are all of them.
func bothKinds() map[string]api.Part {
	list := families()
	for what, p := range illMade() {
		list[what] = p
	}
	return list
}

// TestKinds: chapter 10 lets the families stand, and the others not.
func TestKinds(t *testing.T) {
	whole := func(p api.Part) api.Image {
		p.Server = api.Server{Period: 1, Budget: 1}
		p.Code, p.Procs = make([]api.Instr, 1), make([]api.Proc, 1)
		return api.Image{Parts: []api.Part{p}}
	}
	for what, p := range families() {
		if err, _ := check.Check(whole(p)); err != api.OK {
			t.Errorf("%s: %d", what, err)
		}
	}
	for what, p := range illMade() {
		if err, _ := check.Check(whole(p)); err == api.OK {
			t.Errorf("%s may be", what)
		}
	}
}

// oneOf is one of a list, by chance.
func oneOf[T any](r *rand.Rand, list []T) T { return list[r.IntN(len(list))] }

// chance is a call by chance, mostly on an object that is there; its words are unlike those of other calls.
func chance(r *rand.Rand, p api.Part, mark int64) call {
	c := call{name: oneOf(r, names()), up: r.IntN(2) == 0}
	most := len(p.Sems)
	switch c.name {
	case "Raise", "IsUp":
		most = len(p.Events)
	case "Put", "Get":
		most = len(p.Buffers)
	}
	c.number = 1 + r.IntN(most+1)
	if r.IntN(20) == 0 {
		c.number = oneOf(r, []int{bottom, -1, 0, most, most + 1, top})
	}
	if c.name == "Put" {
		size := 2
		if c.number >= 1 && c.number <= most {
			size = max(0, min(400, p.Buffers[c.number-1].Size))
		}
		if r.IntN(8) == 0 {
			size = max(0, size+oneOf(r, []int{-1, 1, 2}))
		}
		c.data = words(size, 1000*mark)
	}
	return c
}

// standing is a state by chance that P16.2 lets be; false, if there is none (a Max is below 0).
func standing(r *rand.Rand, p api.Part) (api.ObjectState, bool) {
	x, ok := api.ObjectState{}, true
	for _, s := range p.Sems {
		ok = ok && s.Max >= 0
		x.Sems = append(x.Sems, max(0, min(s.Max, oneOf(r, []int{0, 1, 2, s.Max / 2, s.Max}))))
	}
	for range p.Events {
		x.Events = append(x.Events, r.IntN(2) == 0)
	}
	for i, b := range p.Buffers {
		var list [][]int64
		if b.Size >= 0 && b.Size <= 400 && b.Depth > 0 {
			for k := range min(b.Depth, r.IntN(6)) {
				list = append(list, words(b.Size, int64(-100*i-10*k)))
			}
		}
		x.Buffers = append(x.Buffers, list)
	}
	return x, ok
}
