package ready_test

import (
	"math"
	"math/rand/v2"
	"slices"
	"testing"

	"bulkhead/ready"
)

const (
	top    = math.MaxInt
	bottom = math.MinInt
	most   = 65535
)

// strange is numbers that no line has.
func strange() []int {
	return []int{bottom, bottom + 1, -1 << 32, 1<<32 + 1, math.MinInt32, -65536, -65535, -2, -1, 0, 65536, 65537, 131071, math.MaxInt32, 1 << 32, top - 1, top}
}

// standing is a number beside its priority.
type standing struct {
	id, priority int
}

// pair is a line beside a second reading of the chapter's words: a plain list, in which whoever is put goes behind the last one whose priority is not less. Each call is held against that, and so is how the line stands behind it.
type pair struct {
	t    *testing.T
	l    *ready.Line
	n    int
	list []standing
}

func newPair(t *testing.T, n int) *pair {
	t.Helper()
	l, ok := ready.New(n)
	if l == nil || !ok {
		t.Fatalf("New(%d) = %v, %v", n, l, ok)
	}
	p := &pair{t, l, n, nil}
	p.check("New", n)
	return p
}

// ids is the numbers of the second reading in their order.
func (p *pair) ids() []int {
	var ids []int
	for _, s := range p.list {
		ids = append(ids, s.id)
	}
	return ids
}

// find is where the second reading has a number, or -1.
func (p *pair) find(id int) int {
	return slices.IndexFunc(p.list, func(s standing) bool { return s.id == id })
}

// check asks how the line stands: List, Len, First, and Priority of all numbers that are in and of some that are not.
func (p *pair) check(call string, args ...int) {
	p.t.Helper()
	want := p.ids()
	if got := p.l.List(); !slices.Equal(got, want) {
		p.t.Fatalf("behind %s%v: List = %v, want %v", call, args, got, want)
	}
	if got := p.l.Len(); got != len(want) {
		p.t.Fatalf("behind %s%v: Len = %d, want %d", call, args, got, len(want))
	}
	first, some := 0, len(want) > 0
	if some {
		first = want[0]
	}
	if id, ok := p.l.First(); id != first || ok != some {
		p.t.Fatalf("behind %s%v: First = %d, %v, want %d, %v", call, args, id, ok, first, some)
	}
	for _, s := range p.list {
		if got, ok := p.l.Priority(s.id); got != s.priority || !ok {
			p.t.Fatalf("behind %s%v: Priority(%d) = %d, %v, want %d, true", call, args, s.id, got, ok, s.priority)
		}
	}
	for _, id := range append(strange(), args...) {
		if p.find(id) >= 0 {
			continue
		}
		if got, ok := p.l.Priority(id); got != 0 || ok {
			p.t.Fatalf("behind %s%v: Priority(%d) = %d, %v, want 0, false", call, args, id, got, ok)
		}
	}
}

func (p *pair) put(id, priority int) {
	p.t.Helper()
	want := id >= 1 && id <= p.n
	if want {
		p.list = slices.DeleteFunc(p.list, func(s standing) bool { return s.id == id })
		at := len(p.list)
		for at > 0 && p.list[at-1].priority < priority {
			at--
		}
		p.list = slices.Insert(p.list, at, standing{id, priority})
	}
	if ok := p.l.Put(id, priority); ok != want {
		p.t.Fatalf("Put(%d, %d) = %v, want %v", id, priority, ok, want)
	}
	p.check("Put", id, priority)
}

func (p *pair) remove(id int) {
	p.t.Helper()
	at := p.find(id)
	if at >= 0 {
		p.list = slices.Delete(p.list, at, at+1)
	}
	if ok := p.l.Remove(id); ok != (at >= 0) {
		p.t.Fatalf("Remove(%d) = %v, want %v", id, ok, at >= 0)
	}
	p.check("Remove", id)
}

func (p *pair) take() int {
	p.t.Helper()
	want, some := 0, len(p.list) > 0
	if some {
		want = p.list[0].id
		p.list = p.list[1:]
	}
	id, ok := p.l.Take()
	if id != want || ok != some {
		p.t.Fatalf("Take = %d, %v, want %d, %v", id, ok, want, some)
	}
	p.check("Take")
	return id
}

// takeAll takes one after the other until none is left, and one more.
func (p *pair) takeAll() {
	p.t.Helper()
	list := p.l.List()
	var taken []int
	for p.l.Len() > 0 {
		taken = append(taken, p.take())
	}
	if !slices.Equal(taken, list) {
		p.t.Fatalf("taken %v, List was %v", taken, list)
	}
	p.take()
}

// sameList asks for the numbers of a line in their order, as written out.
func sameList(t *testing.T, l *ready.Line, want ...int) {
	t.Helper()
	if got := l.List(); !slices.Equal(got, want) || l.Len() != len(want) {
		t.Fatalf("List = %v, Len = %d, want %v", got, l.Len(), want)
	}
}

func TestExamples(t *testing.T) {
	l, ok := ready.New(5)
	if l == nil || !ok {
		t.Fatalf("New(5) = %v, %v", l, ok)
	}
	put := func(id, priority int, want bool) {
		t.Helper()
		if ok := l.Put(id, priority); ok != want {
			t.Fatalf("Put(%d, %d) = %v", id, priority, ok)
		}
	}
	told := func(call string, id int, ok bool, wantID int, want bool) {
		t.Helper()
		if id != wantID || ok != want {
			t.Fatalf("%s = %d, %v, want %d, %v", call, id, ok, wantID, want)
		}
	}
	put(3, 10, true)
	put(1, 10, true)
	put(2, 20, true)
	sameList(t, l, 2, 3, 1)
	id, ok := l.First()
	told("First", id, ok, 2, true)
	put(3, 10, true)
	sameList(t, l, 2, 1, 3)
	put(2, -5, true)
	sameList(t, l, 1, 3, 2)
	id, ok = l.Priority(2)
	told("Priority(2)", id, ok, -5, true)
	id, ok = l.Take()
	told("Take", id, ok, 1, true)
	id, ok = l.Take()
	told("Take", id, ok, 3, true)
	if !l.Remove(2) || l.Remove(2) {
		t.Fatalf("Remove(2), Remove(2)")
	}
	id, ok = l.Take()
	told("Take", id, ok, 0, false)
	put(0, 1, false)
	put(6, 1, false)
	if l.Remove(9) {
		t.Fatalf("Remove(9)")
	}
	id, ok = l.Priority(4)
	told("Priority(4)", id, ok, 0, false)
	for _, n := range []int{-1, 65536} {
		if l, ok := ready.New(n); l != nil || ok {
			t.Errorf("New(%d) = %v, %v", n, l, ok)
		}
	}
}

func TestP8_1New(t *testing.T) {
	for _, n := range []int{bottom, bottom + 1, -1 << 32, math.MinInt32, -65536, -65535, -2, -1, 65536, 65537, 131072, math.MaxInt32, 1 << 32, 1<<32 + 5, top - 1, top} {
		if l, ok := ready.New(n); l != nil || ok {
			t.Errorf("New(%d) = %v, %v, want nil, false", n, l, ok)
		}
	}
	for _, n := range []int{0, 1, 2, 3, 16, 255, 256, 32767, 32768, 65534, 65535} {
		p := newPair(t, n)
		p.take()
		p.put(n+1, 1)
		p.put(0, 1)
		if n > 0 {
			p.put(n, 1)
			p.put(1, 1)
			p.put(n/2+1, 2)
		}
	}
}

func TestP8_1NoNumbers(t *testing.T) {
	p := newPair(t, 0)
	for _, id := range append(strange(), 1, 2, 65535) {
		p.put(id, 0)
		p.remove(id)
		p.take()
	}
}

func TestP8_2PutWrong(t *testing.T) {
	for _, n := range []int{0, 1, 5, 65534, 65535} {
		p := newPair(t, n)
		for id := 1; id <= min(n, 5); id++ {
			p.put(id, id%2)
		}
		for _, id := range append(strange(), n+1, n+2, n+65536, -n, n+1<<32) {
			if id >= 1 && id <= n {
				continue
			}
			for _, priority := range []int{bottom, -1, 0, 1, top} {
				p.put(id, priority)
			}
		}
		p.takeAll()
	}
}

func TestP8_2Priorities(t *testing.T) {
	ends := []int{bottom, bottom + 1, math.MinInt32 - 1, math.MinInt32, -1 << 31 >> 1, -256, -1, 0, 1, 255, 256, math.MaxInt32, math.MaxInt32 + 1, 1 << 32, 1<<32 + 1, top - 1, top}
	for turn := range len(ends) {
		p := newPair(t, 2*len(ends))
		for i := range ends {
			at := (i*5 + turn) % len(ends)
			p.put(at+1, ends[at])
			p.put(at+1+len(ends), ends[at])
		}
		var want []int
		for at := len(ends) - 1; at >= 0; at-- {
			want = append(want, at+1, at+1+len(ends))
		}
		sameList(t, p.l, want...)
		p.takeAll()
	}
}

func TestP8_2PutAnew(t *testing.T) {
	for id := 1; id <= 6; id++ {
		for _, priority := range []int{bottom, -1, 0, 1, 2, 3, 4, top} {
			p := newPair(t, 6)
			for i, old := range []int{3, 1, 2, 2, 1, 3} {
				p.put(i+1, old)
			}
			sameList(t, p.l, 1, 6, 3, 4, 2, 5)
			p.put(id, priority)
			p.put(id, priority)
			p.takeAll()
			p.put(id, priority)
		}
	}
	p := newPair(t, 3)
	for _, id := range []int{1, 2, 3} {
		p.put(id, 7)
	}
	// The one that goes first, put with the priority that it has, goes behind all others.
	p.put(1, 7)
	sameList(t, p.l, 2, 3, 1)
	p.put(1, 8)
	sameList(t, p.l, 1, 2, 3)
	p.put(1, 7)
	sameList(t, p.l, 2, 3, 1)
	p.put(3, 6)
	sameList(t, p.l, 2, 1, 3)
}

func TestP8_3Remove(t *testing.T) {
	fill := func() *pair {
		p := newPair(t, 9)
		for i, priority := range []int{5, 5, 9, 1, 5, 9, 1} {
			p.put(i+1, priority)
		}
		sameList(t, p.l, 3, 6, 1, 2, 5, 4, 7)
		return p
	}
	for id := 1; id <= 9; id++ {
		p := fill()
		p.remove(id)
		p.remove(id)
		p.put(id, 5)
		p.remove(id)
		p.put(id, 9)
		p.takeAll()
		p.remove(id)
	}
	p := fill()
	for _, id := range append(strange(), 10, 11, 9+65536) {
		p.remove(id)
	}
	for _, id := range []int{3, 7, 2} {
		p.remove(id)
	}
	sameList(t, p.l, 6, 1, 5, 4)
	p.put(2, 5)
	sameList(t, p.l, 6, 1, 5, 2, 4)
}

func TestP8_3RemoveEach(t *testing.T) {
	// Every one of fifteen leaves in every one of these orders: so the gap that it leaves comes to each place.
	for step := 1; step < 15; step++ {
		for first := 1; first <= 15; first++ {
			p := newPair(t, 15)
			for i := range 15 {
				p.put(i+1, (i*step)%15)
			}
			p.remove(first)
			p.takeAll()
		}
	}
}

func TestP8_4Take(t *testing.T) {
	p := newPair(t, 4)
	p.take()
	p.put(4, 0)
	p.take()
	p.take()
	p.put(4, 0)
	p.put(2, 0)
	p.put(3, 1)
	p.take()
	p.put(3, 0)
	sameList(t, p.l, 4, 2, 3)
	p.takeAll()
	p.put(2, bottom)
	p.takeAll()
}

func TestP8_4OnePriority(t *testing.T) {
	for _, priority := range []int{bottom, -1, 0, 1, top} {
		p := newPair(t, 40)
		var want []int
		for i := range 40 {
			id := (i*7)%40 + 1
			p.put(id, priority)
			want = append(want, id)
		}
		sameList(t, p.l, want...)
		p.takeAll()
	}
}

func TestP8_5Chance(t *testing.T) {
	chance := rand.New(rand.NewPCG(8, 5))
	priorities := []int{bottom, bottom + 1, -3, -2, -1, 0, 1, 2, 3, top - 1, top}
	for _, n := range []int{1, 2, 3, 5, 8, 16, 60} {
		for range 6 {
			p := newPair(t, n)
			kinds := 1 + chance.IntN(len(priorities))
			takes := chance.IntN(4)
			for range 400 {
				id := chance.IntN(n+2) + chance.IntN(2)
				switch what := chance.IntN(10); {
				case what < takes:
					p.take()
				case what == 4:
					p.remove(id)
				default:
					p.put(id, priorities[chance.IntN(kinds)])
				}
			}
			p.takeAll()
		}
	}
}

func TestP8_5Many(t *testing.T) {
	l, _ := ready.New(most)
	byPriority := make([][]int, 7)
	for i := range most {
		id := i*32768%most + 1
		at := id % 7
		if !l.Put(id, at*1000-3000) {
			t.Fatalf("Put(%d)", id)
		}
		byPriority[at] = append(byPriority[at], id)
	}
	slices.Reverse(byPriority)
	want := slices.Concat(byPriority...)
	sameList(t, l, want...)
	sorted := slices.Clone(want)
	slices.Sort(sorted)
	if len(slices.Compact(sorted)) != most || sorted[0] != 1 || sorted[most-1] != most {
		t.Fatalf("the test's own list does not have each number once")
	}
	for i, id := range want {
		if got, ok := l.Take(); got != id || !ok {
			t.Fatalf("Take %d = %d, %v, want %d", i, got, ok, id)
		}
	}
	sameList(t, l)
	if id, ok := l.Take(); id != 0 || ok {
		t.Fatalf("Take of none = %d, %v", id, ok)
	}
}

func TestP8_5NobodyIsPassed(t *testing.T) {
	// Number 1 waits, while others of its priority are put anew, leave and are taken ahead of it.
	p := newPair(t, 5)
	p.put(2, 3)
	p.put(1, 3)
	for range 50 {
		p.put(3, 3)
		p.put(4, 4)
		p.put(2, 3)
		p.put(5, 2)
		p.take()
		p.remove(3)
		if id, _ := p.l.First(); id != 1 {
			t.Fatalf("First = %d, want 1", id)
		}
	}
}

func TestSideBySide(t *testing.T) {
	a, b := newPair(t, 5), newPair(t, 3)
	c := newPair(t, 5)
	a.put(1, 1)
	b.put(2, 2)
	a.put(2, 5)
	b.put(4, 9)
	a.put(4, 9)
	b.remove(1)
	b.put(3, 2)
	for _, p := range []*pair{a, b, c} {
		p.check("the others")
	}
	b.takeAll()
	a.take()
	c.take()
	for _, p := range []*pair{a, b, c} {
		p.check("the others")
	}
}

// spoil writes over a list, its spare room too.
func spoil(list []int) {
	list = list[:cap(list)]
	for i := range list {
		list[i] = -77
	}
}

func TestListIsNewMemory(t *testing.T) {
	p := newPair(t, 8)
	for id := 1; id <= 8; id++ {
		p.put(id, id%3)
	}
	first, second := p.l.List(), p.l.List()
	want := slices.Clone(first)
	p.put(5, 9)
	p.remove(2)
	p.take()
	p.put(2, 1)
	if !slices.Equal(first, want) || !slices.Equal(second, want) {
		t.Fatalf("what List told has changed: %v, %v, want %v", first, second, want)
	}
	spoil(first)
	if !slices.Equal(second, want) {
		t.Fatalf("two answers share memory: %v", second)
	}
	spoil(second)
	p.check("spoil")
	last := p.l.List()
	spoil(last)
	p.check("spoil")
	p.takeAll()
	spoil(p.l.List())
	p.put(1, 1)
}
