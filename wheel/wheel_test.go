package wheel_test

import (
	"cmp"
	"maps"
	"math"
	"math/rand/v2"
	"slices"
	"testing"

	"bulkhead/api"
	"bulkhead/wheel"
)

const (
	top    = math.MaxInt
	bottom = math.MinInt
	end    = 1 << 40
	mostID = 65535
)

// fired is a list of timers that have run out, from pairs of a tick and a number.
func fired(pairs ...int) []api.Firing {
	var list []api.Firing
	for i := 0; i < len(pairs); i += 2 {
		list = append(list, api.Firing{Tick: pairs[i], ID: pairs[i+1]})
	}
	return list
}

// strange is numbers that no timer has.
func strange() []int {
	return []int{bottom, bottom + 1, -1 << 32, math.MinInt32, -65536, -2, -1, 65536, 65537, 131071, math.MaxInt32, 1 << 32, 1<<32 + 5, top - 1, top}
}

// borders is ticks at the ends of the slots of every level, and at both ends of all ticks, rising.
func borders() []int {
	list := []int{0, 1, 2, 62, end - 65, end - 64, end - 63, end - 2, end - 1}
	for _, size := range []int{1 << 6, 1 << 12, 1 << 18, 1 << 24, 1 << 30, 1 << 36} {
		for _, k := range []int{1, 2, 63, end/size - 1} {
			at := k * size
			list = append(list, at-1, at, at+1)
		}
		list = append(list, size+size/64-1, size+size/64)
	}
	list = slices.DeleteFunc(list, func(tick int) bool { return tick >= end })
	slices.Sort(list)
	return slices.Compact(list)
}

// pair is a wheel beside a second reading of the chapter's words, which looks at all timers each time. Each call is held against that, and so is how the wheel stands behind it.
type pair struct {
	t     *testing.T
	w     *wheel.Wheel
	now   int
	ticks map[int]int
}

func newPair(t *testing.T, now int) *pair {
	t.Helper()
	w, err := wheel.New(now)
	if w == nil || err != api.OK {
		t.Fatalf("New(%d): error %d", now, err)
	}
	p := &pair{t, w, now, map[int]int{}}
	p.check("New", now)
	return p
}

// least is the least tick of all timers.
func (p *pair) least() (int, bool) {
	least, ok := 0, false
	for _, tick := range p.ticks {
		if !ok || tick < least {
			least, ok = tick, true
		}
	}
	return least, ok
}

// check asks how the wheel stands.
func (p *pair) check(call string, args ...int) {
	p.t.Helper()
	if now, n := p.w.Now(), p.w.Len(); now != p.now || n != len(p.ticks) {
		p.t.Fatalf("behind %s%v: Now, Len = %d, %d, want %d, %d", call, args, now, n, p.now, len(p.ticks))
	}
	least, some := p.least()
	if tick, ok := p.w.Next(); tick != least || ok != some {
		p.t.Fatalf("behind %s%v: Next = %d, %v, want %d, %v", call, args, tick, ok, least, some)
	}
	for id, want := range p.ticks {
		if tick, ok := p.w.When(id); tick != want || !ok {
			p.t.Fatalf("behind %s%v: When(%d) = %d, %v, want %d, true", call, args, id, tick, ok, want)
		}
	}
}

// absent asks that there is no timer of this number.
func (p *pair) absent(id int) {
	p.t.Helper()
	if tick, ok := p.w.When(id); tick != 0 || ok {
		p.t.Fatalf("When(%d) = %d, %v, want 0, false", id, tick, ok)
	}
}

func (p *pair) arm(id, tick int) {
	p.t.Helper()
	want := api.ErrArg
	if id >= 0 && id <= mostID && tick >= p.now && tick < end {
		want = api.OK
		p.ticks[id] = tick
	}
	if err := p.w.Arm(id, tick); err != want {
		p.t.Fatalf("at %d: Arm(%d, %d) = %d, want %d", p.now, id, tick, err, want)
	}
	p.check("Arm", id, tick)
	if _, ok := p.ticks[id]; !ok {
		p.absent(id)
	}
}

func (p *pair) cancel(id int) {
	p.t.Helper()
	_, want := p.ticks[id]
	delete(p.ticks, id)
	if ok := p.w.Cancel(id); ok != want {
		p.t.Fatalf("at %d: Cancel(%d) = %v", p.now, id, ok)
	}
	p.check("Cancel", id)
	p.absent(id)
}

// advance asks for what runs out by a tick, and answers what the wheel told.
func (p *pair) advance(to int) []api.Firing {
	p.t.Helper()
	err := api.ErrArg
	var want []api.Firing
	if to >= p.now && to <= end {
		err = api.OK
		p.now = to
		for id, tick := range p.ticks {
			if tick <= to {
				want = append(want, api.Firing{Tick: tick, ID: id})
			}
		}
	}
	slices.SortFunc(want, func(a, b api.Firing) int {
		return cmp.Or(cmp.Compare(a.Tick, b.Tick), cmp.Compare(a.ID, b.ID))
	})
	for _, f := range want {
		delete(p.ticks, f.ID)
	}
	told, got := p.w.Advance(to)
	if !slices.Equal(told, want) || got != err {
		p.t.Fatalf("Advance(%d) = %v, %d, want %v, %d", to, told, got, want, err)
	}
	p.check("Advance", to)
	for _, f := range told {
		p.absent(f.ID)
	}
	return told
}

// wantTold asks for the very timers that an Advance of the wheel tells.
func (p *pair) wantTold(to int, want ...int) {
	p.t.Helper()
	if told := p.advance(to); !slices.Equal(told, fired(want...)) {
		p.t.Fatalf("Advance(%d) = %v, want %v", to, told, fired(want...))
	}
}

func TestExamples(t *testing.T) {
	w, err := wheel.New(10)
	if w == nil || err != api.OK {
		t.Fatalf("New(10): error %d", err)
	}
	errno := func(what string, got, want api.Errno) {
		t.Helper()
		if got != want {
			t.Errorf("%s = %d, want %d", what, got, want)
		}
	}
	tick := func(what string, want int, wantOK bool) func(int, bool) {
		return func(got int, ok bool) {
			t.Helper()
			if got != want || ok != wantOK {
				t.Errorf("%s = %d, %v, want %d, %v", what, got, ok, want, wantOK)
			}
		}
	}
	told := func(what string, wantErr api.Errno, want ...int) func([]api.Firing, api.Errno) {
		return func(got []api.Firing, err api.Errno) {
			t.Helper()
			if !slices.Equal(got, fired(want...)) || err != wantErr {
				t.Errorf("%s = %v, %d, want %v, %d", what, got, err, fired(want...), wantErr)
			}
		}
	}
	errno("Arm(1, 9)", w.Arm(1, 9), api.ErrArg)
	errno("Arm(65536, 20)", w.Arm(65536, 20), api.ErrArg)
	errno("Arm(-1, 20)", w.Arm(-1, 20), api.ErrArg)
	errno("Arm(1, MaxTick)", w.Arm(1, 1099511627776), api.ErrArg)
	errno("Arm(5, 64)", w.Arm(5, 64), api.OK)
	errno("Arm(3, 64)", w.Arm(3, 64), api.OK)
	errno("Arm(9, 4096)", w.Arm(9, 4096), api.OK)
	errno("Arm(2, 10)", w.Arm(2, 10), api.OK)
	tick("Len", 4, true)(w.Len(), true)
	tick("Next", 10, true)(w.Next())
	told("Advance(9)", api.ErrArg)(w.Advance(9))
	told("Advance(10)", api.OK, 10, 2)(w.Advance(10))
	told("Advance(10) again", api.OK)(w.Advance(10))
	errno("Arm(5, 4095)", w.Arm(5, 4095), api.OK)
	tick("When(5)", 4095, true)(w.When(5))
	tick("Next", 64, true)(w.Next())
	told("Advance(4096)", api.OK, 64, 3, 4095, 5, 4096, 9)(w.Advance(4096))
	tick("Now", 4096, true)(w.Now(), true)
	tick("Len", 0, true)(w.Len(), true)
	tick("Next of none", 0, false)(w.Next())
	tick("Cancel(9)", 0, false)(0, w.Cancel(9))
	tick("When(9)", 0, false)(w.When(9))
	errno("Arm(7, MaxTick - 1)", w.Arm(7, 1099511627775), api.OK)
	told("Advance(MaxTick)", api.OK, 1099511627775, 7)(w.Advance(1099511627776))
	errno("Arm(7, MaxTick - 1) behind it", w.Arm(7, 1099511627775), api.ErrArg)
}

func TestP7_1New(t *testing.T) {
	for _, now := range []int{0, 1, 10, 63, 64, 1 << 36, end - 2, end - 1, end} {
		p := newPair(t, now)
		for _, id := range append(strange(), 0, 1, 5, mostID) {
			p.absent(id)
			p.cancel(id)
		}
		p.wantTold(now)
		p.wantTold(end)
	}
	for _, now := range append(borders(), end) {
		newPair(t, now)
	}
	for _, now := range []int{-1, -2, -64, -end, end + 1, end + 64, 2 * end, math.MinInt32, bottom, bottom + 1, top, top - 1, 1 << 62} {
		if w, err := wheel.New(now); w != nil || err != api.ErrArg {
			t.Errorf("New(%d): a wheel: %v, error %d", now, w != nil, err)
		}
	}
}

func TestP7_1NothingCanBeArmedAtTheEnd(t *testing.T) {
	p := newPair(t, end)
	for _, tick := range []int{bottom, -1, 0, end - 1, end, end + 1, top} {
		p.arm(0, tick)
		p.arm(mostID, tick)
	}
	for _, to := range []int{bottom, -1, 0, end - 1, end, end + 1, top} {
		p.advance(to)
	}
}

func TestP7_1WheelsKnowNothingOfEachOther(t *testing.T) {
	a, b, c := newPair(t, 0), newPair(t, 0), newPair(t, 100)
	a.arm(1, 5)
	b.arm(1, 6)
	c.arm(1, 107)
	a.arm(2, 4096)
	all := func() {
		t.Helper()
		for _, p := range []*pair{a, b, c} {
			p.check("a call of another wheel")
		}
	}
	all()
	b.cancel(1)
	all()
	b.absent(2)
	b.arm(2, 70)
	a.arm(1, 70)
	all()
	c.wantTold(200, 107, 1)
	all()
	a.wantTold(70, 70, 1)
	all()
	b.wantTold(end, 70, 2)
	all()
	a.wantTold(end, 4096, 2)
	c.wantTold(end)
}

func TestP7_2Arm(t *testing.T) {
	for _, now := range append(borders(), end) {
		p := newPair(t, now)
		p.arm(7, max(now, end-1))
		for _, tick := range append(borders(), bottom, bottom+1, -end, -1, now-1, now, now+1, end, end+1, 2*end, top-1, top) {
			p.arm(0, tick)
			p.arm(mostID, tick)
			p.arm(9, tick)
		}
	}
}

func TestP7_2NumbersThatNoTimerHas(t *testing.T) {
	for _, now := range []int{0, 10, 4095, end - 1, end} {
		p := newPair(t, now)
		p.arm(0, now)
		p.arm(mostID, end-1)
		for _, id := range strange() {
			for _, tick := range []int{now, now + 1, now + 64, end - 1, end, -1, bottom, top} {
				p.arm(id, tick)
			}
			p.cancel(id)
		}
	}
}

func TestP7_2ARefusedArmKeepsTheOldTimer(t *testing.T) {
	p := newPair(t, 10)
	p.arm(5, 64)
	for _, tick := range []int{9, 0, -1, bottom, end, end + 1, top} {
		p.arm(5, tick)
		if when, ok := p.w.When(5); when != 64 || !ok {
			t.Fatalf("behind Arm(5, %d): When(5) = %d, %v", tick, when, ok)
		}
	}
	p.wantTold(64, 64, 5)
}

func TestP7_2ArmedAnew(t *testing.T) {
	for _, now := range []int{0, 10, 60, 4000} {
		for _, first := range borders() {
			for _, second := range borders() {
				if first < now || second < now {
					continue
				}
				p := newPair(t, now)
				p.arm(5, first)
				p.arm(5, second)
				if p.w.Len() != 1 {
					t.Fatalf("at %d: Arm(5, %d), Arm(5, %d): Len = %d", now, first, second, p.w.Len())
				}
				p.wantTold(second, second, 5)
				p.wantTold(end)
			}
		}
	}
}

func TestP7_2ArmedAnewBesideOthersOfTheSlot(t *testing.T) {
	for _, slot := range []int{70, 4096, 1 << 18, 1 << 24, 1 << 30, 1 << 36} {
		for moved := range 4 {
			for _, to := range []int{3, slot, slot + 1, slot + 63, 2*slot + 7} {
				p := newPair(t, 3)
				for id := range 4 {
					p.arm(id, slot+id)
				}
				p.arm(moved, to)
				p.arm(9, slot)
				p.arm(moved, to)
				for id := range 4 {
					p.cancel(3 - id)
					p.arm(3-id, slot+2*id)
				}
				p.advance(slot + 3)
				p.advance(end)
			}
		}
	}
}

func TestP7_3Cancel(t *testing.T) {
	for _, tick := range borders() {
		p := newPair(t, 0)
		p.cancel(5)
		p.arm(5, tick)
		p.arm(6, tick)
		p.cancel(4)
		p.cancel(5)
		p.cancel(5)
		p.arm(5, tick)
		p.cancel(6)
		p.wantTold(tick, tick, 5)
		p.cancel(5)
		p.cancel(6)
		p.wantTold(end)
	}
}

func TestP7_3CancelInEveryOrder(t *testing.T) {
	chance := rand.New(rand.NewPCG(7, 3))
	for _, ticks := range [][]int{{20, 20, 20, 20, 20, 20}, {70, 71, 72, 127, 64, 71}, {1 << 36, 1<<36 + 1, 1 << 37, 1<<36 + 64, 1<<36 + 1, end - 1}} {
		for range 40 {
			p := newPair(t, 8)
			for _, id := range chance.Perm(len(ticks)) {
				p.arm(id, ticks[id])
			}
			order := chance.Perm(len(ticks))
			for _, id := range order[:len(order)-1] {
				p.cancel(id)
			}
			left := order[len(order)-1]
			p.wantTold(end, ticks[left], left)
		}
	}
}

func TestP7_3CancelOfOneThatHasRunOut(t *testing.T) {
	p := newPair(t, 0)
	p.arm(5, 40)
	p.arm(6, 50)
	p.arm(7, 40)
	p.wantTold(40, 40, 5, 40, 7)
	p.cancel(5)
	p.arm(7, 45)
	p.cancel(7)
	p.wantTold(60, 50, 6)
	p.cancel(6)
	p.arm(5, 60)
	p.wantTold(60, 60, 5)
}

func TestP7_3CancelBehindAnAdvance(t *testing.T) {
	for _, tick := range borders() {
		for _, to := range borders() {
			if to >= tick {
				break
			}
			p := newPair(t, 0)
			p.arm(1, tick)
			p.arm(2, tick)
			p.wantTold(to)
			p.cancel(1)
			p.wantTold(end, tick, 2)
		}
	}
}

func TestP7_3AskingChangesNothing(t *testing.T) {
	p := newPair(t, 5)
	for id, tick := range borders() {
		p.arm(id, tick)
	}
	for range 3 {
		for _, id := range append(strange(), 0, 3, mostID) {
			p.w.When(id)
		}
		p.check("When, Next, Len and Now")
	}
	p.advance(end)
}

func TestP7_4Next(t *testing.T) {
	for _, now := range append(borders(), end) {
		p := newPair(t, now)
		falling := borders()
		slices.Reverse(falling)
		for i, tick := range falling {
			p.arm(i, tick)
			if least, ok := p.w.Next(); tick >= now && (least != tick || !ok) {
				t.Fatalf("at %d: Next = %d, %v, want %d", now, least, ok, tick)
			}
		}
		for i := range falling {
			p.cancel(len(falling) - 1 - i)
		}
		if tick, ok := p.w.Next(); tick != 0 || ok {
			t.Fatalf("at %d: Next of none = %d, %v", now, tick, ok)
		}
	}
}

func TestP7_4NextAmongTimersOfOneSlot(t *testing.T) {
	for _, slot := range []int{64, 4096, 1 << 18, 1 << 24, 1 << 30, 1 << 36} {
		for _, ticks := range [][]int{{slot + 5, slot, slot + 9}, {slot + 5, slot + 63, slot + 4}, {slot, slot + 1, slot + 2}} {
			p := newPair(t, 1)
			for id, tick := range ticks {
				p.arm(id, tick)
			}
			least, ok := p.w.Next()
			if least != slices.Min(ticks) || !ok {
				t.Errorf("Next of %v = %d, %v", ticks, least, ok)
			}
			p.advance(end)
		}
	}
}

func TestP7_5WrongTicks(t *testing.T) {
	for _, now := range []int{0, 1, 10, 64, end - 1, end} {
		p := newPair(t, now)
		p.arm(3, now)
		p.arm(4, min(now+70, end-1))
		for _, to := range []int{bottom, bottom + 1, -end, math.MinInt32, -1, now - 1, end + 1, end + 64, 2 * end, 1 << 62, top - 1, top} {
			if told, err := p.w.Advance(to); len(told) != 0 || err != api.ErrArg {
				t.Errorf("at %d: Advance(%d) = %v, %d", now, to, told, err)
			}
			p.check("Advance", to)
		}
		p.advance(end)
	}
}

func TestP7_5AtNow(t *testing.T) {
	for _, now := range borders() {
		p := newPair(t, now)
		p.wantTold(now)
		p.arm(2, now)
		p.arm(1, now)
		p.wantTold(now, now, 1, now, 2)
		p.wantTold(now)
		p.arm(2, now)
		p.wantTold(end, now, 2)
	}
	for _, to := range borders() {
		p := newPair(t, 0)
		p.wantTold(to)
		p.arm(2, to)
		p.wantTold(to, to, 2)
		p.arm(0, to)
		p.wantTold(to+1, to, 0)
	}
}

func TestP7_5UpToAndWithTheTick(t *testing.T) {
	for _, now := range borders() {
		for _, tick := range borders() {
			if tick < now {
				continue
			}
			p := newPair(t, now)
			p.arm(1, tick)
			if tick > now {
				p.wantTold(tick - 1)
			}
			p.wantTold(tick, tick, 1)
			p = newPair(t, now)
			p.arm(1, tick)
			p.wantTold(tick+1, tick, 1)
		}
	}
}

func TestP7_5OneTickByRisingNumber(t *testing.T) {
	chance := rand.New(rand.NewPCG(7, 5))
	for _, tick := range []int{10, 11, 63, 64, 4095, 4096, 1 << 20, 1 << 36, end - 1} {
		for _, ids := range [][]int{{0, 1, 2, 3, mostID}, {mostID, 3, 2, 1, 0}, {300, mostID, 0, 65534, 256, 1, 255}, chance.Perm(50)} {
			p := newPair(t, 10)
			for _, id := range ids {
				p.arm(id, tick)
			}
			var want []api.Firing
			for _, id := range slices.Sorted(slices.Values(ids)) {
				want = append(want, api.Firing{Tick: tick, ID: id})
			}
			if told := p.advance(tick); !slices.Equal(told, want) {
				t.Errorf("armed as %v: told %v", ids, told)
			}
		}
	}
}

func TestP7_5AllNumbers(t *testing.T) {
	for _, step := range []int{0, 1, 7, 4099, 1 << 23} {
		w, _ := wheel.New(3)
		var want []api.Firing
		for id := range mostID + 1 {
			want = append(want, api.Firing{Tick: 5 + step*id, ID: id})
		}
		for _, i := range rand.New(rand.NewPCG(7, 6)).Perm(len(want)) {
			if err := w.Arm(want[i].ID, want[i].Tick); err != api.OK {
				t.Fatalf("Arm(%d, %d) = %d", want[i].ID, want[i].Tick, err)
			}
		}
		if tick, ok := w.Next(); w.Len() != mostID+1 || tick != 5 || !ok {
			t.Errorf("steps of %d: Len, Next = %d, %d, %v", step, w.Len(), tick, ok)
		}
		if told, err := w.Advance(end); !slices.Equal(told, want) || err != api.OK {
			t.Errorf("steps of %d: %d told, error %d", step, len(told), err)
		}
		if w.Len() != 0 || w.Now() != end {
			t.Errorf("steps of %d: Len, Now = %d, %d behind all", step, w.Len(), w.Now())
		}
	}
}

func TestP7_5AllNumbersCancelled(t *testing.T) {
	w, _ := wheel.New(3)
	for _, tick := range []int{3, 64, 1 << 39} {
		for id := range mostID + 1 {
			w.Arm(id, tick)
		}
		for id := range mostID + 1 {
			if !w.Cancel(id) {
				t.Fatalf("Cancel(%d) of tick %d = false", id, tick)
			}
		}
		if _, ok := w.Next(); ok || w.Len() != 0 {
			t.Errorf("tick %d: Len = %d, Next tells %v behind all are cancelled", tick, w.Len(), ok)
		}
	}
	if told, err := w.Advance(end); len(told) != 0 || err != api.OK {
		t.Errorf("Advance behind all are cancelled = %v, %d", told, err)
	}
}

func TestP7_5AJumpOverAllLevels(t *testing.T) {
	for _, now := range borders() {
		for _, to := range []int{end - 1, end} {
			p := newPair(t, now)
			for id, tick := range borders() {
				p.arm(100-id, tick)
				p.arm(200+id, tick)
			}
			p.advance(to)
		}
	}
}

func TestP7_5WhatWasToldIsNewMemory(t *testing.T) {
	p := newPair(t, 0)
	for id := range 9 {
		p.arm(id, 20)
		p.arm(10+id, 30)
		p.arm(20+id, 5000)
	}
	told := p.advance(20)
	kept := slices.Clone(told)
	for id := range 9 {
		p.arm(id, 20)
		p.arm(30+id, 25)
	}
	again := p.advance(30)
	if !slices.Equal(told, kept) {
		t.Errorf("what was told became %v, was %v", told, kept)
	}
	kept = slices.Clone(again)
	for i := range told {
		told[i] = api.Firing{Tick: 31, ID: 20}
	}
	p.check("a change of what was told")
	if !slices.Equal(again, kept) {
		t.Errorf("what was told later became %v with an earlier list, was %v", again, kept)
	}
	p.advance(end)
}

func TestP7_5SpareRoomOfWhatWasTold(t *testing.T) {
	p := newPair(t, 0)
	for id, tick := range borders() {
		p.arm(2*id, tick)
		p.arm(2*id+1, tick)
	}
	for _, to := range borders() {
		told := p.advance(to)
		whole := told[:cap(told)]
		for i := range whole {
			whole[i] = api.Firing{Tick: -7, ID: -7}
		}
		p.check("a change of what was told", to)
	}
}

func TestP7_6StepsBesideOneStep(t *testing.T) {
	chance := rand.New(rand.NewPCG(7, 7))
	for _, now := range []int{0, 1, 63, 4000, 1<<36 - 3, end - 200} {
		for _, most := range []int{1, 7, 64, 5000} {
			const span = 10000
			a, b := newPair(t, now), newPair(t, now)
			for range 60 {
				id, tick := chance.IntN(70), now+chance.IntN(span)
				a.arm(id, tick)
				b.arm(id, tick)
			}
			last := min(now+span, end)
			var steps []api.Firing
			for at := now; at < last; {
				at = min(at+1+chance.IntN(most), last)
				steps = append(steps, a.advance(at)...)
				steps = append(steps, a.advance(at)...)
			}
			if once := b.advance(last); !slices.Equal(steps, once) {
				t.Errorf("from %d in steps up to %d: %v, at once %v", now, most, steps, once)
			}
		}
	}
}

func TestP7_6StepsAtTheBorders(t *testing.T) {
	whole := newPair(t, 0)
	for id, tick := range borders() {
		whole.arm(id, tick)
	}
	once := whole.advance(end)
	for _, stops := range [][]int{borders(), {63, 64, 4096, 1 << 18, 1 << 30}, {1, 5000, 1 << 36}, {end - 1}, {0, 0, 62, 65, 1<<36 + 1}} {
		p := newPair(t, 0)
		for id, tick := range borders() {
			p.arm(id, tick)
		}
		var steps []api.Firing
		for _, to := range append(slices.Clone(stops), end) {
			steps = append(steps, p.advance(to)...)
		}
		if !slices.Equal(steps, once) {
			t.Errorf("with stops at %v: %v, at once %v", stops, steps, once)
		}
	}
}

func TestP7_6NextAheadOfEveryAdvance(t *testing.T) {
	chance := rand.New(rand.NewPCG(7, 8))
	for range 60 {
		now := chance.IntN(1 << (1 + chance.IntN(40)))
		p := newPair(t, now)
		for id := range 40 {
			p.arm(id, min(now+chance.IntN(1<<(1+chance.IntN(40))), end-1))
		}
		for {
			next, ok := p.w.Next()
			if !ok {
				break
			}
			if next > p.w.Now() {
				p.wantTold(next - 1)
			}
			told := p.advance(next)
			if len(told) == 0 || told[0].Tick != next || told[len(told)-1].Tick != next {
				t.Fatalf("Next told %d, and then ran out %v", next, told)
			}
		}
		if p.w.Len() != 0 {
			t.Errorf("Next tells none of %d", p.w.Len())
		}
	}
}

func TestP7_6EachRunsOutOnce(t *testing.T) {
	chance := rand.New(rand.NewPCG(7, 9))
	w, _ := wheel.New(0)
	armed := map[int]int{}
	times := map[api.Firing]int{}
	for at := 0; at < 300000; {
		for range 20 {
			id, tick := chance.IntN(1000), at+chance.IntN(1<<(1+chance.IntN(17)))
			if _, ok := armed[id]; !ok {
				w.Arm(id, tick)
				armed[id] = tick
			}
		}
		before := at
		at += chance.IntN(1 << (1 + chance.IntN(14)))
		told, _ := w.Advance(at)
		for _, f := range told {
			times[f]++
			if tick, ok := armed[f.ID]; !ok || tick != f.Tick || f.Tick < before || f.Tick > at || times[f] > 1 && f.Tick > before {
				t.Fatalf("Advance(%d) from %d told %v, armed for %d, %v", at, before, f, tick, ok)
			}
			delete(armed, f.ID)
		}
		for id, tick := range armed {
			if tick <= at {
				t.Fatalf("Advance(%d): timer %d of tick %d has not run out", at, id, tick)
			}
		}
	}
	if len(armed) != w.Len() {
		t.Errorf("Len = %d, want %d", w.Len(), len(armed))
	}
}

// near is a tick that lies at or near a border of the slots, seen from now.
func near(chance *rand.Rand, now int) int {
	size := 1 << chance.IntN(42)
	switch chance.IntN(4) {
	case 0:
		return now + chance.IntN(size)
	case 1:
		return now/size*size + size + chance.IntN(3) - 1
	case 2:
		return now + chance.IntN(3) - 1
	}
	return chance.IntN(end+4) - 2
}

func TestP7_6BesideTheChaptersWords(t *testing.T) {
	chance := rand.New(rand.NewPCG(7, 10))
	for range 400 {
		p := newPair(t, min(max(near(chance, 0), 0), end))
		numbers := []int{-1, 0, 1, mostID, mostID + 1}
		for id := range 2 + chance.IntN(30) {
			numbers = append(numbers, id+2)
		}
		for range 150 {
			id := numbers[chance.IntN(len(numbers))]
			switch chance.IntN(6) {
			case 0:
				p.cancel(id)
			case 1:
				// Small steps most of the time, so that the wheel does not come to its end at once.
				p.advance(p.now + chance.IntN(1<<chance.IntN(14)) - 1)
			case 2:
				if to := near(chance, p.now); to < p.now+1<<(6*chance.IntN(8)) {
					p.advance(to)
				}
			default:
				p.arm(id, near(chance, p.now))
			}
		}
		left := slices.Collect(maps.Keys(p.ticks))
		if told := p.advance(end); len(told) != len(left) {
			t.Fatalf("told %d of %d at the end", len(told), len(left))
		}
	}
}
