package proc_test

import (
	"maps"
	"math/rand/v2"
	"slices"
	"testing"

	"bulkhead/api"
	"bulkhead/proc"
)

// spoil writes over a list of words, its spare room too.
func spoil(list []int64) {
	list = list[:cap(list)]
	for i := range list {
		list[i] = -77
	}
}

// spoilStates writes over a list of states and their words, spare room too.
func spoilStates(list []api.ProcState) {
	list = list[:cap(list)]
	for i := range list {
		spoil(list[i].Data)
		list[i] = api.ProcState{State: 4, Priority: 9, Misses: 8, Data: []int64{6}}
	}
}

// piece is words cut out of a longer list, with room behind them; and the whole list.
func piece(words ...int64) ([]int64, []int64) {
	whole := append([]int64{91, 92}, words...)
	whole = append(whole, 93, 94, 95)
	return whole[2 : 2+len(words)], whole
}

// busy is a table with processes that wait with words.
func busy(t *testing.T) *pair {
	t.Helper()
	x := newPair(t, chapter())
	x.must(start(1, 1), start(2, 1), start(3, 1), waitIn(1, api.Sending, 20, 2, 1, 2, 3), waitIn(2, api.Putting, never, 2, 4, 5), waitIn(3, api.Sending, 30, 2, 6))
	return x
}

// TestPartIsNotKept: the partition that is handed in is left as it is, what lies behind its lists too, and not kept.
func TestPartIsNotKept(t *testing.T) {
	handed := func() (api.Part, []api.Proc, []api.Instr) {
		procs := append(slices.Clone(chapter().Procs), api.Proc{Entry: 19, Priority: 44, Period: 3}, api.Proc{Limit: 9})
		code := make([]api.Instr, 24)
		for i := range code {
			code[i].Imm = int32(i)
		}
		return api.Part{Code: code[:20], Handler: 3, Procs: procs[:3], Init: []int64{5}, Sems: []api.Sem{{Start: 1, Max: 2}}}, procs, code
	}
	begin := map[string]func(api.Part) *proc.Table{
		"New": proc.New,
		"Load": func(p api.Part) *proc.Table {
			list, lock, place := proc.New(p).States()
			table, _ := proc.Load(p, list, lock, place)
			return table
		},
	}
	for what, do := range begin {
		p, procs, code := handed()
		x := &pair{t: t, table: do(p), m: read(chapter())}
		_, wholeProcs, wholeCode := handed()
		x.must(start(1, 1), setPriority(1, 8), start(3, 1))
		if !slices.Equal(procs, wholeProcs) || !slices.Equal(code, wholeCode) {
			t.Errorf("%s: what was handed in has changed", what)
		}
		for i := range procs {
			procs[i] = api.Proc{Entry: 1, Priority: 1, Period: 77, Limit: 66}
		}
		clear(code)
		x.must(set(1, 20), stop(1), start(1, 4), start(2, 4), fire(2, api.TimerDeadline, 8), fire(2, api.TimerRelease, 14), period(2, 15), fire(2, api.TimerRelease, 24))
		x.refuses(set(1, 21), period(1, 15))
	}
}

// TestWordsAreNotKept: the words that Wait is handed are left as they are, their spare room too, and not kept.
func TestWordsAreNotKept(t *testing.T) {
	for _, words := range [][]int64{nil, {}, {4}, {1, 2, 3}, make([]int64, api.MaxSize)} {
		x := newPair(t, chapter())
		x.must(start(1, 1))
		data, whole := piece(words...)
		before := slices.Clone(whole)
		x.must(waitIn(1, api.Sending, 9, 2, data...))
		if !slices.Equal(whole, before) {
			t.Errorf("%v: the list is %v, was %v", words, whole, before)
		}
		spoil(whole)
		x.stands(call{name: "Wait"})
		x.must(wake(1, 0))
		if slices.ContainsFunc(whole, func(w int64) bool { return w != -77 }) {
			t.Errorf("%v: Wake wrote into what Wait was handed: %v", words, whole)
		}
	}
}

// TestStatesAreNotKept: the states that Load is handed are left as they are, spare room too, and not kept.
func TestStatesAreNotKept(t *testing.T) {
	x := busy(t)
	told, lock, place := x.table.States()
	list := make([]api.ProcState, 3, 6)
	var wholes [][]int64
	for i, s := range told {
		var whole []int64
		s.Data, whole = piece(s.Data...)
		list[i] = s
		wholes = append(wholes, whole)
	}
	behind := list[3:6]
	behind[0].Misses, behind[1].Data, behind[2].State = 3, []int64{8}, 9
	y, _ := proc.Load(chapter(), list, lock, place)
	z, _ := proc.Load(chapter(), list, lock, place)
	own := &pair{t: t, table: y, m: x.m}
	own.stands(call{name: "Load"})
	own.must(wake(1, 4), waitIn(1, api.Getting, 50, 1, 9, 9, 9), fire(3, api.TimerWake, 30), stop(2))
	if !slices.EqualFunc(list, told, same) || behind[0].Misses != 3 || !slices.Equal(behind[1].Data, []int64{8}) || behind[2].State != 9 {
		t.Errorf("what Load was handed has changed: %+v", list[:6])
	}
	for _, whole := range wholes {
		if !slices.Equal(whole[:2], []int64{91, 92}) || !slices.Equal(whole[len(whole)-3:], []int64{93, 94, 95}) {
			t.Errorf("what lies around the words has changed: %v", whole)
		}
		spoil(whole)
	}
	spoilStates(list)
	own.stands(call{name: "Load"})
	// The other table of the same states has seen nothing of all this.
	if got, holder, next := z.States(); !slices.EqualFunc(got, told, same) || holder != lock || next != place {
		t.Errorf("the other table: %+v, %d, %d; want %+v, %d, %d", got, holder, next, told, lock, place)
	}
}

// TestAnswersAreNew: what a call has told may be written over, spare room too, and does not change with later calls.
func TestAnswersAreNew(t *testing.T) {
	x := busy(t)
	told, _, _ := x.table.States()
	wants := x.m.states()
	first, _ := x.table.Get(1)
	second, _ := x.table.Get(1)
	line := x.table.Line(api.Sending, 2)
	again := x.table.Line(api.Sending, 2)
	// Of one answer no two lists share any words.
	spoil(told[0].Data)
	if !slices.Equal(told[1].Data, []int64{4, 5}) || !slices.Equal(told[2].Data, []int64{6}) {
		t.Errorf("words of one state are those of another: %+v", told)
	}
	spoilStates(told)
	spoil(first.Data)
	if !same(second, wants[0]) {
		t.Errorf("Get: %+v, want %+v", second, wants[0])
	}
	line = line[:cap(line)]
	for i := range line {
		line[i] = 99
	}
	if !slices.Equal(again, []int{3, 1}) {
		t.Errorf("Line: %v", again)
	}
	x.stands(call{name: "what was told written over"})
	third, _, _ := x.table.States()
	x.must(wake(1, 5), set(1, 3), wake(2, 5), stop(3), waitIn(1, api.Sending, 8, 2, 7, 7, 7), start(3, 5), waitIn(3, api.Sending, 8, 2, 8))
	if !same(second, wants[0]) || !slices.EqualFunc(third, wants, same) || !slices.Equal(again, []int{3, 1}) {
		t.Errorf("what was told has changed: %+v, %+v, %v", second, third, again)
	}
}

// TestTablesShareNothing: two tables of one partition, each with calls of its own.
func TestTablesShareNothing(t *testing.T) {
	for what, p := range families() {
		t.Run(what, func(t *testing.T) {
			r := rand.New(rand.NewPCG(15, 7))
			x, y := newPair(t, p), newPair(t, p)
			for now := range 40 {
				x.do(chance(r, p, now))
				y.do(chance(r, p, now))
				x.stands(call{name: "a call on another table"})
			}
			z := x.loaded()
			for now := 40; now < 80; now++ {
				x.do(chance(r, p, now))
				z.do(chance(r, p, now))
				x.stands(call{name: "a call on a loaded table"})
			}
		})
	}
}

// illMade are partitions that chapter 10 does not let be.
func illMade() []api.Part {
	code := make([]api.Instr, 3)
	list := []api.Part{
		{},
		{Code: code},
		{Handler: 1},
		{Procs: []api.Proc{{}}},
		{Procs: []api.Proc{{Period: 5, Limit: 9}}, Handler: 1, Code: code},
		{Procs: alike(api.MaxProcs+1, api.Proc{}), Code: code, Handler: api.MaxProcs + 1},
		{Procs: alike(300, api.Proc{Period: 3, Limit: 7, Entry: 9}), Code: make([]api.Instr, api.MaxCode+1)},
	}
	for _, n := range strange() {
		q := api.Proc{Entry: n, Priority: n, Period: n, Limit: n, Capacity: n}
		list = append(list,
			api.Part{Code: code, Handler: n, Procs: make([]api.Proc, 2)},
			api.Part{Code: code, Handler: 2, Procs: []api.Proc{q, q}},
			api.Part{Code: code, Procs: []api.Proc{{Entry: n}, {Priority: n}, {Period: n}, {Limit: n}}},
			api.Part{Handler: n, Procs: []api.Proc{{Period: n, Limit: 5}, {Period: 5, Limit: n}}})
	}
	return list
}

// prod does many calls on a table, with numbers of all sizes; whatever it answers, none may panic.
func prod(r *rand.Rand, p api.Part, table *proc.Table, times int) {
	for range times {
		c := chance(r, p, oneOf(r, []int{0, 4, 9, end - 3, end - 1}))
		if r.IntN(2) == 0 {
			c.a, c.b, c.c, c.d = oneOf(r, strange()), oneOf(r, strange()), oneOf(r, strange()), oneOf(r, strange())
		}
		c.on(table)
		n := oneOf(r, strange())
		table.Pick()
		table.Holder()
		table.Line(c.a, n)
		table.Get(n)
		table.Due(c.proc, c.a, n)
		table.Next(n)
		if tick := table.Next(n); tick != never {
			for kind := range 5 {
				table.Fire(c.proc, kind, tick)
			}
		}
		table.States()
	}
}

// TestNoPanic: no call panics, on tables of partitions that chapter 10 does not let be, on tables that stand as no table can, and on values that are none.
func TestNoPanic(t *testing.T) {
	r := rand.New(rand.NewPCG(15, 9))
	parts := illMade()
	for _, what := range slices.Sorted(maps.Keys(families())) {
		parts = append(parts, families()[what])
	}
	for _, p := range parts {
		prod(r, p, proc.New(p), 200)
		list := make([]api.ProcState, len(p.Procs))
		for range 20 {
			for i := range list {
				n := func() int { return oneOf(r, strange()) }
				list[i] = api.ProcState{State: n(), Priority: n(), Place: n(), PC: n(), Released: n(), Deadline: n(), Until: n(), Late: r.IntN(2) == 0, Object: n(), Addr: n(), Misses: n()}
				if r.IntN(4) > 0 {
					list[i].State = r.IntN(api.Suspended + 1)
				}
			}
			table, err := proc.Load(p, list, r.IntN(len(list)+1), oneOf(r, strange()))
			if table == nil || err != api.OK {
				t.Fatalf("Load: %d", err)
			}
			prod(r, p, table, 20)
		}
	}
	none, err := proc.Load(chapter(), nil, 0, 1)
	if none != nil || err != api.ErrForm {
		t.Fatalf("Load: %d", err)
	}
	prod(r, chapter(), none, 300)
	prod(r, chapter(), &proc.Table{}, 300)
}

// TestNone: a value that is no table has no processes.
func TestNone(t *testing.T) {
	for _, table := range []*proc.Table{nil, {}} {
		for _, name := range names() {
			c := call{name: name}
			for c.proc = range 3 {
				if c.on(table) {
					t.Errorf("%+v = true", c)
				}
			}
		}
		if p, ok := table.Pick(); p != 0 || ok {
			t.Errorf("Pick: %d", p)
		}
		if h, ok := table.Holder(); h != 0 || ok {
			t.Errorf("Holder: %d", h)
		}
		if list, lock, place := table.States(); len(list) != 0 || lock != 0 || place != 0 {
			t.Errorf("States: %v, %d, %d", list, lock, place)
		}
		if table.Next(bottom) != never || len(table.Line(api.AtSem, 0)) != 0 || table.Due(1, api.TimerWake, 0) {
			t.Error("it has timers or lines")
		}
	}
}
