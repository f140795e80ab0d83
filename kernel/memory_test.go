package kernel_test

import (
	"fmt"
	"math/rand/v2"
	"slices"
	"testing"

	"bulkhead/api"
	"bulkhead/kernel"
)

// spoil writes over a list, its spare room too.
func spoil[T any](list []T, with T) {
	list = list[:cap(list)]
	for i := range list {
		list[i] = with
	}
}

// piece is bytes cut out of a longer list, with room behind them; and that list.
func piece(b []byte) (cut, around []byte) {
	around = slices.Concat([]byte{201, 202}, b, []byte{203, 204, 205})
	return around[2 : 2+len(b)], around
}

// spoilState writes over all of a state that was told.
func spoilState(s api.PartState) {
	for _, q := range s.Procs[:cap(s.Procs)] {
		spoil(q.Data, -71)
	}
	for _, q := range s.Ports[:cap(s.Ports)] {
		for _, data := range q.Queue[:cap(q.Queue)] {
			spoil(data, -72)
		}
		spoil(q.Queue, []int64{-73})
		spoil(q.Sample.Data, -74)
	}
	for _, list := range s.Objects.Buffers[:cap(s.Objects.Buffers)] {
		for _, data := range list[:cap(list)] {
			spoil(data, -75)
		}
		spoil(list, []int64{-76})
	}
	spoil(s.Memory, -77)
	spoil(s.Procs, api.ProcState{State: api.Ready, PC: -78})
	spoil(s.Ports, api.PortState{Lost: -79})
	spoil(s.Objects.Sems, -80)
	spoil(s.Objects.Events, true)
	spoil(s.Objects.Buffers, [][]int64{{-81}})
}

// spoilEvents writes over a trace that was told.
func spoilEvents(events []api.Event) {
	for _, e := range events[:cap(events)] {
		spoil(e.Data, -82)
	}
	spoil(events, api.Event{Tick: -83, Part: -84, Data: []int64{-85}})
}

// What is handed in is left as it is, by a boot and by a refusal, its spare room too, and is not kept: a kernel whose bytes are written over goes on as it would have (rule 2).
func TestBytesAreNotKept(t *testing.T) {
	t.Parallel()
	for seed := range uint64(60) {
		r := rand.New(rand.NewPCG(2, seed))
		x := anyImage(r)
		const ticks = 120
		inputs := anyScript(r, x, 0, ticks)
		h := historyOf(newMachine(x, inputs), ticks)
		l := lay(t, x, inputs)
		for _, w := range ways() {
			var cut laid
			var around [3][]byte
			cut.image, around[0] = piece(l.image)
			cut.script, around[1] = piece(l.script)
			cut.table, around[2] = piece(l.table)
			was := [3][]byte{slices.Clone(around[0]), slices.Clone(around[1]), slices.Clone(around[2])}
			same := func() bool {
				return slices.Equal(around[0], was[0]) && slices.Equal(around[1], was[1]) && slices.Equal(around[2], was[2])
			}
			k := w.boots(t, cut)
			runs(t, k, 10, plenty)
			if !same() {
				t.Fatalf("seed %d, %s: the bytes have changed", seed, w.name)
			}
			for _, b := range around {
				spoil(b, 99)
			}
			for tick := 10; tick <= ticks; tick += 11 {
				runs(t, k, tick, plenty)
				h.holds(t, fmt.Sprintf("seed %d, %s", seed, w.name), k)
			}
			h.occupies(t, fmt.Sprintf("seed %d, %s", seed, w.name), k)
		}
	}
	for _, b := range slices.Concat(wrongImages(t), unfitImages(t)) {
		for _, s := range unfitScripts(t) {
			for _, x := range unfitTables(t) {
				i, whole := piece(b.bytes)
				j, script := piece(s.bytes)
				k, table := piece(x.bytes)
				was := [3][]byte{slices.Clone(whole), slices.Clone(script), slices.Clone(table)}
				kernel.Boot(i, j, api.Online)
				kernel.Boot(i, j, api.ByTable)
				kernel.BootWith(i, j, k)
				if !slices.Equal(whole, was[0]) || !slices.Equal(script, was[1]) || !slices.Equal(table, was[2]) {
					t.Fatalf("%s, %s, %s: the bytes have changed", b.name, s.name, x.name)
				}
			}
		}
	}
}

// What is told is new memory: written over, it changes nothing of the kernel (rule 2).
func TestToldIsNotKept(t *testing.T) {
	t.Parallel()
	for seed := range uint64(60) {
		r := rand.New(rand.NewPCG(6, seed))
		x := anyImage(r)
		const ticks = 120
		inputs := anyScript(r, x, 0, ticks)
		h := historyOf(newMachine(x, inputs), ticks)
		l := lay(t, x, inputs)
		for _, w := range ways() {
			k := w.boots(t, l)
			for tick := 0; tick <= ticks; tick += 1 + r.IntN(9) {
				runs(t, k, tick, plenty)
				spoilEvents(k.Trace())
				for p := range x.Parts {
					spoilState(stands(t, k, p+1))
				}
				h.holds(t, fmt.Sprintf("seed %d, %s", seed, w.name), k)
			}
		}
	}
}

// What was told stays as it was, whatever is called later (rule 2).
func TestToldStays(t *testing.T) {
	for seed := range uint64(40) {
		r := rand.New(rand.NewPCG(7, seed))
		x := anyImage(r)
		const ticks = 150
		l := lay(t, x, anyScript(r, x, 0, ticks))
		for _, w := range ways() {
			k := w.boots(t, l)
			runs(t, k, ticks/3, plenty)
			trace, text := k.Trace(), show(k.Trace())
			var states []api.PartState
			var texts []string
			for p := range x.Parts {
				s := stands(t, k, p+1)
				states, texts = append(states, s), append(texts, stateText(s))
			}
			spare := trace[len(trace):cap(trace)]
			if slices.ContainsFunc(spare, func(e api.Event) bool { return e.Kind != 0 || e.Data != nil }) {
				t.Fatalf("seed %d, %s: the spare room of a trace has events", seed, w.name)
			}
			runs(t, k, ticks, plenty)
			spoilEvents(k.Trace())
			if show(trace) != text {
				t.Fatalf("seed %d, %s: the trace was\n%s\nand is\n%s", seed, w.name, text, show(trace))
			}
			for i, s := range states {
				if stateText(s) != texts[i] {
					t.Fatalf("seed %d, %s: partition %d was\n%s\nand is\n%s", seed, w.name, i+1, texts[i], stateText(s))
				}
			}
			if slices.ContainsFunc(spare, func(e api.Event) bool { return e.Kind != 0 || e.Data != nil }) {
				t.Fatalf("seed %d, %s: the spare room of a trace has been filled", seed, w.name)
			}
		}
	}
}

// outs is an image whose kernel tells many words: all that one partition sends and writes goes out, and comes back to it.
func outs() api.Image {
	x := api.Image{
		Parts: []api.Part{partition(whole(1),
			auto(1, "ldi r1 1, ldi r2 0, ldi r3 -1, sys 17, ldi r1 2, sys 15, st r4 r0 0, addi r4 r4 1, jmp 0"),
			auto(2, "ldi r1 5, ldi r2 0, ldi r3 -1, sys 17, sys 17, sys 17, sys 17, jmp 3"),
			auto(3, "ldi r1 1, ldi r2 0, ldi r3 -1, sys 25, sys 25, sys 25, sys 25, jmp 3"))},
		Ports: []api.Port{queueOut(1, 3, 4), sampleOut(1, 5), queueIn(1, 2, 9), sampleIn(1, 4, 0), queueOut(1, 2, 3)},
		Channels: []api.Channel{
			{Kind: api.Queuing, From: 1, Period: 3}, {Kind: api.Sampling, From: 2}, {Kind: api.Queuing, From: 5, To: []int{3}, Period: 40}, {Kind: api.Sampling, To: []int{4}},
		},
	}
	x.Parts[0].Init = []int64{9, 8, 7, 6, 5}
	x.Parts[0].Buffers = []api.Buffer{{Size: 6, Depth: 2}}
	return x
}

// wordsOf are all lists of words of a state.
func wordsOf(s api.PartState) [][]int64 {
	list := [][]int64{s.Memory}
	for _, q := range s.Procs {
		list = append(list, q.Data)
	}
	for _, q := range s.Ports {
		list = append(append(list, q.Queue...), q.Sample.Data)
	}
	for _, b := range s.Objects.Buffers {
		list = append(list, b...)
	}
	return slices.DeleteFunc(list, func(l []int64) bool { return len(l) == 0 })
}

// shareNothing writes something else over each list, its spare room too, and tells whether each keeps what is its own.
func shareNothing(lists [][]int64) bool {
	for i, list := range lists {
		spoil(list, -int64(i)-1000)
	}
	for i, list := range lists {
		if slices.ContainsFunc(list[:cap(list)], func(n int64) bool { return n != -int64(i)-1000 }) {
			return false
		}
	}
	return true
}

// No two lists of words that are told share any: of one trace or two, of one state or two; nor have they anything of the kernel's (rule 2).
func TestListsShareNothing(t *testing.T) {
	for _, w := range ways() {
		k := w.boots(t, lay(t, outs(), []api.Input{message(3, 4, 1, 2, 3, 4)}))
		runs(t, k, 100, plenty)
		was := at(k)
		var lists [][]int64
		for range 2 {
			for _, e := range k.Trace() {
				if len(e.Data) > 0 {
					lists = append(lists, e.Data)
				}
			}
			lists = append(lists, wordsOf(stands(t, k, 1))...)
		}
		if !shareNothing(lists) || len(lists) < 50 {
			t.Errorf("%s: lists share words, or there are but %d", w.name, len(lists))
		}
		if at(k) != was {
			t.Errorf("%s: the kernel is\n%s\nand was\n%s", w.name, at(k), was)
		}
	}
}

// Kernels of one image and script share nothing: each goes as if it were alone, in turns with others (rules 1 and 2).
func TestKernelsShareNothing(t *testing.T) {
	t.Parallel()
	for seed := range uint64(30) {
		r := rand.New(rand.NewPCG(9, seed))
		x := anyImage(r)
		const ticks = 120
		inputs := anyScript(r, x, 0, ticks)
		h := historyOf(newMachine(x, inputs), ticks)
		l := lay(t, x, inputs)
		var list []*kernel.Kernel
		for range 2 {
			for _, w := range ways() {
				list = append(list, w.boots(t, l))
			}
		}
		for range 200 {
			k := oneOf(r, list)
			runs(t, k, min(ticks, k.Now()+r.IntN(9)), oneOf(r, []int{1, 3, plenty}))
			h.holds(t, fmt.Sprint("seed ", seed), k)
		}
	}
}
