package mem_test

import (
	"math"
	"math/big"
	"math/rand/v2"
	"slices"
	"testing"

	"bulkhead/api"
	"bulkhead/mem"
)

const (
	top    = math.MaxInt64
	bottom = math.MinInt64
)

// edges is every number that a small memory may be asked with, and those at both ends of their kind.
func edges() []int64 {
	list := []int64{bottom, bottom + 1, -1 << 32, math.MinInt32}
	for x := int64(-3); x <= 9; x++ {
		list = append(list, x)
	}
	return append(list, math.MaxInt32, 1<<32, 1<<32+1, 1<<62, top-4, top-1, top)
}

// inside is the chapter's range, reckoned with numbers that cannot overflow.
func inside(words, addr, n int64) bool {
	end := new(big.Int).Add(big.NewInt(addr), big.NewInt(n))
	return n >= 0 && addr >= 0 && end.Cmp(big.NewInt(words)) <= 0
}

// ground is a memory that is cut out of a longer list, so that words lie ahead of it and in its spare room.
type ground struct {
	all   []int64
	words int
}

const ahead, behind = 3, 4

func newGround(words int) ground {
	g := ground{make([]int64, ahead+words+behind), words}
	for i := range g.all {
		g.all[i] = int64(10 * (i - ahead + 1))
	}
	return g
}

// memory is the piece of the list that is the memory; what lies behind it is its spare room.
func (g ground) memory() []int64 { return g.all[ahead : ahead+g.words] }

// with is the whole list as it should be when these words stand in the memory from addr on.
func (g ground) with(addr int64, data ...int64) []int64 {
	want := slices.Clone(g.all)
	for i, x := range data {
		want[ahead+int(addr)+i] = x
	}
	return want
}

// want asks that the whole list is as it should be.
func (g ground) want(t *testing.T, want []int64, call string, args ...any) {
	t.Helper()
	if !slices.Equal(g.all, want) {
		t.Errorf("%s%v: the list became %v, want %v", call, args, g.all, want)
	}
}

func TestP5_1New(t *testing.T) {
	full := make([]int64, api.MaxWords)
	for i := range full {
		full[i] = int64(i) - 7
	}
	nothing := make([]int64, api.MaxWords)
	for _, c := range []struct {
		words int
		init  []int64
		want  []int64
		ok    bool
	}{
		{3, []int64{7}, []int64{7, 0, 0}, true},
		{3, nil, []int64{0, 0, 0}, true},
		{3, []int64{}, []int64{0, 0, 0}, true},
		{3, []int64{bottom, -1, top}, []int64{bottom, -1, top}, true},
		{3, []int64{7, 8, 9, 10}, nil, false},
		{1, []int64{1}, []int64{1}, true},
		{1, []int64{1, 2}, nil, false},
		{1, nil, []int64{0}, true},
		{0, nil, nil, true},
		{0, []int64{}, nil, true},
		{0, []int64{1}, nil, false},
		{-1, nil, nil, false},
		{-1, []int64{1}, nil, false},
		{api.MaxWords, nil, nothing, true},
		{api.MaxWords, full, full, true},
		{api.MaxWords, append(slices.Clone(full), 1), nil, false},
		{api.MaxWords - 1, full, nil, false},
		{api.MaxWords - 1, full[1:], full[1:], true},
		{api.MaxWords + 1, nil, nil, false},
		{api.MaxWords + 1, full, nil, false},
		{1 << 32, nil, nil, false},
		{1<<32 + 1, []int64{1}, nil, false},
		{top, nil, nil, false},
		{top, full, nil, false},
		{bottom, nil, nil, false},
		{bottom, full, nil, false},
	} {
		kept := slices.Clone(c.init)
		m, ok := mem.New(c.words, c.init)
		if !slices.Equal(m, c.want) || ok != c.ok {
			t.Errorf("New(%d, %d words) = %d words from %v on, %v, want %d from %v on, %v", c.words, len(c.init), len(m), m[:min(len(m), 4)], ok, len(c.want), c.want[:min(len(c.want), 4)], c.ok)
		}
		if !slices.Equal(c.init, kept) {
			t.Errorf("New(%d, %d words) changed init", c.words, len(kept))
		}
	}
}

func TestP5_1NewAnswersNewMemory(t *testing.T) {
	for _, words := range []int{0, 2, 3, 6} {
		list := []int64{1, 2, 3, 4, 5, 6}
		init := list[:2]
		if words < 2 {
			init = list[:0]
		}
		a, _ := mem.New(words, init)
		b, _ := mem.New(words, init)
		want := slices.Clone(b)
		for i := range a {
			a[i] = 77
		}
		for range 4 {
			a = append(a, 77)
		}
		if !slices.Equal(list, []int64{1, 2, 3, 4, 5, 6}) {
			t.Errorf("New(%d, 2 of 6): a change of the memory shows in init: %v", words, list)
		}
		for i := range list {
			list[i] = 99
		}
		if !slices.Equal(b, want) {
			t.Errorf("New(%d, 2 of 6): a change of init or of another memory shows: %v, want %v", words, b, want)
		}
	}
}

func TestP5_2Load(t *testing.T) {
	m := []int64{10, 20, 30, 40}
	for _, c := range []struct {
		m    []int64
		addr int64
		want int64
		ok   bool
	}{
		{m, 0, 10, true},
		{m, 1, 20, true},
		{m, 3, 40, true},
		{m, 4, 0, false},
		{m, -1, 0, false},
		{m, 1 << 32, 0, false},
		{m, top, 0, false},
		{m, bottom, 0, false},
		{[]int64{0}, 0, 0, true},
		{[]int64{bottom}, 0, bottom, true},
		{[]int64{bottom}, 1, 0, false},
		{m[:2], 2, 0, false},
		{m[:0], 0, 0, false},
		{nil, 0, 0, false},
		{nil, -1, 0, false},
		{make([]int64, api.MaxWords), api.MaxWords - 1, 0, true},
		{make([]int64, api.MaxWords), api.MaxWords, 0, false},
	} {
		if v, ok := mem.Load(c.m, c.addr); v != c.want || ok != c.ok {
			t.Errorf("Load(%d words, %d) = %d, %v, want %d, %v", len(c.m), c.addr, v, ok, c.want, c.ok)
		}
	}
	for words := range 7 {
		for _, addr := range edges() {
			g := newGround(words)
			before := slices.Clone(g.all)
			want, ok := int64(0), inside(int64(words), addr, 1)
			if ok {
				want = 10 * (addr + 1)
			}
			if v, got := mem.Load(g.memory(), addr); v != want || got != ok {
				t.Errorf("Load(%d words, %d) = %d, %v, want %d, %v", words, addr, v, got, want, ok)
			}
			g.want(t, before, "Load", words, addr)
		}
	}
}

func TestP5_3Writable(t *testing.T) {
	for _, c := range []struct {
		words, fixed int
		addr         int64
		n            int
		want         bool
	}{
		{4, 0, 4, 0, true},
		{4, 5, 4, 0, false},
		{-1, 0, 0, 0, false},
		{4, 4, 4, 0, true},
		{4, 0, 5, 0, false},
		{4, 0, 0, 4, true},
		{4, 0, 0, 5, false},
		{4, 0, 1, 3, true},
		{4, 0, 1, 4, false},
		{4, 0, 0, -1, false},
		{4, 0, 4, -1, false},
		{4, 0, -1, 1, false},
		{4, -1, -1, 1, false},
		{4, -9, -1, 0, false},
		{4, 2, 1, 2, false},
		{4, 2, 2, 2, true},
		{4, 2, 3, 1, true},
		{4, -9, 0, 4, true},
		{4, 9, 3, 1, false},
		{0, 0, 0, 0, true},
		{0, 0, 0, 1, false},
		{0, 1, 0, 0, false},
		{4, 0, top, top, false},
		{4, 0, top, 1, false},
		{4, 0, 1, top, false},
		{4, 0, top, 5, false},
		{top, 0, top, 0, true},
		{top, 0, top, 1, false},
		{top, 0, 1, top, false},
		{top, 0, 0, top, true},
		{top, top, top, 0, true},
		{top, top, top - 1, 1, false},
		{top, bottom, top - 1, 1, true},
		{bottom, 0, 0, 0, false},
		{bottom, bottom, 0, bottom, false},
		{bottom, bottom, bottom, bottom, false},
		{bottom, bottom, bottom, 0, false},
		{bottom, 0, 0, top, false},
		{4, bottom, bottom, 4, false},
		{4, 0, 0, bottom, false},
		{api.MaxWords, 0, 0, api.MaxWords, true},
		{api.MaxWords, 0, 1, api.MaxWords, false},
		{api.MaxWords + 1, 0, 1, api.MaxWords, true},
	} {
		if got := mem.Writable(c.words, c.fixed, c.addr, c.n); got != c.want {
			t.Errorf("Writable(%d, %d, %d, %d) = %v", c.words, c.fixed, c.addr, c.n, got)
		}
	}
}

func TestP5_3WritableBesideTheChaptersWords(t *testing.T) {
	for _, words := range edges() {
		for _, addr := range edges() {
			for _, n := range edges() {
				in := inside(words, addr, n)
				for _, fixed := range edges() {
					want := in && addr >= fixed
					if got := mem.Writable(int(words), int(fixed), addr, int(n)); got != want {
						t.Fatalf("Writable(%d, %d, %d, %d) = %v", words, fixed, addr, n, got)
					}
				}
			}
		}
	}
}

func TestP5_4Store(t *testing.T) {
	for _, c := range []struct {
		words, fixed int
		addr, value  int64
		want         bool
	}{
		{4, 2, 2, 5, true},
		{4, 2, 3, 5, true},
		{4, 2, 1, 5, false},
		{4, 2, 0, 5, false},
		{4, 0, 0, 5, true},
		{4, -9, 0, 5, true},
		{4, bottom, 0, 5, true},
		{4, 9, 3, 5, false},
		{4, 4, 3, 5, false},
		{4, 3, 3, bottom, true},
		{4, 0, 3, top, true},
		{4, 0, 3, 0, true},
		{4, 0, 4, 5, false},
		{4, 4, 4, 5, false},
		{4, 0, -1, 5, false},
		{4, -1, -1, 5, false},
		{4, top, 3, 5, false},
		{4, 0, top, 5, false},
		{4, 0, bottom, 5, false},
		{4, bottom, bottom, 5, false},
		{4, 0, 1 << 32, 5, false},
		{0, 0, 0, 5, false},
		{0, 0, -1, 5, false},
		{1, 0, 0, 5, true},
		{1, 1, 0, 5, false},
	} {
		wantStore(t, c.words, c.fixed, c.addr, c.value, c.want)
	}
	if mem.Store(nil, 0, 0, 5) {
		t.Errorf("Store(nil, 0, 0, 5) = true")
	}
}

// wantStore asks what Store answers, and that it changes its word alone, or nothing.
func wantStore(t *testing.T, words, fixed int, addr, value int64, want bool) {
	t.Helper()
	g := newGround(words)
	list := g.with(0)
	if want {
		list = g.with(addr, value)
	}
	if got := mem.Store(g.memory(), fixed, addr, value); got != want {
		t.Errorf("Store(%d words, %d, %d, %d) = %v", words, fixed, addr, value, got)
	}
	g.want(t, list, "Store", words, fixed, addr, value)
}

func TestP5_4StoreBesideTheChaptersWords(t *testing.T) {
	for words := range 6 {
		for _, fixed := range edges() {
			for _, addr := range edges() {
				want := inside(int64(words), addr, 1) && addr >= fixed
				wantStore(t, words, int(fixed), addr, -5, want)
			}
		}
	}
}

func TestP5_5Read(t *testing.T) {
	m := []int64{10, 20, 30, 40}
	for _, c := range []struct {
		m    []int64
		addr int64
		n    int
		want []int64
		ok   bool
	}{
		{m, 1, 2, []int64{20, 30}, true},
		{m, 0, 4, []int64{10, 20, 30, 40}, true},
		{m, 0, 1, []int64{10}, true},
		{m, 3, 1, []int64{40}, true},
		{m, 0, 0, nil, true},
		{m, 4, 0, nil, true},
		{m, 5, 0, nil, false},
		{m, 3, 2, nil, false},
		{m, 4, 1, nil, false},
		{m, 0, 5, nil, false},
		{m, 0, -1, nil, false},
		{m, 4, -1, nil, false},
		{m, -1, 0, nil, false},
		{m, -1, 1, nil, false},
		{m, -1, 2, nil, false},
		{m, top, 1, nil, false},
		{m, top, top, nil, false},
		{m, 1, top, nil, false},
		{m, 0, top, nil, false},
		{m, bottom, top, nil, false},
		{m, bottom, bottom, nil, false},
		{m, 0, bottom, nil, false},
		{m, 1 << 32, 1, nil, false},
		{m, 1, 1 << 32, nil, false},
		{m[:2], 0, 3, nil, false},
		{m[:2], 2, 1, nil, false},
		{m[:0], 0, 0, nil, true},
		{m[:0], 0, 1, nil, false},
		{nil, 0, 0, nil, true},
		{nil, 0, 1, nil, false},
		{nil, 1, 0, nil, false},
	} {
		list, ok := mem.Read(c.m, c.addr, c.n)
		if !slices.Equal(list, c.want) || ok != c.ok {
			t.Errorf("Read(%d words, %d, %d) = %v, %v, want %v, %v", len(c.m), c.addr, c.n, list, ok, c.want, c.ok)
		}
		if !slices.Equal(m, []int64{10, 20, 30, 40}) {
			t.Fatalf("Read(%d words, %d, %d) changed the memory: %v", len(c.m), c.addr, c.n, m)
		}
	}
}

func TestP5_5ReadBesideTheChaptersWords(t *testing.T) {
	for words := range 6 {
		g := newGround(words)
		before := slices.Clone(g.all)
		for _, addr := range edges() {
			for _, n := range edges() {
				ok := inside(int64(words), addr, n)
				var want []int64
				if ok {
					for x := addr; x < addr+n; x++ {
						want = append(want, 10*(x+1))
					}
				}
				list, got := mem.Read(g.memory(), addr, int(n))
				if !slices.Equal(list, want) || got != ok {
					t.Errorf("Read(%d words, %d, %d) = %v, %v, want %v, %v", words, addr, n, list, got, want, ok)
				}
			}
		}
		g.want(t, before, "Read", words)
	}
}

func TestP5_5ReadAnswersNewMemory(t *testing.T) {
	const words = 5
	for addr := int64(0); addr <= words; addr++ {
		for n := 0; int(addr)+n <= words; n++ {
			g := newGround(words)
			before := slices.Clone(g.all)
			a, _ := mem.Read(g.memory(), addr, n)
			b, _ := mem.Read(g.memory(), addr, n)
			want := slices.Clone(b)
			for i := range a {
				a[i] = 77
			}
			for range words + behind {
				a = append(a, 77)
			}
			g.want(t, before, "a change of what was read shows: Read", words, addr, n)
			for i := range g.all {
				g.all[i] = 99
			}
			if !slices.Equal(b, want) {
				t.Errorf("Read(%d words, %d, %d): what was read became %v, want %v", words, addr, n, b, want)
			}
		}
	}
}

func TestP5_6Write(t *testing.T) {
	for _, c := range []struct {
		words, fixed int
		addr         int64
		data         []int64
		want         bool
	}{
		{4, 0, 2, []int64{1, 2}, true},
		{4, 0, 0, []int64{1}, true},
		{4, 0, 3, []int64{1}, true},
		{4, 0, 0, []int64{1, bottom, top, 0}, true},
		{4, 0, 3, []int64{1, 2}, false},
		{4, 0, 0, []int64{1, 2, 3, 4, 5}, false},
		{4, 0, 4, []int64{1}, false},
		{4, 3, 2, []int64{1}, false},
		{4, 3, 2, []int64{1, 2}, false},
		{4, 3, 3, []int64{1}, true},
		{4, 1, 0, []int64{1, 2, 3, 4}, false},
		{4, -9, 0, []int64{1, 2}, true},
		{4, bottom, 0, []int64{1, 2}, true},
		{4, 4, 3, []int64{1}, false},
		{4, 9, 3, []int64{1}, false},
		{4, top, 3, []int64{1}, false},
		{4, 0, -1, []int64{1}, false},
		{4, -1, -1, []int64{1, 2}, false},
		{4, 0, top, []int64{1}, false},
		{4, 0, top - 1, []int64{1, 2, 3}, false},
		{4, 0, bottom, []int64{1}, false},
		{4, bottom, bottom, []int64{1}, false},
		{4, 0, 4, nil, true},
		{4, 4, 4, nil, true},
		{4, 5, 4, nil, false},
		{4, 1, 0, nil, false},
		{4, 0, 5, nil, false},
		{4, 0, -1, nil, false},
		{4, 0, 2, []int64{}, true},
		{0, 0, 0, nil, true},
		{0, 1, 0, nil, false},
		{0, 0, 0, []int64{1}, false},
	} {
		wantWrite(t, c.words, c.fixed, c.addr, c.data, c.want)
	}
	if !mem.Write(nil, 0, 0, nil) || mem.Write(nil, 0, 0, []int64{1}) {
		t.Errorf("Write to no memory at all: want true of no words and false of one")
	}
}

// wantWrite asks what Write answers, that it changes its words alone, or nothing, and that data stays as it is.
func wantWrite(t *testing.T, words, fixed int, addr int64, data []int64, want bool) {
	t.Helper()
	g := newGround(words)
	list := g.with(0)
	if want {
		list = g.with(addr, data...)
	}
	room := append(slices.Clone(data), 55, 66, 77)
	kept := slices.Clone(room)
	if got := mem.Write(g.memory(), fixed, addr, room[:len(data)]); got != want {
		t.Errorf("Write(%d words, %d, %d, %v) = %v", words, fixed, addr, data, got)
	}
	g.want(t, list, "Write", words, fixed, addr, data)
	if !slices.Equal(room, kept) {
		t.Errorf("Write(%d words, %d, %d, %v) changed data or its spare room: %v", words, fixed, addr, data, room)
	}
}

func TestP5_6WriteBesideTheChaptersWords(t *testing.T) {
	source := []int64{-1, -2, -3, -4, -5, -6, -7}
	for words := range 6 {
		for _, fixed := range edges() {
			for _, addr := range edges() {
				for n := range len(source) {
					want := inside(int64(words), addr, int64(n)) && addr >= fixed
					wantWrite(t, words, int(fixed), addr, source[:n], want)
				}
			}
		}
	}
}

func TestP5_6WriteAPieceOfItself(t *testing.T) {
	for _, c := range []struct {
		addr     int64
		from, to int
		want     []int64
	}{
		{1, 0, 3, []int64{10, 10, 20, 30}},
		{0, 1, 4, []int64{20, 30, 40, 40}},
		{0, 0, 4, []int64{10, 20, 30, 40}},
		{2, 0, 2, []int64{10, 20, 10, 20}},
		{0, 2, 4, []int64{30, 40, 30, 40}},
		{3, 0, 1, []int64{10, 20, 30, 10}},
		{2, 1, 3, []int64{10, 20, 20, 30}},
		{4, 1, 1, []int64{10, 20, 30, 40}},
	} {
		m := []int64{10, 20, 30, 40}
		if !mem.Write(m, 0, c.addr, m[c.from:c.to]) || !slices.Equal(m, c.want) {
			t.Errorf("Write(m, 0, %d, m[%d:%d]): %v, want %v", c.addr, c.from, c.to, m, c.want)
		}
	}
}

// The pieces go over the whole list, so that they lie ahead of, behind and across the range, in the fixed words, and over both ends of the memory.
func TestP5_6WriteEveryPieceOfItself(t *testing.T) {
	const words = 6
	for fixed := -1; fixed <= words+1; fixed++ {
		for addr := int64(-1); addr <= words+1; addr++ {
			for from := range ahead + words + behind + 1 {
				for to := from; to <= ahead+words+behind; to++ {
					g := newGround(words)
					data := g.all[from:to]
					ok := inside(words, addr, int64(len(data))) && addr >= int64(fixed)
					want := g.with(0)
					if ok {
						want = g.with(addr, slices.Clone(data)...)
					}
					if got := mem.Write(g.memory(), fixed, addr, data); got != ok {
						t.Fatalf("Write(m, %d, %d, all[%d:%d]) = %v", fixed, addr, from, to, got)
					}
					g.want(t, want, "Write", fixed, addr, from, to)
				}
			}
		}
	}
}

func TestP5_7WhatIsWrittenIsRead(t *testing.T) {
	const words = 6
	for addr := int64(0); addr <= words; addr++ {
		for n := 0; int(addr)+n <= words; n++ {
			m, _ := mem.New(words, []int64{10, 20, 30})
			data := []int64{-1, top, bottom, 0, -5, -6}[:n]
			if !mem.Write(m, int(addr), addr, data) {
				t.Fatalf("Write(m, %d, %d, %v) = false", addr, addr, data)
			}
			if list, ok := mem.Read(m, addr, n); !slices.Equal(list, data) || !ok {
				t.Errorf("Read(m, %d, %d) = %v, %v, want %v", addr, n, list, ok, data)
			}
			for i, x := range data {
				if v, ok := mem.Load(m, addr+int64(i)); v != x || !ok {
					t.Errorf("Load(m, %d) = %d, %v, want %d", addr+int64(i), v, ok, x)
				}
			}
		}
	}
	m := make([]int64, words)
	for addr := range int64(words) {
		if !mem.Store(m, 0, addr, -addr-1) {
			t.Errorf("Store(m, 0, %d, %d) = false", addr, -addr-1)
		}
		if v, ok := mem.Load(m, addr); v != -addr-1 || !ok {
			t.Errorf("Load(m, %d) = %d, %v, want %d", addr, v, ok, -addr-1)
		}
	}
}

// Many calls on one memory, good and bad ones, beside a map of what its words should be.
func TestP5_7EveryOtherWordStays(t *testing.T) {
	chance := rand.New(rand.NewPCG(5, 7))
	some := edges()
	pick := func() int64 {
		if chance.IntN(4) > 0 {
			return int64(chance.IntN(10) - 1)
		}
		return some[chance.IntN(len(some))]
	}
	for range 300 {
		words := chance.IntN(9)
		fixed := chance.IntN(words+3) - 1
		g := newGround(words)
		want := map[int64]int64{}
		for i := range g.all {
			want[int64(i-ahead)] = g.all[i]
		}
		for range 60 {
			addr, value := pick(), chance.Int64()
			if chance.IntN(2) == 0 {
				if mem.Store(g.memory(), fixed, addr, value) {
					want[addr] = value
				}
			} else {
				data := make([]int64, chance.IntN(words+3))
				for i := range data {
					data[i] = chance.Int64()
				}
				if mem.Write(g.memory(), fixed, addr, data) {
					for i, x := range data {
						want[addr+int64(i)] = x
					}
				}
			}
			for i, x := range g.all {
				if at := int64(i - ahead); want[at] != x {
					t.Fatalf("%d words, %d fixed: the word at %d is %d, want %d", words, fixed, at, x, want[at])
				}
			}
		}
		fresh := newGround(words)
		for i, x := range fresh.all {
			if at := i - ahead; (at < fixed || at < 0 || at >= words) && g.all[i] != x {
				t.Fatalf("%d words, %d fixed: the word at %d changed", words, fixed, at)
			}
		}
	}
}
