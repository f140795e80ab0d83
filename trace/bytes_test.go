package trace_test

import (
	"bytes"
	"encoding/binary"
	"hash/crc32"
	"math"
	"math/rand/v2"
	"slices"
	"testing"

	"bulkhead/api"
	"bulkhead/trace"
)

// summed lays the check sum behind bytes.
func summed(b ...byte) []byte {
	sum := crc32.ChecksumIEEE(b)
	return append(b, byte(sum), byte(sum>>8), byte(sum>>16), byte(sum>>24))
}

// decodesTo wants bytes to be read as these events.
func decodesTo(t *testing.T, what string, b []byte, want []api.Event) {
	t.Helper()
	if list, err := trace.Decode(b); !same(list, want) || err != api.OK {
		t.Errorf("P23.3: %s: %s, %d", what, few(list), err)
	}
}

// refused wants bytes not to be read.
func refused(t *testing.T, what string, b []byte, want api.Errno) {
	t.Helper()
	if list, err := trace.Decode(b); len(list) != 0 || err != want {
		t.Errorf("P23.3: %s: %s, %d, want %d", what, few(list), err, want)
	}
	decodes(t, what, b)
}

// untold wants events not to be told.
func untold(t *testing.T, what string, events []api.Event, want api.Errno) {
	t.Helper()
	if b, err := trace.Encode(events); len(b) != 0 || err != want {
		t.Errorf("P23.2: %s: %d bytes, %d, want %d", what, len(b), err, want)
	}
}

func TestP23_2_EncodeAndP23_3_DecodeByHand(t *testing.T) {
	for _, c := range []struct {
		what   string
		events []api.Event
		told   []byte
		length int
	}{
		{"none", nil, summed(0x42, 0x4b, 4, 1, 0, 0, 0, 4, 0, 0, 0, 0), 16},
		{"one with two words", []api.Event{{Tick: 0x0102030405, Part: 2, Kind: api.EventOut, Proc: 0, A: 4, B: -2, Data: []int64{5, -7}}},
			summed(0x42, 0x4b, 4, 1, 0, 0, 0, 48, 0, 0, 0, 1,
				0, 0, 0, 1, 2, 3, 4, 5, 2, 11, 0, 0, 0, 0, 0, 0, 0, 0, 4, 255, 255, 255, 255, 255, 255, 255, 254, 2,
				0, 0, 0, 0, 0, 0, 0, 5, 255, 255, 255, 255, 255, 255, 255, 249), 60},
		{"two, whose ticks fall", []api.Event{
			{Tick: 1<<40 - 1, Part: 32, Kind: 12, Proc: 16, A: math.MaxInt64, B: math.MinInt64},
			{Tick: 0, Part: 1, Kind: 1, Proc: 3, A: 16, Data: []int64{math.MinInt64}}},
			summed(0x42, 0x4b, 4, 1, 0, 0, 0, 68, 0, 0, 0, 2,
				0, 0, 0, 255, 255, 255, 255, 255, 32, 12, 16, 127, 255, 255, 255, 255, 255, 255, 255, 128, 0, 0, 0, 0, 0, 0, 0, 0,
				0, 0, 0, 0, 0, 0, 0, 0, 1, 1, 3, 0, 0, 0, 0, 0, 0, 0, 16, 0, 0, 0, 0, 0, 0, 0, 0, 1, 128, 0, 0, 0, 0, 0, 0, 0), 80},
	} {
		if len(c.told) != c.length {
			t.Fatalf("%s: %d bytes are written down, not %d", c.what, len(c.told), c.length)
		}
		if b, err := trace.Encode(c.events); !bytes.Equal(b, c.told) || err != api.OK {
			t.Errorf("P23.2: %s: %x, %d, want %x", c.what, b, err, c.told)
		}
		decodesTo(t, c.what, c.told, c.events)
	}
}

// sorts are lists of events of all sorts that go.
func sorts() map[string][]api.Event {
	list := map[string][]api.Event{
		"none":                 nil,
		"a call":               {{Tick: 17, Part: 2, Kind: api.EventCall, Proc: 3, A: 16}},
		"a message out":        {{Part: 1, Kind: api.EventOut, A: 4, Data: []int64{5, -7}}},
		"both ends":            {{Tick: 0, Part: 1, Kind: 1}, {Tick: lastTick, Part: 32, Kind: 12, Proc: 16, A: math.MinInt64, B: math.MaxInt64, Data: []int64{math.MinInt64, math.MaxInt64, 0, -1}}},
		"ticks that fall":      {at(9, 1), at(8, 2, 1), at(0, 3)},
		"MaxSize words":        {at(1, 1, words(16)...), at(1, 1, words(16)...)},
		"many without data":    slices.Repeat([]api.Event{at(3, 3)}, 300),
		"all numbers of words": nil,
	}
	for n := range 17 {
		list["all numbers of words"] = append(list["all numbers of words"], at(n, 1, words(n)...))
	}
	var kinds []api.Event
	for kind := 1; kind <= 12; kind++ {
		kinds = append(kinds, api.Event{Tick: kind, Part: kind, Kind: kind, Proc: kind, A: int64(kind), B: -int64(kind)})
	}
	list["all kinds"] = kinds
	return list
}

func TestP23_2_Encode(t *testing.T) {
	for what, list := range sorts() {
		encodes(t, what, list)
		if _, err := trace.Encode(list); err != api.OK {
			t.Errorf("P23.2: %s: %d", what, err)
		}
		decodesTo(t, what, bytesOf(list), list)
	}
	r := rand.New(rand.NewPCG(23, 1))
	for range 2000 {
		list := listOf(r, 9, goingEvent)
		encodes(t, "by chance", list)
		decodesTo(t, "by chance", bytesOf(list), list)
		encodes(t, "any", listOf(r, 4, anyEvent))
	}
}

// One event that does not go is enough, wherever it stands.
func TestP23_2_EventsThatDoNotGo(t *testing.T) {
	events, going := edgeEvents()
	told := 0
	for _, e := range events {
		encodes(t, "an edge", []api.Event{e})
		if goesOf(e) {
			told++
			continue
		}
		untold(t, "alone", []api.Event{e}, api.ErrArg)
	}
	if told != going {
		t.Errorf("%d go, want %d", told, going)
	}
	x := at(1, 1, 7)
	for _, bad := range []api.Event{{}, at(-1, 1), at(api.MaxTick, 1), at(0, 0), at(0, api.MaxParts+1), at(0, 1, words(17)...), {Part: 1}, {Part: 1, Kind: 13}, {Part: 1, Kind: 1, Proc: -1}, {Part: 1, Kind: 1, Proc: api.MaxProcs + 1}} {
		untold(t, "the first", []api.Event{bad, x, x}, api.ErrArg)
		untold(t, "between", []api.Event{x, bad, x}, api.ErrArg)
		untold(t, "the last", []api.Event{x, x, bad}, api.ErrArg)
	}
}

// ofWords are so many events with so many words in all.
func ofWords(events, words int) []api.Event {
	list := make([]api.Event, events)
	for i := range list {
		n := min(16, words)
		words -= n
		list[i] = at(i, 1+i%32, make([]int64, n)...)
		for j := range n {
			list[i].Data[j] = int64(j - 7)
		}
	}
	return list
}

func TestP23_2_MostBytes(t *testing.T) {
	for _, c := range []struct {
		events, words, bytes int
		err                  api.Errno
	}{
		{149796, 0, 1<<22 - 12, api.OK},
		{149796, 1, 1<<22 - 4, api.OK},
		{149796, 2, 1<<22 + 4, api.ErrLong},
		{149796, 16 * 149796, 23368180, api.ErrLong},
		{149797, 0, 1<<22 + 16, api.ErrLong},
		{149797, 16 * 149797, 23368336, api.ErrLong},
		{149795, 6, 1<<22 + 8, api.ErrLong},
		{149795, 5, 1 << 22, api.OK},
		{149795, 4, 1<<22 - 8, api.OK},
		{26887, 430184, 1<<22 + 8, api.ErrLong},
		{26887, 430183, 1 << 22, api.OK},
		{26887, 430182, 1<<22 - 8, api.OK},
		{26886, 16 * 26886, 1<<22 - 84, api.OK},
		{26888, 16 * 26888, 1<<22 + 228, api.ErrLong},
	} {
		list := ofWords(c.events, c.words)
		body := bodyOf(list)
		if len(body) != c.bytes {
			t.Fatalf("%d events with %d words have %d bytes, not %d", c.events, c.words, len(body), c.bytes)
		}
		if c.err != api.OK {
			untold(t, "more than 2^22 bytes", list, c.err)
			refused(t, "more than 2^22 bytes", sealed(4, body), api.ErrLong)
			continue
		}
		if b, err := trace.Encode(list); !bytes.Equal(b, sealed(4, body)) || err != api.OK {
			t.Errorf("P23.2: %d events with %d words: %d bytes, %d", c.events, c.words, len(b), err)
		}
		decodesTo(t, "up to 2^22 bytes", sealed(4, body), list)
	}
}

// Of too many events one that does not go is the first error, wherever it stands.
func TestP23_2_ArgAheadOfLong(t *testing.T) {
	many := slices.Repeat([]api.Event{at(1, 1)}, 1<<20)
	untold(t, "too many", many, api.ErrLong)
	for _, place := range []int{0, 1, 149795, 149796, 149797, 1<<20 - 1} {
		many[place].Proc = 17
		untold(t, "too many, one does not go", many, api.ErrArg)
		many[place].Proc = 0
	}
	untold(t, "none of them goes", make([]api.Event, 150000), api.ErrArg)
	full := slices.Repeat([]api.Event{at(1, 1, words(16)...)}, 26888)
	untold(t, "too many words", full, api.ErrLong)
	full[26887].Data = words(17)
	untold(t, "too many words, one has 17", full, api.ErrArg)
}

// One great list of words in very many events: refused at once, without a look at the words.
func TestP23_2_GreatData(t *testing.T) {
	data := make([]int64, 1<<24)
	untold(t, "one", []api.Event{at(1, 1, data...)}, api.ErrArg)
	untold(t, "many", slices.Repeat([]api.Event{{Part: 1, Kind: 1, Data: data}}, 1<<20), api.ErrArg)
}

func TestP23_3_Lengths(t *testing.T) {
	refused(t, "nil", nil, api.ErrForm)
	refused(t, "empty", []byte{}, api.ErrForm)
	for _, n := range []int{1, 8, 11, 12, 15, 16, 1<<22 + 11, 1<<22 + 12} {
		refused(t, "nothing but 0", make([]byte, n), api.ErrForm)
	}
	for _, n := range []int{1<<22 + 13, 1<<22 + 14, 1 << 23} {
		refused(t, "nothing but 0", make([]byte, n), api.ErrLong)
	}
	// 2^22 + 12 bytes, well sealed: of events, and of none.
	list := ofWords(149795, 5)
	b := bytesOf(list)
	if len(b) != 1<<22+12 {
		t.Fatalf("%d bytes", len(b))
	}
	decodesTo(t, "2^22 + 12 bytes", b, list)
	refused(t, "one less", b[:len(b)-1], api.ErrForm)
	refused(t, "one more", append(slices.Clone(b), 0), api.ErrLong)
	refused(t, "one more, sealed", sealed(4, append(bodyOf(list), 0)), api.ErrLong)
	refused(t, "bytes that are no event's", sealed(4, append(bodyOf(ofWords(149796, 1)), 0, 0, 0, 0)), api.ErrForm)
	refused(t, "2^22 bytes of 1", sealed(4, bytes.Repeat([]byte{1}, 1<<22)), api.ErrForm)
	// Bytes that are no seal's at all are too long all the same.
	refused(t, "of another kind, too long", sealed(3, append(bodyOf(list), 0)), api.ErrLong)
}

func TestP23_3_Spoilt(t *testing.T) {
	for what, list := range sorts() {
		if len(bodyOf(list)) > 1500 {
			continue
		}
		b, inner := bytesOf(list), bodyOf(list)
		for place := range b {
			for bit := range 8 {
				c := slices.Clone(b)
				c[place] ^= 1 << bit
				refused(t, what+", a bit turned", c, api.ErrForm)
			}
		}
		for length := range b {
			refused(t, what+", cut", b[:length], api.ErrForm)
			refused(t, what+", cut ahead", b[len(b)-length:], api.ErrForm)
		}
		for _, more := range [][]byte{{0}, {1}, b[:1], b} {
			refused(t, what+", longer", slices.Concat(b, more), api.ErrForm)
			refused(t, what+", longer ahead", slices.Concat(more, b), api.ErrForm)
		}
		for kind := range 256 {
			if kind != 4 {
				refused(t, what+", of another kind", sealed(byte(kind), inner), api.ErrForm)
			}
		}
		decodesTo(t, what, b, list)
	}
}

// Bytes that are well sealed, but no events'.
func TestP23_3_WhatIsSealedIsNoEvents(t *testing.T) {
	for what, list := range sorts() {
		inner := bodyOf(list)
		if len(inner) > 1500 {
			continue
		}
		for length := range inner {
			refused(t, what+", cut", sealed(4, inner[:length]), api.ErrForm)
		}
		for more := 1; more < 40; more++ {
			refused(t, what+", longer", sealed(4, slices.Concat(inner, make([]byte, more))), api.ErrForm)
		}
		refused(t, what+", a seal in the seal", sealed(4, sealed(4, inner)), api.ErrForm)
		// One bit turned ahead of sealing: mostly other events, or none.
		for place := range inner {
			for bit := range 8 {
				c := slices.Clone(inner)
				c[place] ^= 1 << bit
				decodes(t, what+", a bit turned", sealed(4, c))
			}
		}
	}
}

// No number of events is too great by itself: what is not there makes no events' bytes.
func TestP23_3_NumbersOfEvents(t *testing.T) {
	x, y := at(7, 2, 5), at(1, 1)
	counted := func(n uint32, list ...api.Event) []byte {
		b := bodyOf(list)
		binary.BigEndian.PutUint32(b, n)
		return b
	}
	for _, list := range [][]api.Event{nil, {x}, {x, y}, {y, y, y}} {
		for _, n := range []uint32{4, 5, 100, 65536, 65537, 149796, 149797, 1 << 20, 1 << 22, 1<<22 + 1, 1 << 31, 1<<32 - 1} {
			refused(t, "a number above what is there", sealed(4, counted(n, list...)), api.ErrForm)
			refused(t, "and bytes behind", sealed(4, append(counted(n, list...), make([]byte, 200)...)), api.ErrForm)
		}
	}
	decodesTo(t, "two", sealed(4, counted(2, x, y)), []api.Event{x, y})
	refused(t, "one less", sealed(4, counted(1, x, y)), api.ErrForm)
	refused(t, "one more", sealed(4, counted(3, x, y)), api.ErrForm)
	refused(t, "none", sealed(4, counted(0, x, y)), api.ErrForm)
	refused(t, "as many as there are bytes", sealed(4, append(counted(1000), make([]byte, 1000)...)), api.ErrForm)
}

func TestP23_3_NumbersOfWords(t *testing.T) {
	x, y := at(7, 2, 5, 6), at(1, 1)
	first, last := 4+27, 4+28+16+27
	for n := range 256 {
		for what, place := range map[string]int{"first": first, "last": last} {
			inner := bodyOf([]api.Event{x, y})
			if inner[place] == byte(n) {
				continue
			}
			inner[place] = byte(n)
			refused(t, "words of the "+what, sealed(4, inner), api.ErrForm)
			// With bytes for them: read, if the event goes.
			for _, more := range []int{1, 8, 8*n - 1, 8 * n, 8*n + 1} {
				decodes(t, "words of the "+what+", and bytes", sealed(4, append(inner, make([]byte, max(0, more))...)))
			}
		}
	}
	for _, n := range []int{0, 1, 15, 16} {
		decodesTo(t, "words", bytesOf([]api.Event{at(1, 1, words(n)...), y}), []api.Event{at(1, 1, words(n)...), y})
	}
	for _, n := range []int{17, 18, 32, 255} {
		refused(t, "too many words", bytesOf([]api.Event{at(1, 1, words(n)...), y}), api.ErrForm)
		refused(t, "too many words at the end", bytesOf([]api.Event{y, at(1, 1, words(n)...)}), api.ErrForm)
	}
}

// An event that does not go, in bytes that are whole else.
func TestP23_3_EventsThatDoNotGo(t *testing.T) {
	x := at(1, 1, 7)
	spoilt := func(what string, place int, value byte, goes bool) {
		t.Helper()
		for ahead := range 3 {
			list := append(slices.Repeat([]api.Event{x}, ahead), at(5, 5), x)
			inner := bodyOf(list)
			inner[4+36*ahead+place] = value
			if goes {
				if _, err := trace.Decode(sealed(4, inner)); err != api.OK {
					t.Errorf("P23.3: %s %d: %d", what, value, err)
				}
				decodes(t, what, sealed(4, inner))
				continue
			}
			refused(t, what, sealed(4, inner), api.ErrForm)
		}
	}
	for value := range 256 {
		spoilt("the tick's highest byte", 0, byte(value), value == 0)
		spoilt("the tick's third byte", 2, byte(value), value == 0)
		spoilt("the tick's fourth byte", 3, byte(value), true)
		spoilt("Part", 8, byte(value), 1 <= value && value <= 32)
		spoilt("Kind", 9, byte(value), 1 <= value && value <= 12)
		spoilt("Proc", 10, byte(value), value <= 16)
		spoilt("A", 11, byte(value), true)
		spoilt("B", 19, byte(value), true)
	}
	refused(t, "nothing but 0", bytesOf(make([]api.Event, 1)), api.ErrForm)
	refused(t, "very many of nothing but 0", bytesOf(make([]api.Event, 149796)), api.ErrForm)
	for _, tick := range []int{-1, api.MaxTick, math.MinInt, math.MaxInt} {
		refused(t, "a tick beyond", bytesOf([]api.Event{x, at(tick, 1)}), api.ErrForm)
	}
}

func TestP23_3_WhateverBytes(t *testing.T) {
	r := rand.New(rand.NewPCG(23, 2))
	read := 0
	for range 20000 {
		inner := bodyOf(listOf(r, 4, goingEvent))
		for range r.IntN(3) {
			switch place := r.IntN(len(inner)); r.IntN(5) {
			case 0, 1:
				inner[place] = byte(r.IntN(5))
			case 2:
				inner[place] = byte(r.IntN(256))
			case 3:
				inner = append(inner, make([]byte, pick(r, 1, 8, 28))...)
			case 4:
				inner = inner[:max(1, place)]
			}
		}
		b := sealed(4, inner)
		if r.IntN(10) == 0 {
			b[r.IntN(len(b))] = byte(r.IntN(256))
		}
		decodes(t, "by chance", b)
		list, err := trace.Decode(b)
		if err != api.OK {
			continue
		}
		read++
		if again, err := trace.Encode(list); !bytes.Equal(again, b) || err != api.OK {
			t.Fatalf("P23.9: %x is told again as %x, %d", b, again, err)
		}
	}
	if read < 4000 {
		t.Errorf("%d were read", read)
	}
	for range 20000 {
		b := make([]byte, r.IntN(60))
		for i := range b {
			b[i] = pick(r, 0x42, 0x4b, 4, 1, 0, 0, byte(r.IntN(256)))
		}
		refused(t, "any bytes", b, api.ErrForm)
	}
}
