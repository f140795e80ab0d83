package trace_test

import (
	"bytes"
	"encoding/binary"
	"fmt"
	"hash/crc32"
	"math"
	"math/big"
	"math/rand/v2"
	"regexp"
	"slices"
	"testing"

	"bulkhead/api"
	"bulkhead/trace"
)

// A second reading of the chapter, by other means than the program's: bytes by the library, lines by a regular expression and numbers of any size. Its bounds and names are written out.
const (
	mostBody  = 4194304
	mostBytes = 4194316
	lastTick  = 1099511627775
)

var kindNames = []string{"", "call", "log", "fault", "miss", "overrun", "restart", "idle", "wake", "arrive", "lost", "out", "start"}

// words are so many words of data, 1, 2, 3, ..
func words(n int) []int64 {
	list := make([]int64, n)
	for i := range list {
		list[i] = int64(i + 1)
	}
	return list
}

// at is an event at a tick, of a partition.
func at(tick, part int, data ...int64) api.Event {
	return api.Event{Tick: tick, Part: part, Kind: api.EventOut, Data: data}
}

func sameEvent(x, y api.Event) bool {
	return x.Tick == y.Tick && x.Part == y.Part && x.Kind == y.Kind && x.Proc == y.Proc && x.A == y.A && x.B == y.B && slices.Equal(x.Data, y.Data)
}

func same(a, b []api.Event) bool { return slices.EqualFunc(a, b, sameEvent) }

// few tells a list for a message about it, if it is short.
func few[T any](list []T) string {
	if len(list) > 20 {
		return fmt.Sprint(len(list), " of them, from ", list[0], " on")
	}
	return fmt.Sprint(list)
}

func goesOf(e api.Event) bool {
	within := func(n, least, most int) bool { return least <= n && n <= most }
	return within(e.Tick, 0, lastTick) && within(e.Part, 1, 32) && within(e.Kind, 1, 12) && within(e.Proc, 0, 16) && within(len(e.Data), 0, 16)
}

// bodyOf is a list of events in bytes, without a seal; of those that do not go what their fields' lowest bytes are.
func bodyOf(events []api.Event) []byte {
	b := binary.BigEndian.AppendUint32(nil, uint32(len(events)))
	for _, e := range events {
		b = binary.BigEndian.AppendUint64(b, uint64(e.Tick))
		b = append(b, byte(e.Part), byte(e.Kind), byte(e.Proc))
		b = binary.BigEndian.AppendUint64(b, uint64(e.A))
		b = binary.BigEndian.AppendUint64(b, uint64(e.B))
		b = append(b, byte(len(e.Data)))
		for _, n := range e.Data {
			b = binary.BigEndian.AppendUint64(b, uint64(n))
		}
	}
	return b
}

// sealed lays a seal around bytes.
func sealed(kind byte, inner []byte) []byte {
	b := append([]byte{0x42, 0x4b, kind, 1}, binary.BigEndian.AppendUint32(nil, uint32(len(inner)))...)
	b = append(b, inner...)
	return binary.LittleEndian.AppendUint32(b, crc32.ChecksumIEEE(b))
}

func bytesOf(events []api.Event) []byte { return sealed(4, bodyOf(events)) }

func encodeOf(events []api.Event) ([]byte, api.Errno) {
	size := 4
	for _, e := range events {
		if !goesOf(e) {
			return nil, api.ErrArg
		}
		size += 28 + 8*len(e.Data)
	}
	if size > mostBody {
		return nil, api.ErrLong
	}
	return bytesOf(events), api.OK
}

func decodeOf(b []byte) ([]api.Event, api.Errno) {
	if len(b) > mostBytes {
		return nil, api.ErrLong
	}
	if len(b) < 16 {
		return nil, api.ErrForm
	}
	inner, sum := b[8:len(b)-4], binary.LittleEndian.Uint32(b[len(b)-4:])
	if !bytes.Equal(b[:4], []byte{0x42, 0x4b, 4, 1}) || binary.BigEndian.Uint32(b[4:]) != uint32(len(inner)) || crc32.ChecksumIEEE(b[:len(b)-4]) != sum {
		return nil, api.ErrForm
	}
	count, inner := binary.BigEndian.Uint32(inner), inner[4:]
	var list []api.Event
	for ; count > 0; count-- {
		if len(inner) < 28 || len(inner) < 28+8*int(inner[27]) {
			return nil, api.ErrForm
		}
		long := func(place int) int64 { return int64(binary.BigEndian.Uint64(inner[place:])) }
		e := api.Event{Tick: int(long(0)), Part: int(inner[8]), Kind: int(inner[9]), Proc: int(inner[10]), A: long(11), B: long(19)}
		for i := range int(inner[27]) {
			e.Data = append(e.Data, long(28+8*i))
		}
		if !goesOf(e) {
			return nil, api.ErrForm
		}
		list, inner = append(list, e), inner[28+8*len(e.Data):]
	}
	if len(inner) > 0 {
		return nil, api.ErrForm
	}
	return list, api.OK
}

func lineOf(e api.Event) (string, bool) {
	if !goesOf(e) {
		return "", false
	}
	line := fmt.Sprintf("%d %d %s %d %d %d", e.Tick, e.Part, kindNames[e.Kind], e.Proc, e.A, e.B)
	for _, n := range e.Data {
		line += fmt.Sprintf(" %d", n)
	}
	return line, true
}

var (
	lineForm = regexp.MustCompile(`^(0|[1-9][0-9]*) ([1-9][0-9]*) ([a-z]+) (0|[1-9][0-9]*)((?: (?:0|-?[1-9][0-9]*)){2,18})$`)
	numbers  = regexp.MustCompile(`[^ ]+`)
)

// between reads a number that the form lets stand, if it is within these ends.
func between(word string, least, most int64) (int64, bool) {
	n, ok := new(big.Int).SetString(word, 10)
	if !ok || n.Cmp(big.NewInt(least)) < 0 || n.Cmp(big.NewInt(most)) > 0 {
		return 0, false
	}
	return n.Int64(), true
}

// about are the numbers from four below this one to four above it, in decimal.
func about(centre string) []string {
	n, _ := new(big.Int).SetString(centre, 10)
	var list []string
	for d := int64(-4); d <= 4; d++ {
		list = append(list, new(big.Int).Add(n, big.NewInt(d)).String())
	}
	return list
}

func readOf(line string) (api.Event, api.Errno) {
	if len(line) > 512 {
		return api.Event{}, api.ErrLong
	}
	found := lineForm.FindStringSubmatch(line)
	if found == nil {
		return api.Event{}, api.ErrForm
	}
	tick, timed := between(found[1], 0, lastTick)
	part, owned := between(found[2], 1, 32)
	kind := slices.Index(kindNames, found[3])
	proc, placed := between(found[4], 0, 16)
	if !timed || !owned || kind < 1 || !placed {
		return api.Event{}, api.ErrForm
	}
	var list []int64
	for _, word := range numbers.FindAllString(found[5], -1) {
		n, ok := between(word, math.MinInt64, math.MaxInt64)
		if !ok {
			return api.Event{}, api.ErrForm
		}
		list = append(list, n)
	}
	return api.Event{Tick: int(tick), Part: int(part), Kind: kind, Proc: int(proc), A: list[0], B: list[1], Data: list[2:]}, api.OK
}

func projectOf(events []api.Event, part int) []api.Event {
	return slices.DeleteFunc(slices.Clone(events), func(e api.Event) bool { return e.Part != part })
}

func differOf(a, b []api.Event) int {
	for i := 0; ; i++ {
		switch {
		case i == len(a) && i == len(b):
			return -1
		case i == len(a) || i == len(b) || !sameEvent(a[i], b[i]):
			return i
		}
	}
}

func validOf(events []api.Event) bool {
	for i, e := range events {
		if !goesOf(e) || i > 0 && e.Tick < events[i-1].Tick {
			return false
		}
	}
	return true
}

// The program held against the second reading, one call each.

func encodes(t *testing.T, what string, events []api.Event) {
	t.Helper()
	want, wantErr := encodeOf(events)
	if b, err := trace.Encode(events); !bytes.Equal(b, want) || err != wantErr {
		t.Errorf("P23.2: %s: %d bytes, %d, want %d, %d", what, len(b), err, len(want), wantErr)
	}
}

func decodes(t *testing.T, what string, b []byte) {
	t.Helper()
	want, wantErr := decodeOf(b)
	if list, err := trace.Decode(b); !same(list, want) || err != wantErr {
		t.Errorf("P23.3: %s: %s, %d, want %s, %d", what, few(list), err, few(want), wantErr)
	}
}

func shows(t *testing.T, e api.Event) {
	t.Helper()
	want, wantOK := lineOf(e)
	if line, ok := trace.Show(e); line != want || ok != wantOK {
		t.Errorf("P23.4: %v: %q, %v, want %q, %v", e, line, ok, want, wantOK)
	}
}

func reads(t *testing.T, line string) {
	t.Helper()
	want, wantErr := readOf(line)
	if e, err := trace.Read(line); !sameEvent(e, want) || err != wantErr {
		t.Errorf("P23.5: %q: %v, %d, want %v, %d", line[:min(len(line), 600)], e, err, want, wantErr)
	}
}

func projects(t *testing.T, events []api.Event, part int) {
	t.Helper()
	if list, want := trace.Project(events, part), projectOf(events, part); !same(list, want) {
		t.Errorf("P23.6: %s to %d: %s, want %s", few(events), part, few(list), few(want))
	}
}

func differs(t *testing.T, a, b []api.Event) {
	t.Helper()
	if place, want := trace.Differ(a, b), differOf(a, b); place != want {
		t.Errorf("P23.7: %s and %s: %d, want %d", few(a), few(b), place, want)
	}
}

func valids(t *testing.T, events []api.Event) {
	t.Helper()
	if ok, want := trace.Valid(events), validOf(events); ok != want {
		t.Errorf("P23.8: %s: %v, want %v", few(events), ok, want)
	}
}

// Events by chance.

// pick is one of these.
func pick[T any](r *rand.Rand, list ...T) T { return list[r.IntN(len(list))] }

func anyWord(r *rand.Rand) int64 {
	return pick(r, 0, 1, -1, 9, 10, -10, math.MaxInt64, math.MinInt64, math.MaxInt64-1, math.MinInt64+1, int64(r.IntN(200)-100), int64(r.Uint64()))
}

func anyData(r *rand.Rand, n int) []int64 {
	var data []int64
	for range n {
		data = append(data, anyWord(r))
	}
	return data
}

// goingEvent is an event that goes.
func goingEvent(r *rand.Rand) api.Event {
	return api.Event{
		Tick: pick(r, 0, 1, lastTick-1, lastTick, r.IntN(10), r.IntN(lastTick+1)),
		Part: pick(r, 1, 2, 32, 1+r.IntN(32)),
		Kind: 1 + r.IntN(12),
		Proc: pick(r, 0, 1, 16, r.IntN(17)),
		A:    anyWord(r),
		B:    anyWord(r),
		Data: anyData(r, pick(r, 0, 0, 1, 16, r.IntN(17))),
	}
}

// anyEvent is one that may go or not.
func anyEvent(r *rand.Rand) api.Event {
	e := goingEvent(r)
	switch r.IntN(9) {
	case 0:
		e.Tick = pick(r, -1, lastTick+1, math.MinInt, math.MaxInt, int(r.Uint64()))
	case 1:
		e.Part = pick(r, 0, -1, 33, 256, 257, math.MinInt, math.MaxInt)
	case 2:
		e.Kind = pick(r, 0, -1, 13, 256, 257, math.MinInt, math.MaxInt)
	case 3:
		e.Proc = pick(r, -1, 17, 256, math.MinInt, math.MaxInt)
	case 4:
		e.Data = anyData(r, pick(r, 17, 18, 40, 256, 260))
	}
	return e
}

// smallEvent is one of few, so that equal ones are no rarity.
func smallEvent(r *rand.Rand) api.Event {
	return api.Event{Tick: r.IntN(2), Part: r.IntN(3), Kind: 1, A: int64(r.IntN(2)), Data: words(r.IntN(2))}
}

// listOf are up to so many events.
func listOf(r *rand.Rand, most int, next func(*rand.Rand) api.Event) []api.Event {
	var list []api.Event
	for range r.IntN(most + 1) {
		list = append(list, next(r))
	}
	return list
}

// risen is a list whose ticks do not fall, many of them equal.
func risen(r *rand.Rand, most int, next func(*rand.Rand) api.Event) []api.Event {
	list := listOf(r, most, next)
	tick := r.IntN(3)
	for i := range list {
		list[i].Tick = tick
		tick += r.IntN(3)
	}
	if len(list) > 0 && r.IntN(4) == 0 {
		list[len(list)-1].Tick = lastTick
	}
	return list
}

// edgeEvents are all events whose fields are at an edge of what goes, or beyond it, with each other; so many of them go.
func edgeEvents() (list []api.Event, going int) {
	ticks := []int{math.MinInt, -1, 0, 1, lastTick, lastTick + 1, math.MaxInt}
	parts := []int{math.MinInt, -1, 0, 1, 32, 33, 257, math.MaxInt}
	kinds := []int{math.MinInt, -1, 0, 1, 2, 11, 12, 13, 257, math.MaxInt}
	procs := []int{math.MinInt, -1, 0, 1, 16, 17, 256, math.MaxInt}
	many := []int{0, 1, 15, 16, 17, 256, 257}
	for _, tick := range ticks {
		for _, part := range parts {
			for _, kind := range kinds {
				for _, proc := range procs {
					for _, n := range many {
						list = append(list, api.Event{Tick: tick, Part: part, Kind: kind, Proc: proc, A: math.MinInt64, B: math.MaxInt64, Data: words(n)})
					}
				}
			}
		}
	}
	return list, 3 * 2 * 4 * 3 * 4
}
