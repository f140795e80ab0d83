package script_test

import (
	"bytes"
	"encoding/binary"
	"fmt"
	"hash/crc32"
	"math"
	"math/big"
	"math/rand/v2"
	"regexp"
	"slices"
	"strings"
	"testing"

	"bulkhead/api"
	"bulkhead/script"
)

// A second reading of the chapter, by other means than the program's: bytes by the library, lines by a regular expression and numbers of any size. Its bounds are written out.
const (
	mostInputs = 65536
	mostBody   = 4194304
	mostBytes  = 4194316
	lastTick   = 1099511627775
)

func message(tick, target int, data ...int64) api.Input {
	return api.Input{Tick: tick, Kind: api.InputMessage, Target: target, Data: data}
}

func wake(tick, target int) api.Input {
	return api.Input{Tick: tick, Kind: api.InputWake, Target: target}
}

// words are so many words of data, 1, 2, 3, ..
func words(n int) []int64 {
	list := make([]int64, n)
	for i := range list {
		list[i] = int64(i + 1)
	}
	return list
}

func sameInput(x, y api.Input) bool {
	return x.Tick == y.Tick && x.Kind == y.Kind && x.Target == y.Target && slices.Equal(x.Data, y.Data)
}

func same(a, b []api.Input) bool { return slices.EqualFunc(a, b, sameInput) }

// few tells a list for a message about it, if it is short.
func few[T any](list []T) string {
	if len(list) > 20 {
		return fmt.Sprint(len(list), " of them, from ", list[0], " on")
	}
	return fmt.Sprint(list)
}

// bodyOf is the list of inputs in bytes, without a seal.
func bodyOf(inputs []api.Input) []byte {
	b := binary.BigEndian.AppendUint32(nil, uint32(len(inputs)))
	for _, x := range inputs {
		for _, n := range []int{x.Tick, x.Kind, x.Target} {
			b = binary.BigEndian.AppendUint64(b, uint64(n))
		}
		b = binary.BigEndian.AppendUint32(b, uint32(len(x.Data)))
		for _, n := range x.Data {
			b = binary.BigEndian.AppendUint64(b, uint64(n))
		}
	}
	return b
}

// sealed lays a seal around bytes.
func sealed(kind byte, inner []byte) []byte {
	b := append([]byte{0x42, 0x4b, kind, 1}, binary.BigEndian.AppendUint32(nil, uint32(len(inner)))...)
	b = append(b, inner...)
	return binary.LittleEndian.AppendUint32(b, crc32.ChecksumIEEE(b))
}

func bytesOf(inputs []api.Input) []byte { return sealed(3, bodyOf(inputs)) }

func encodeOf(inputs []api.Input) ([]byte, api.Errno) {
	size := 4
	for _, x := range inputs {
		size += 28 + 8*len(x.Data)
	}
	if len(inputs) > mostInputs || size > mostBody {
		return nil, api.ErrLong
	}
	return bytesOf(inputs), api.OK
}

func decodeOf(b []byte) ([]api.Input, api.Errno) {
	if len(b) > mostBytes {
		return nil, api.ErrLong
	}
	if len(b) < 12 {
		return nil, api.ErrForm
	}
	inner, sum := b[8:len(b)-4], binary.LittleEndian.Uint32(b[len(b)-4:])
	if !bytes.Equal(b[:4], []byte{0x42, 0x4b, 3, 1}) || binary.BigEndian.Uint32(b[4:]) != uint32(len(inner)) || crc32.ChecksumIEEE(b[:len(b)-4]) != sum || len(inner) < 4 {
		return nil, api.ErrForm
	}
	count, inner := binary.BigEndian.Uint32(inner), inner[4:]
	if count > mostInputs {
		return nil, api.ErrLong
	}
	var list []api.Input
	for range count {
		if len(inner) < 28 {
			return nil, api.ErrForm
		}
		head := func(place int) int { return int(binary.BigEndian.Uint64(inner[8*place:])) }
		x := api.Input{Tick: head(0), Kind: head(1), Target: head(2)}
		many := int(binary.BigEndian.Uint32(inner[24:]))
		inner = inner[28:]
		if len(inner) < 8*many {
			return nil, api.ErrForm
		}
		for range many {
			x.Data = append(x.Data, int64(binary.BigEndian.Uint64(inner)))
			inner = inner[8:]
		}
		list = append(list, x)
	}
	if len(inner) > 0 {
		return nil, api.ErrForm
	}
	return list, api.OK
}

func lineOf(x api.Input) (string, bool) {
	ticks := x.Tick >= 0 && x.Tick <= lastTick
	switch {
	case ticks && x.Kind == 1 && x.Target >= 1 && x.Target <= 64 && len(x.Data) >= 1 && len(x.Data) <= 16:
		return fmt.Sprintf("%d message %d %s", x.Tick, x.Target, strings.Trim(fmt.Sprint(x.Data), "[]")), true
	case ticks && x.Kind == 2 && x.Target >= 1 && x.Target <= 32 && len(x.Data) == 0:
		return fmt.Sprintf("%d wake %d", x.Tick, x.Target), true
	}
	return "", false
}

var lineForm = regexp.MustCompile(`^(0|[1-9][0-9]*) (message|wake) ([1-9][0-9]*)((?: (?:0|-?[1-9][0-9]*))*)$`)

// between reads a number that the form lets stand, if it is within these ends.
func between(word string, least, most int64) (int64, bool) {
	n, ok := new(big.Int).SetString(word, 10)
	if !ok || n.Cmp(big.NewInt(least)) < 0 || n.Cmp(big.NewInt(most)) > 0 {
		return 0, false
	}
	return n.Int64(), true
}

// about are the numbers from four below this one to four above it, in decimal.
func about(centre string) []string {
	n, _ := new(big.Int).SetString(centre, 10)
	var list []string
	for d := int64(-4); d <= 4; d++ {
		list = append(list, new(big.Int).Add(n, big.NewInt(d)).String())
	}
	return list
}

func inputOf(line string) (api.Input, bool) {
	found := lineForm.FindStringSubmatch(line)
	if found == nil {
		return api.Input{}, false
	}
	x := api.Input{Kind: map[string]int{"message": 1, "wake": 2}[found[2]]}
	tick, timed := between(found[1], 0, lastTick)
	target, aimed := between(found[3], 1, map[string]int64{"message": 64, "wake": 32}[found[2]])
	x.Tick, x.Target = int(tick), int(target)
	data := strings.Fields(found[4])
	for _, word := range data {
		n, ok := between(word, math.MinInt64, math.MaxInt64)
		if !ok {
			return api.Input{}, false
		}
		x.Data = append(x.Data, n)
	}
	if !timed || !aimed || x.Kind == 1 && (len(data) < 1 || len(data) > 16) || x.Kind == 2 && len(data) > 0 {
		return api.Input{}, false
	}
	return x, true
}

func readOf(text string) ([]api.Input, api.Errno, int) {
	var list []api.Input
	for i, line := range strings.Split(text, "\n") {
		if line == "" || line[0] == '#' {
			continue
		}
		x, ok := inputOf(line)
		switch {
		case len(list) >= mostInputs:
			return nil, api.ErrLong, i + 1
		case !ok:
			return nil, api.ErrForm, i + 1
		}
		list = append(list, x)
	}
	return list, api.OK, 0
}

func mergeOf(a, b []api.Input) []api.Input {
	switch {
	case len(a) == 0:
		return b
	case len(b) == 0:
		return a
	case b[0].Tick < a[0].Tick:
		return append([]api.Input{b[0]}, mergeOf(a, b[1:])...)
	}
	return append([]api.Input{a[0]}, mergeOf(a[1:], b)...)
}

func cutOf(inputs []api.Input, from, below int) []api.Input {
	return slices.DeleteFunc(slices.Clone(inputs), func(x api.Input) bool { return x.Tick < from || x.Tick >= below })
}

// The program held against the second reading, one call each.

func encodes(t *testing.T, what string, inputs []api.Input) {
	t.Helper()
	want, wantErr := encodeOf(inputs)
	if b, err := script.Encode(inputs); !bytes.Equal(b, want) || err != wantErr {
		t.Errorf("P21.1: %s: %d bytes, %d, want %d, %d", what, len(b), err, len(want), wantErr)
	}
}

func decodes(t *testing.T, what string, b []byte) {
	t.Helper()
	want, wantErr := decodeOf(b)
	if list, err := script.Decode(b); !same(list, want) || err != wantErr {
		t.Errorf("P21.2: %s: %s, %d, want %s, %d", what, few(list), err, few(want), wantErr)
	}
}

func shows(t *testing.T, x api.Input) {
	t.Helper()
	want, wantOK := lineOf(x)
	if line, ok := script.Show(x); line != want || ok != wantOK {
		t.Errorf("P21.3: %v: %q, %v, want %q, %v", x, line, ok, want, wantOK)
	}
}

func reads(t *testing.T, text string) {
	t.Helper()
	want, wantErr, wantNumber := readOf(text)
	if list, err, number := script.Read([]byte(text)); !same(list, want) || err != wantErr || number != wantNumber {
		t.Errorf("P21.4: %q: %s, %d, %d, want %s, %d, %d", text[:min(len(text), 300)], few(list), err, number, few(want), wantErr, wantNumber)
	}
}

func merges(t *testing.T, a, b []api.Input) {
	t.Helper()
	if list, want := script.Merge(a, b), mergeOf(a, b); !same(list, want) {
		t.Errorf("P21.5: %v and %v: %v, want %v", a, b, list, want)
	}
}

func cuts(t *testing.T, inputs []api.Input, from, below int) {
	t.Helper()
	if list, want := script.Cut(inputs, from, below), cutOf(inputs, from, below); !same(list, want) {
		t.Errorf("P21.6: %v from %d below %d: %v, want %v", inputs, from, below, list, want)
	}
}

// Inputs by chance.

// pick is one of these.
func pick[T any](r *rand.Rand, list ...T) T { return list[r.IntN(len(list))] }

func anyWord(r *rand.Rand) int64 {
	return pick(r, 0, 1, -1, 9, 10, -10, math.MaxInt64, math.MinInt64, math.MaxInt64-1, math.MinInt64+1, int64(r.IntN(200)-100), int64(r.Uint64()))
}

func anyData(r *rand.Rand, n int) []int64 {
	var data []int64
	for range n {
		data = append(data, anyWord(r))
	}
	return data
}

func anyTick(r *rand.Rand) int {
	return pick(r, 0, 1, lastTick-1, lastTick, r.IntN(10), r.IntN(lastTick+1))
}

// linedInput is an input that has a line.
func linedInput(r *rand.Rand) api.Input {
	if r.IntN(3) == 0 {
		return wake(anyTick(r), pick(r, 1, 32, 1+r.IntN(32)))
	}
	return message(anyTick(r), pick(r, 1, 64, 1+r.IntN(64)), anyData(r, pick(r, 1, 16, 1+r.IntN(16)))...)
}

// anyInput is one that may have a line or not.
func anyInput(r *rand.Rand) api.Input {
	x := linedInput(r)
	switch r.IntN(8) {
	case 0:
		x.Tick = pick(r, -1, lastTick+1, math.MinInt, math.MaxInt, int(r.Uint64()))
	case 1:
		x.Kind = pick(r, 0, 1, 2, 3, -1, math.MinInt, math.MaxInt)
	case 2:
		x.Target = pick(r, 0, -1, 32, 33, 64, 65, math.MinInt, math.MaxInt)
	case 3:
		x.Data = anyData(r, pick(r, 0, 1, 16, 17, 40))
	case 4:
		x = api.Input{Tick: int(anyWord(r)), Kind: int(anyWord(r)), Target: int(anyWord(r)), Data: anyData(r, r.IntN(20))}
	}
	return x
}

// listOf are up to so many inputs.
func listOf(r *rand.Rand, most int, next func(*rand.Rand) api.Input) []api.Input {
	var list []api.Input
	for range r.IntN(most + 1) {
		list = append(list, next(r))
	}
	return list
}

// risen is a list whose ticks do not fall, many of them equal.
func risen(r *rand.Rand, most int, next func(*rand.Rand) api.Input) []api.Input {
	list := listOf(r, most, next)
	tick := r.IntN(3)
	for i := range list {
		list[i].Tick = tick
		tick += r.IntN(3)
	}
	if len(list) > 0 && r.IntN(4) == 0 {
		list[len(list)-1].Tick = lastTick
	}
	return list
}
