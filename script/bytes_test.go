package script_test

import (
	"bytes"
	"encoding/binary"
	"hash/crc32"
	"math"
	"math/rand/v2"
	"slices"
	"testing"

	"bulkhead/api"
	"bulkhead/script"
)

// summed lays the check sum behind bytes.
func summed(b ...byte) []byte {
	sum := crc32.ChecksumIEEE(b)
	return append(b, byte(sum), byte(sum>>8), byte(sum>>16), byte(sum>>24))
}

// decodesTo wants bytes to be read as these inputs.
func decodesTo(t *testing.T, what string, b []byte, want []api.Input) {
	t.Helper()
	if list, err := script.Decode(b); !same(list, want) || err != api.OK {
		t.Errorf("P21.2: %s: %s, %d", what, few(list), err)
	}
}

// refused wants bytes not to be read.
func refused(t *testing.T, what string, b []byte, want api.Errno) {
	t.Helper()
	if list, err := script.Decode(b); len(list) != 0 || err != want {
		t.Errorf("P21.2: %s: %s, %d, want %d", what, few(list), err, want)
	}
	decodes(t, what, b)
}

// byHand are lists of inputs, with their bytes written out.
func byHand() []struct {
	inputs []api.Input
	told   []byte
} {
	return []struct {
		inputs []api.Input
		told   []byte
	}{
		{nil, summed(0x42, 0x4b, 3, 1, 0, 0, 0, 4, 0, 0, 0, 0)},
		{[]api.Input{message(7, 2, 5, -1), wake(0, 3)}, summed(0x42, 0x4b, 3, 1, 0, 0, 0, 76, 0, 0, 0, 2,
			0, 0, 0, 0, 0, 0, 0, 7, 0, 0, 0, 0, 0, 0, 0, 1, 0, 0, 0, 0, 0, 0, 0, 2, 0, 0, 0, 2,
			0, 0, 0, 0, 0, 0, 0, 5, 255, 255, 255, 255, 255, 255, 255, 255,
			0, 0, 0, 0, 0, 0, 0, 0, 0, 0, 0, 0, 0, 0, 0, 2, 0, 0, 0, 0, 0, 0, 0, 3, 0, 0, 0, 0)},
		// Inputs that no image takes and no line tells.
		{[]api.Input{{Tick: math.MinInt, Kind: -2, Target: math.MaxInt, Data: []int64{math.MinInt64}}}, summed(0x42, 0x4b, 3, 1, 0, 0, 0, 40, 0, 0, 0, 1,
			128, 0, 0, 0, 0, 0, 0, 0, 255, 255, 255, 255, 255, 255, 255, 254, 127, 255, 255, 255, 255, 255, 255, 255, 0, 0, 0, 1,
			128, 0, 0, 0, 0, 0, 0, 0)},
	}
}

func TestP21_1_EncodeAndP21_2_DecodeByHand(t *testing.T) {
	for i, c := range byHand() {
		if b, err := script.Encode(c.inputs); !bytes.Equal(b, c.told) || err != api.OK {
			t.Errorf("P21.1: case %d: %x, %d, want %x", i, b, err, c.told)
		}
		decodesTo(t, "by hand", c.told, c.inputs)
	}
}

// sorts are lists of inputs of all sorts, whose bytes are told.
func sorts() map[string][]api.Input {
	return map[string][]api.Input{
		"none":                 nil,
		"a message":            {message(7, 2, 5, -1)},
		"a wake":               {wake(0, 3)},
		"ticks that fall":      {wake(9, 3), wake(8, 3), message(0, 1, 1)},
		"ticks that may not":   {wake(-1, 1), wake(api.MaxTick, 1), wake(math.MinInt, 1), wake(math.MaxInt, 1)},
		"kinds that are none":  {{Kind: 0}, {Kind: 3}, {Kind: -1}, {Kind: math.MaxInt}, {Kind: math.MinInt}},
		"targets that are not": {message(1, 0, 1), message(1, 65, 1), wake(1, 33), wake(1, -1), wake(1, math.MinInt)},
		"both ends of int64":   {message(1, 1, math.MinInt64, math.MaxInt64, -1, 0)},
		"a message of nothing": {message(1, 1), wake(2, 1)},
		"a wake with data":     {{Tick: 1, Kind: api.InputWake, Target: 1, Data: words(3)}, wake(2, 1)},
		"17 words":             {message(1, 1, words(17)...)},
		"many words":           {message(1, 1, words(70000)...), message(2, 1, words(66000)...)},
		"empty inputs":         make([]api.Input, 300),
	}
}

func TestP21_1_AnyInputs(t *testing.T) {
	for what, list := range sorts() {
		encodes(t, what, list)
		if _, err := script.Encode(list); err != api.OK {
			t.Errorf("%s: %d", what, err)
		}
		decodesTo(t, what, bytesOf(list), list)
	}
	r := rand.New(rand.NewPCG(21, 1))
	for range 2000 {
		list := listOf(r, 9, anyInput)
		encodes(t, "by chance", list)
		decodesTo(t, "by chance", bytesOf(list), list)
	}
}

func TestP21_1_MostInputs(t *testing.T) {
	r := rand.New(rand.NewPCG(21, 2))
	full := make([]api.Input, 0, api.MaxInputs+1)
	for range api.MaxInputs {
		full = append(full, wake(anyTick(r), 1+r.IntN(32)))
	}
	for _, n := range []int{1, 255, 256, api.MaxInputs - 1, api.MaxInputs} {
		b, err := script.Encode(full[:n])
		if err != api.OK || len(b) != 16+28*n {
			t.Errorf("%d inputs: %d bytes, %d", n, len(b), err)
		}
		decodesTo(t, "up to MaxInputs", b, full[:n])
	}
	encodes(t, "MaxInputs", full)
	for _, more := range [][]api.Input{append(full, wake(1, 1)), make([]api.Input, 2*api.MaxInputs), make([]api.Input, 1<<20)} {
		if b, err := script.Encode(more); len(b) != 0 || err != api.ErrLong {
			t.Errorf("%d inputs: %d bytes, %d", len(more), len(b), err)
		}
	}
	refused(t, "MaxInputs and one", bytesOf(append(full, wake(1, 1))), api.ErrLong)
}

// ofBytes are so many inputs with so many words in all: four bytes, 28 an input, and eight a word.
func ofBytes(inputs, words int) []api.Input {
	list := make([]api.Input, inputs)
	for i := range list {
		many := words / inputs
		if i == 0 {
			many += words % inputs
		}
		list[i] = message(i, 1, make([]int64, many)...)
		for j := range many {
			list[i].Data[j] = int64(j - 7)
		}
	}
	return list
}

func TestP21_1_MostBytes(t *testing.T) {
	for _, c := range []struct {
		inputs, words, bytes int
		err                  api.Errno
	}{
		{1, 524283, 1<<22 - 8, api.OK},
		{1, 524284, 1 << 22, api.OK},
		{1, 524285, 1<<22 + 8, api.ErrLong},
		{2, 524280, 1<<22 - 4, api.OK},
		{2, 524281, 1<<22 + 4, api.ErrLong},
		{3, 524277, 1 << 22, api.OK},
		{3, 524278, 1<<22 + 8, api.ErrLong},
		{65533, 294922, 1 << 22, api.OK},
		{65533, 294923, 1<<22 + 8, api.ErrLong},
		{65536, 294911, 1<<22 - 4, api.OK},
		{65536, 294912, 1<<22 + 4, api.ErrLong},
	} {
		list := ofBytes(c.inputs, c.words)
		if n := len(bodyOf(list)); n != c.bytes {
			t.Fatalf("%d inputs with %d words have %d bytes, not %d", c.inputs, c.words, n, c.bytes)
		}
		b, err := script.Encode(list)
		if err != c.err || c.err == api.OK && !bytes.Equal(b, bytesOf(list)) || c.err != api.OK && len(b) != 0 {
			t.Errorf("%d inputs with %d words: %d bytes, %d, want %d", c.inputs, c.words, len(b), err, c.err)
		}
		if c.err == api.OK {
			decodesTo(t, "up to 2^22 bytes", bytesOf(list), list)
		} else {
			refused(t, "more than 2^22 bytes", bytesOf(list), api.ErrLong)
		}
	}
}

// Great data, first and last, and one piece of data in each of the inputs: refused without telling the bytes, which would be far more than there is memory for.
func TestP21_1_FarTooLong(t *testing.T) {
	data := make([]int64, 1<<24)
	list := slices.Repeat([]api.Input{{Data: data[:524284]}}, api.MaxInputs)
	for what, list := range map[string][]api.Input{
		"one":           {{Data: data}},
		"the last":      {wake(1, 1), {Data: data}},
		"the first":     {{Data: data}, wake(1, 1)},
		"all":           list,
		"all, one more": append(list[:len(list):len(list)], wake(1, 1)),
		"all, of few":   slices.Repeat([]api.Input{{Data: data[:9]}}, api.MaxInputs),
	} {
		if b, err := script.Encode(list); len(b) != 0 || err != api.ErrLong {
			t.Errorf("%s: %d bytes, %d", what, len(b), err)
		}
	}
}

func TestP21_2_Lengths(t *testing.T) {
	refused(t, "nil", nil, api.ErrForm)
	refused(t, "empty", []byte{}, api.ErrForm)
	for _, n := range []int{1, 8, 11, 12, 15, 16, 1<<22 + 11, 1<<22 + 12} {
		refused(t, "nothing but 0", make([]byte, n), api.ErrForm)
	}
	for _, n := range []int{1<<22 + 13, 1<<22 + 14, 1 << 23} {
		refused(t, "nothing but 0", make([]byte, n), api.ErrLong)
	}
	// 2^22 + 12 bytes, well sealed: of inputs, and of none.
	list := ofBytes(1, 524284)
	b := bytesOf(list)
	if len(b) != 1<<22+12 {
		t.Fatalf("%d bytes", len(b))
	}
	decodesTo(t, "2^22 + 12 bytes", b, list)
	refused(t, "one less", b[:len(b)-1], api.ErrForm)
	refused(t, "one more", append(slices.Clone(b), 0), api.ErrLong)
	refused(t, "one more, sealed", sealed(3, append(bodyOf(list), 0)), api.ErrLong)
	refused(t, "a byte that is no input's", sealed(3, append(bodyOf(ofBytes(2, 524280)), 0, 0, 0, 0)), api.ErrForm)
	// Bytes that are no seal's at all are too long all the same.
	refused(t, "of another kind, too long", sealed(1, append(bodyOf(list), 0)), api.ErrLong)
}

func TestP21_2_Spoilt(t *testing.T) {
	for what, list := range sorts() {
		if len(bodyOf(list)) > 2000 {
			continue
		}
		b, inner := bytesOf(list), bodyOf(list)
		for place := range b {
			for bit := range 8 {
				c := slices.Clone(b)
				c[place] ^= 1 << bit
				refused(t, what+", a bit turned", c, api.ErrForm)
			}
		}
		for length := range b {
			refused(t, what+", cut", b[:length], api.ErrForm)
			refused(t, what+", cut ahead", b[len(b)-length:], api.ErrForm)
		}
		for _, more := range [][]byte{{0}, {1}, b[:1], b} {
			refused(t, what+", longer", slices.Concat(b, more), api.ErrForm)
			refused(t, what+", longer ahead", slices.Concat(more, b), api.ErrForm)
		}
		for kind := range 256 {
			if kind != 3 {
				refused(t, what+", of another kind", sealed(byte(kind), inner), api.ErrForm)
			}
		}
		decodesTo(t, what, b, list)
	}
}

// Bytes that are well sealed, but no inputs'.
func TestP21_2_WhatIsSealedIsNoInputs(t *testing.T) {
	for what, list := range sorts() {
		inner := bodyOf(list)
		if len(inner) > 2000 {
			continue
		}
		for length := range inner {
			refused(t, what+", cut", sealed(3, inner[:length]), api.ErrForm)
		}
		for more := 1; more < 40; more++ {
			refused(t, what+", longer", sealed(3, slices.Concat(inner, make([]byte, more))), api.ErrForm)
		}
		refused(t, what+", a seal in the seal", sealed(3, sealed(3, inner)), api.ErrLong)
	}
}

// counted is the body of inputs with another number ahead.
func counted(n uint32, list ...api.Input) []byte {
	b := bodyOf(list)
	binary.BigEndian.PutUint32(b, n)
	return b
}

func TestP21_2_NumbersOfInputs(t *testing.T) {
	x, y := message(7, 2, 5), wake(1, 1)
	for _, list := range [][]api.Input{nil, {x}, {x, y}, {y, y, y}} {
		// Too great a number is told so whatever stands behind it.
		for _, n := range []uint32{api.MaxInputs + 1, api.MaxInputs + 2, 1 << 20, 1 << 22, 1<<22 + 1, 1 << 31, 1<<32 - 1} {
			refused(t, "a number that is too great", sealed(3, counted(n, list...)), api.ErrLong)
			refused(t, "and bytes behind", sealed(3, append(counted(n, list...), 1, 2, 3)), api.ErrLong)
			// But not where the seal is wrong.
			refused(t, "of another kind", sealed(2, counted(n, list...)), api.ErrForm)
			b := sealed(3, counted(n, list...))
			b[len(b)-1] ^= 1
			refused(t, "with a wrong sum", b, api.ErrForm)
		}
		for _, n := range []uint32{4, 5, 100, api.MaxInputs - 1, api.MaxInputs} {
			refused(t, "a number above what is there", sealed(3, counted(n, list...)), api.ErrForm)
		}
	}
	decodesTo(t, "two", sealed(3, counted(2, x, y)), []api.Input{x, y})
	refused(t, "one less", sealed(3, counted(1, x, y)), api.ErrForm)
	refused(t, "one more", sealed(3, counted(3, x, y)), api.ErrForm)
	refused(t, "none", sealed(3, counted(0, x, y)), api.ErrForm)
	refused(t, "bytes for all, and no inputs", sealed(3, append(counted(api.MaxInputs), make([]byte, api.MaxInputs)...)), api.ErrForm)
}

// A number of words is never too great by itself: what is not there makes no inputs' bytes.
func TestP21_2_NumbersOfWords(t *testing.T) {
	x, y := message(7, 2, 5, 6), wake(1, 1)
	first, last := 28, 4+28+16+24
	for _, n := range []uint32{1, 3, 17, 1000, api.MaxInputs, api.MaxInputs + 1, 1 << 20, 524288, 1 << 22, 1<<22 + 1, 1 << 29, 1 << 30, 1 << 31, 1<<32 - 1} {
		for what, place := range map[string]int{"first": first, "last": last} {
			inner := bodyOf([]api.Input{x, y})
			binary.BigEndian.PutUint32(inner[place:], n)
			refused(t, "words of the "+what, sealed(3, inner), api.ErrForm)
			refused(t, "words of the "+what+", and bytes", sealed(3, append(inner, make([]byte, 2000)...)), api.ErrForm)
		}
	}
	// Just what is there.
	inner := bodyOf([]api.Input{y})
	binary.BigEndian.PutUint32(inner[28:], 3)
	decodesTo(t, "three words", sealed(3, append(inner, make([]byte, 24)...)), []api.Input{{Tick: 1, Kind: 2, Target: 1, Data: make([]int64, 3)}})
	for _, n := range []int{0, 3, 8, 16, 23, 25, 31, 32} {
		refused(t, "three words", sealed(3, append(inner, make([]byte, n)...)), api.ErrForm)
	}
}

func TestP21_2_WhateverBytes(t *testing.T) {
	r := rand.New(rand.NewPCG(21, 3))
	read := 0
	for range 20000 {
		inner := bodyOf(listOf(r, 4, anyInput))
		for range r.IntN(3) {
			switch place := r.IntN(len(inner)); r.IntN(5) {
			case 0, 1:
				inner[place] = byte(r.IntN(5))
			case 2:
				inner[place] = byte(r.IntN(256))
			case 3:
				inner = append(inner, make([]byte, pick(r, 1, 8, 28))...)
			case 4:
				inner = inner[:max(1, place)]
			}
		}
		b := sealed(3, inner)
		if r.IntN(10) == 0 {
			b[r.IntN(len(b))] = byte(r.IntN(256))
		}
		decodes(t, "by chance", b)
		list, err := script.Decode(b)
		if err != api.OK {
			continue
		}
		read++
		if again, err := script.Encode(list); !bytes.Equal(again, b) || err != api.OK {
			t.Fatalf("P21.7: %x is told again as %x, %d", b, again, err)
		}
	}
	if read < 4000 {
		t.Errorf("%d were read", read)
	}
	for range 20000 {
		b := make([]byte, r.IntN(60))
		for i := range b {
			b[i] = pick(r, 0x42, 0x4b, 3, 1, 0, 0, byte(r.IntN(256)))
		}
		refused(t, "any bytes", b, api.ErrForm)
	}
}
