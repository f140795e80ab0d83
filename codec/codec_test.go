package codec_test

import (
	"bytes"
	"encoding/binary"
	"hash/crc32"
	"math"
	"slices"
	"testing"

	"bulkhead/api"
	"bulkhead/codec"
)

const mostSealed = 1 << 22

// written is what a Writer answers behind these calls.
func written(do func(w *codec.Writer)) ([]byte, int, api.Errno) {
	w := codec.NewWriter()
	do(w)
	b, fault := w.Done()
	return b, w.Len(), fault
}

// numbers are bytes without an order to lean on, the same in every run.
func numbers(n int) []byte {
	b := make([]byte, n)
	x := uint32(1)
	for i := range b {
		x = x*1664525 + 1013904223
		b[i] = byte(x >> 24)
	}
	return b
}

func TestP2_1Writing(t *testing.T) {
	for _, c := range []struct {
		name string
		do   func(w *codec.Writer)
		want []byte
	}{
		{"nothing", func(w *codec.Writer) {}, nil},
		{"U8 0", func(w *codec.Writer) { w.U8(0) }, []byte{0}},
		{"U8 1", func(w *codec.Writer) { w.U8(1) }, []byte{1}},
		{"U8 254", func(w *codec.Writer) { w.U8(254) }, []byte{254}},
		{"U8 255", func(w *codec.Writer) { w.U8(255) }, []byte{255}},
		{"U16 0", func(w *codec.Writer) { w.U16(0) }, []byte{0, 0}},
		{"U16 255", func(w *codec.Writer) { w.U16(255) }, []byte{0, 255}},
		{"U16 256", func(w *codec.Writer) { w.U16(256) }, []byte{1, 0}},
		{"U16 65534", func(w *codec.Writer) { w.U16(65534) }, []byte{255, 254}},
		{"U16 65535", func(w *codec.Writer) { w.U16(65535) }, []byte{255, 255}},
		{"U32 0", func(w *codec.Writer) { w.U32(0) }, []byte{0, 0, 0, 0}},
		{"U32 65536", func(w *codec.Writer) { w.U32(65536) }, []byte{0, 1, 0, 0}},
		{"U32 01020304", func(w *codec.Writer) { w.U32(0x01020304) }, []byte{1, 2, 3, 4}},
		{"U32 2^32 - 2", func(w *codec.Writer) { w.U32(1<<32 - 2) }, []byte{255, 255, 255, 254}},
		{"U32 2^32 - 1", func(w *codec.Writer) { w.U32(1<<32 - 1) }, []byte{255, 255, 255, 255}},
		{"I64 0", func(w *codec.Writer) { w.I64(0) }, []byte{0, 0, 0, 0, 0, 0, 0, 0}},
		{"I64 -1", func(w *codec.Writer) { w.I64(-1) }, []byte{255, 255, 255, 255, 255, 255, 255, 255}},
		{"I64 0102030405060708", func(w *codec.Writer) { w.I64(0x0102030405060708) }, []byte{1, 2, 3, 4, 5, 6, 7, 8}},
		{"I64 least", func(w *codec.Writer) { w.I64(math.MinInt64) }, []byte{128, 0, 0, 0, 0, 0, 0, 0}},
		{"I64 least + 1", func(w *codec.Writer) { w.I64(math.MinInt64 + 1) }, []byte{128, 0, 0, 0, 0, 0, 0, 1}},
		{"I64 greatest", func(w *codec.Writer) { w.I64(math.MaxInt64) }, []byte{127, 255, 255, 255, 255, 255, 255, 255}},
		{"Bool false", func(w *codec.Writer) { w.Bool(false) }, []byte{0}},
		{"Bool true", func(w *codec.Writer) { w.Bool(true) }, []byte{1}},
		{"Bytes nil", func(w *codec.Writer) { w.Bytes(nil) }, nil},
		{"Bytes none", func(w *codec.Writer) { w.Bytes([]byte{}) }, nil},
		{"Bytes some", func(w *codec.Writer) { w.Bytes([]byte{9, 0, 200}) }, []byte{9, 0, 200}},
		{"the chapter's example", func(w *codec.Writer) {
			w.U8(255)
			w.U16(258)
			w.U32(1)
			w.I64(-2)
			w.Bool(true)
		}, []byte{0xff, 1, 2, 0, 0, 0, 1, 0xff, 0xff, 0xff, 0xff, 0xff, 0xff, 0xff, 0xfe, 1}},
	} {
		b, length, fault := written(c.do)
		if !bytes.Equal(b, c.want) || length != len(c.want) || fault != api.OK {
			t.Errorf("%s: % x, %d, %d, want % x", c.name, b, length, fault, c.want)
		}
	}
}

// wrongWrites are the calls that P2.1 refuses.
func wrongWrites() map[string]func(w *codec.Writer) {
	list := map[string]func(w *codec.Writer){}
	for name, x := range map[string]int{"least": math.MinInt, "-2^32": -1 << 32, "-256": -256, "-1": -1, "2^32": 1 << 32, "greatest": math.MaxInt} {
		list["U8 "+name] = func(w *codec.Writer) { w.U8(x) }
		list["U16 "+name] = func(w *codec.Writer) { w.U16(x) }
		list["U32 "+name] = func(w *codec.Writer) { w.U32(x) }
	}
	list["U8 256"] = func(w *codec.Writer) { w.U8(256) }
	list["U8 512"] = func(w *codec.Writer) { w.U8(512) }
	list["U16 65536"] = func(w *codec.Writer) { w.U16(65536) }
	list["U32 2^32 + 1"] = func(w *codec.Writer) { w.U32(1<<32 + 1) }
	return list
}

func TestP2_1RefusedNumbers(t *testing.T) {
	for name, wrong := range wrongWrites() {
		for _, ahead := range [][]byte{nil, {3, 4}} {
			b, length, fault := written(func(w *codec.Writer) {
				w.Bytes(ahead)
				wrong(w)
			})
			if len(b) != 0 || length != len(ahead) || fault != api.ErrArg {
				t.Errorf("%s behind %v: %v, %d, %d", name, ahead, b, length, fault)
			}
		}
	}
}

func TestP2_1NothingBehindAFault(t *testing.T) {
	for name, call := range map[string]func(w *codec.Writer){
		"U8":              func(w *codec.Writer) { w.U8(1) },
		"U16":             func(w *codec.Writer) { w.U16(1) },
		"U32":             func(w *codec.Writer) { w.U32(1) },
		"I64":             func(w *codec.Writer) { w.I64(1) },
		"Bool":            func(w *codec.Writer) { w.Bool(true) },
		"Bytes":           func(w *codec.Writer) { w.Bytes([]byte{1}) },
		"PutList":         func(w *codec.Writer) { codec.PutList(w, []int{1}, 1, (*codec.Writer).U8) },
		"PutList of none": func(w *codec.Writer) { codec.PutList(w, nil, 1, (*codec.Writer).U8) },
		"PutList refused": func(w *codec.Writer) { codec.PutList(w, []int{1}, 0, (*codec.Writer).U8) },
		"U8 refused":      func(w *codec.Writer) { w.U8(-1) },
		"Done":            func(w *codec.Writer) { w.Done() },
	} {
		for _, c := range []struct {
			fault api.Errno
			wrong func(w *codec.Writer)
		}{
			{api.ErrArg, func(w *codec.Writer) { w.U16(-1) }},
			{api.ErrLong, func(w *codec.Writer) { codec.PutList(w, nil, -1, (*codec.Writer).U8) }},
		} {
			b, length, fault := written(func(w *codec.Writer) {
				w.U8(7)
				c.wrong(w)
				call(w)
			})
			if len(b) != 0 || length != 1 || fault != c.fault {
				t.Errorf("%s behind fault %d: %v, %d, %d", name, c.fault, b, length, fault)
			}
		}
	}
}

func TestP2_1ArgumentsAreNotKept(t *testing.T) {
	whole := []byte{1, 2, 3, 4}
	w := codec.NewWriter()
	w.Bytes(whole[:2])
	w.U8(9)
	if !slices.Equal(whole, []byte{1, 2, 3, 4}) {
		t.Errorf("the spare room of an argument was written: %v", whole)
	}
	whole[0] = 77
	if b, _ := w.Done(); !bytes.Equal(b, []byte{1, 2, 9}) {
		t.Errorf("a changed argument is seen in the Writer: %v", b)
	}
}

func TestP2_2GoingOnBehindDone(t *testing.T) {
	w := codec.NewWriter()
	if b, fault := w.Done(); len(b) != 0 || fault != api.OK || w.Len() != 0 {
		t.Errorf("a new Writer: %v, %d, %d", b, fault, w.Len())
	}
	var want []byte
	for i := range 300 {
		w.U8(i % 256)
		want = append(want, byte(i))
		if w.Len() != i+1 {
			t.Fatalf("Len = %d behind %d bytes", w.Len(), i+1)
		}
		if b, fault := w.Done(); !bytes.Equal(b, want) || fault != api.OK {
			t.Fatalf("Done = %v, %d behind %d bytes", b, fault, i+1)
		}
	}
	w.U8(256)
	for range 2 {
		if b, fault := w.Done(); len(b) != 0 || fault != api.ErrArg || w.Len() != 300 {
			t.Errorf("with a fault: %v, %d, %d", b, fault, w.Len())
		}
	}
}

func TestP2_2AnswersAreNewMemory(t *testing.T) {
	w := codec.NewWriter()
	w.Bytes([]byte{1, 2, 3})
	first, _ := w.Done()
	second, _ := w.Done()
	first[0] = 50
	_ = append(first, 51)
	w.U8(4)
	spare := second[:cap(second)]
	for i := range spare[3:] {
		spare[3+i] = 52
	}
	third, _ := w.Done()
	if !bytes.Equal(second, []byte{1, 2, 3}) || !bytes.Equal(third, []byte{1, 2, 3, 4}) {
		t.Errorf("answers share memory: %v, %v", second, third)
	}
}

func TestP2_3ReadingNumbers(t *testing.T) {
	b := []byte{255, 1, 2, 255, 255, 255, 255, 128, 0, 0, 0, 0, 0, 0, 0, 127, 255, 255, 255, 255, 255, 255, 255, 0, 1, 7, 8, 9}
	r := codec.NewReader(b)
	left := len(b)
	for _, c := range []struct {
		name  string
		got   int64
		want  int64
		width int
	}{
		{"U8", int64(r.U8()), 255, 1},
		{"U16", int64(r.U16()), 258, 2},
		{"U32", int64(r.U32()), 1<<32 - 1, 4},
		{"I64", r.I64(), math.MinInt64, 8},
		{"I64", r.I64(), math.MaxInt64, 8},
	} {
		left -= c.width
		if c.got != c.want {
			t.Errorf("%s = %d, want %d", c.name, c.got, c.want)
		}
	}
	if r.Left() != left {
		t.Errorf("Left = %d, want %d", r.Left(), left)
	}
	if r.Bool() || !r.Bool() {
		t.Errorf("Bool of 0 and of 1")
	}
	if got := r.Bytes(0); len(got) != 0 || r.Left() != 3 {
		t.Errorf("Bytes(0) = %v, %d left", got, r.Left())
	}
	if got := r.Bytes(3); !bytes.Equal(got, []byte{7, 8, 9}) || r.Left() != 0 || r.Done() != api.OK {
		t.Errorf("Bytes(3) = %v, %d left, %d", got, r.Left(), r.Done())
	}
	if got := r.Bytes(0); len(got) != 0 || r.Done() != api.OK {
		t.Errorf("Bytes(0) at the end = %v, %d", got, r.Done())
	}
}

func TestP2_3EveryNumberOfTwoBytes(t *testing.T) {
	for x := range 1 << 16 {
		b := []byte{byte(x >> 8), byte(x)}
		if got := codec.NewReader(b).U16(); got != x {
			t.Fatalf("U16 of % x = %d", b, got)
		}
		if got := codec.NewReader(append(b, b...)).U32(); got != x<<16|x {
			t.Fatalf("U32 of % x twice = %d", b, got)
		}
		word := []byte{byte(x >> 8), 1, 2, 3, 4, 5, 6, byte(x)}
		if got := codec.NewReader(word).I64(); got != int64(binary.BigEndian.Uint64(word)) {
			t.Fatalf("I64 of % x = %d", word, got)
		}
	}
}

// reads are a Reader's calls, each telling whether its answer is the zero value.
func reads() map[string]func(r *codec.Reader) bool {
	return map[string]func(r *codec.Reader) bool{
		"U8":      func(r *codec.Reader) bool { return r.U8() == 0 },
		"U16":     func(r *codec.Reader) bool { return r.U16() == 0 },
		"U32":     func(r *codec.Reader) bool { return r.U32() == 0 },
		"I64":     func(r *codec.Reader) bool { return r.I64() == 0 },
		"Bool":    func(r *codec.Reader) bool { return !r.Bool() },
		"Bytes":   func(r *codec.Reader) bool { return len(r.Bytes(1)) == 0 },
		"no one":  func(r *codec.Reader) bool { return len(r.Bytes(0)) == 0 },
		"GetList": func(r *codec.Reader) bool { return len(codec.GetList(r, 9, (*codec.Reader).U8)) == 0 },
	}
}

func TestP2_3TooFewBytes(t *testing.T) {
	for _, c := range []struct {
		name string
		most int
	}{{"U8", 0}, {"U16", 1}, {"U32", 3}, {"I64", 7}, {"Bool", 0}, {"Bytes", 0}, {"GetList", 3}} {
		for n := range c.most + 1 {
			r := codec.NewReader(bytes.Repeat([]byte{1}, n))
			if !reads()[c.name](r) || r.Left() != n || r.Done() != api.ErrForm {
				t.Errorf("%s of %d bytes: %d left, %d", c.name, n, r.Left(), r.Done())
			}
			r.Bytes(0)
			if r.U8() != 0 || r.Left() != n {
				t.Errorf("%s of %d bytes: the fault did not stick", c.name, n)
			}
		}
	}
}

func TestP2_3Flags(t *testing.T) {
	for x := range 256 {
		r := codec.NewReader([]byte{byte(x), 1})
		got := r.Bool()
		if x <= 1 && (got != (x == 1) || r.Left() != 1 || !r.Bool() || r.Done() != api.OK) {
			t.Errorf("Bool of %d = %v, %d", x, got, r.Done())
		}
		if x > 1 && (got || r.Left() != 2 || r.Done() != api.ErrForm || r.U8() != 0) {
			t.Errorf("Bool of %d = %v, %d left, %d", x, got, r.Left(), r.Done())
		}
	}
}

func TestP2_3RefusedBytes(t *testing.T) {
	for _, n := range []int{-1, math.MinInt, 4, 5, 1 << 40, math.MaxInt} {
		r := codec.NewReader([]byte{1, 2, 3})
		if got := r.Bytes(n); len(got) != 0 || r.Left() != 3 || r.Done() != api.ErrForm {
			t.Errorf("Bytes(%d) = %v, %d left, %d", n, got, r.Left(), r.Done())
		}
	}
}

func TestP2_3NothingBehindAFault(t *testing.T) {
	for _, c := range []struct {
		want  api.Errno
		b     []byte
		wrong func(r *codec.Reader)
	}{
		{api.ErrForm, []byte{0, 0, 0, 1, 5, 1, 1, 1, 1, 1}, func(r *codec.Reader) { r.Bytes(-1) }},
		{api.ErrForm, []byte{2, 0, 0, 1, 5, 1, 1, 1, 1, 1}, func(r *codec.Reader) { r.Bool() }},
		{api.ErrLong, []byte{0, 0, 0, 1, 5, 1, 1, 1, 1, 1}, func(r *codec.Reader) { codec.GetList(r, 0, (*codec.Reader).U8) }},
		{api.ErrLong, []byte{2, 0, 0, 1, 5, 1, 1, 1, 1, 1}, func(r *codec.Reader) { codec.GetList(r, 0, (*codec.Reader).U8) }},
	} {
		for name, call := range reads() {
			r := codec.NewReader(c.b)
			c.wrong(r)
			if !call(r) || r.Left() != len(c.b) || r.Done() != c.want {
				t.Errorf("%s behind fault %d: %d left, %d", name, c.want, r.Left(), r.Done())
			}
		}
	}
}

func TestP2_3ArgumentsAndAnswersAreApart(t *testing.T) {
	b := []byte{1, 2, 3, 4}
	r := codec.NewReader(b[:3])
	b[0], b[1] = 50, 51
	first := r.Bytes(2)
	if !bytes.Equal(first, []byte{1, 2}) {
		t.Errorf("a changed argument is seen in the Reader: %v", first)
	}
	spare := first[:cap(first)]
	for i := range spare {
		spare[i] = 60
	}
	if got := r.U8(); got != 3 || !slices.Equal(b, []byte{50, 51, 3, 4}) {
		t.Errorf("an answer's spare room is the Reader's: %d, %v", got, b)
	}
}

func TestP2_4LeftAndDone(t *testing.T) {
	r := codec.NewReader([]byte{1, 2, 3})
	for left := 3; left > 0; left-- {
		if r.Left() != left || r.Done() != api.ErrForm {
			t.Errorf("Left = %d, want %d; Done = %d", r.Left(), left, r.Done())
		}
		// Bytes that are left are no fault: reading goes on behind Done.
		if got := r.U8(); got != 4-left {
			t.Errorf("U8 behind Done = %d", got)
		}
	}
	if r.Left() != 0 || r.Done() != api.OK {
		t.Errorf("at the end: %d, %d", r.Left(), r.Done())
	}
	if r.U8() != 0 || r.Done() != api.ErrForm {
		t.Errorf("beyond the end: %d", r.Done())
	}
	for _, none := range [][]byte{nil, {}} {
		if r := codec.NewReader(none); r.Left() != 0 || r.Done() != api.OK {
			t.Errorf("no bytes: %d, %d", r.Left(), r.Done())
		}
	}
	r = codec.NewReader([]byte{1, 2, 3})
	if r.U16() != 258 || r.U16() != 0 || r.Left() != 1 || r.Done() != api.ErrForm {
		t.Errorf("the chapter's example: %d, %d", r.Left(), r.Done())
	}
	// All is read, but the fault is told all the same.
	r = codec.NewReader(nil)
	r.Bytes(-1)
	if r.Done() != api.ErrForm {
		t.Errorf("a fault with nothing left: %d", r.Done())
	}
	r = codec.NewReader([]byte{0, 0, 0, 1, 5})
	codec.GetList(r, 0, (*codec.Reader).U8)
	if r.Done() != api.ErrLong {
		t.Errorf("ErrLong with bytes left: %d", r.Done())
	}
}

func TestP2_5PutList(t *testing.T) {
	for _, c := range []struct {
		list  []int
		most  int
		want  []byte
		fault api.Errno
	}{
		{[]int{7, 9}, 3, []byte{0, 0, 0, 2, 7, 9}, api.OK},
		{[]int{7, 9}, 2, []byte{0, 0, 0, 2, 7, 9}, api.OK},
		{[]int{7, 9}, 1, nil, api.ErrLong},
		{[]int{7, 9}, 0, nil, api.ErrLong},
		{[]int{7, 9}, -1, nil, api.ErrLong},
		{[]int{7, 9}, math.MinInt, nil, api.ErrLong},
		{[]int{7, 9}, math.MaxInt, []byte{0, 0, 0, 2, 7, 9}, api.OK},
		{nil, 0, []byte{0, 0, 0, 0}, api.OK},
		{[]int{}, 0, []byte{0, 0, 0, 0}, api.OK},
		{nil, -1, nil, api.ErrLong},
		{[]int{}, math.MinInt, nil, api.ErrLong},
		// Which fault is told is a matter of order: the list's own comes ahead of its elements'.
		{[]int{256, 1}, 1, nil, api.ErrLong},
	} {
		b, length, fault := written(func(w *codec.Writer) { codec.PutList(w, c.list, c.most, (*codec.Writer).U8) })
		if !bytes.Equal(b, c.want) || length != len(c.want) || fault != c.fault {
			t.Errorf("PutList(%v, %d): % x, %d, %d", c.list, c.most, b, length, fault)
		}
	}
}

func TestP2_5PutStopsAtAFault(t *testing.T) {
	for at := range 4 {
		calls := 0
		list := []int{1, 2, 3, 4}
		list[at] = 256
		b, length, fault := written(func(w *codec.Writer) {
			codec.PutList(w, list, 4, func(w *codec.Writer, x int) {
				calls++
				w.U8(x)
			})
			w.U8(5)
		})
		if len(b) != 0 || length != 4+at || fault != api.ErrArg || calls != at+1 {
			t.Errorf("a fault at element %d: %v, %d, %d, %d calls", at, b, length, fault, calls)
		}
	}
	calls := 0
	written(func(w *codec.Writer) {
		w.U8(-1)
		codec.PutList(w, []int{1}, 4, func(*codec.Writer, int) { calls++ })
	})
	if calls != 0 {
		t.Errorf("put was called behind a fault")
	}
}

func TestP2_5MostElements(t *testing.T) {
	const most = 1000
	list := numbers(most)
	put := func(w *codec.Writer, x byte) { w.U8(int(x)) }
	get := func(r *codec.Reader) byte { return byte(r.U8()) }
	b, _, fault := written(func(w *codec.Writer) { codec.PutList(w, list, most, put) })
	if !bytes.Equal(b, append([]byte{0, 0, 3, 232}, list...)) || fault != api.OK {
		t.Errorf("most elements: %d bytes, %d", len(b), fault)
	}
	r := codec.NewReader(b)
	if got := codec.GetList(r, most, get); !bytes.Equal(got, list) || r.Done() != api.OK {
		t.Errorf("most elements read: %d, %d", len(got), r.Done())
	}
	r = codec.NewReader(b)
	if got := codec.GetList(r, most-1, get); len(got) != 0 || r.Done() != api.ErrLong || r.Left() != len(b) {
		t.Errorf("one more read: %d, %d", len(got), r.Done())
	}
	if b, length, fault := written(func(w *codec.Writer) { codec.PutList(w, append(list, 1), most, put) }); len(b) != 0 || length != 0 || fault != api.ErrLong {
		t.Errorf("one more: %d bytes, %d", length, fault)
	}
}

func TestP2_5GetList(t *testing.T) {
	for _, c := range []struct {
		b     []byte
		most  int
		want  []int
		left  int
		fault api.Errno
	}{
		{[]byte{0, 0, 0, 2, 7, 9}, 2, []int{7, 9}, 0, api.OK},
		{[]byte{0, 0, 0, 2, 7, 9}, math.MaxInt, []int{7, 9}, 0, api.OK},
		{[]byte{0, 0, 0, 2, 7, 9, 8}, 2, []int{7, 9}, 1, api.OK},
		{[]byte{0, 0, 0, 0}, 0, nil, 0, api.OK},
		{[]byte{0, 0, 0, 0, 6}, 9, nil, 1, api.OK},
		{[]byte{0, 0, 0, 2, 7, 9}, 1, nil, 6, api.ErrLong},
		{[]byte{0, 0, 0, 0}, -1, nil, 4, api.ErrLong},
		{[]byte{0, 0, 0, 0}, math.MinInt, nil, 4, api.ErrLong},
		{[]byte{0, 0, 0, 3, 5}, 9, nil, 5, api.ErrForm},
		{[]byte{0, 0, 0, 1}, 9, nil, 4, api.ErrForm},
		{[]byte{0, 0, 0, 10, 5}, 9, nil, 5, api.ErrLong},
		{[]byte{255, 255, 255, 255, 5}, math.MaxInt, nil, 5, api.ErrForm},
		{[]byte{255, 255, 255, 255, 5}, 1<<32 - 2, nil, 5, api.ErrLong},
		{[]byte{128, 0, 0, 0, 5}, math.MaxInt, nil, 5, api.ErrForm},
		{nil, 9, nil, 0, api.ErrForm},
		{[]byte{0, 0, 0}, 9, nil, 3, api.ErrForm},
		// Which fault is told is a matter of order: a number that is not there comes first.
		{[]byte{0, 0, 0}, -1, nil, 3, api.ErrForm},
	} {
		r := codec.NewReader(c.b)
		got := codec.GetList(r, c.most, (*codec.Reader).U8)
		if !slices.Equal(got, c.want) || r.Left() != c.left {
			t.Errorf("GetList of % x, most %d: %v, %d left", c.b, c.most, got, r.Left())
		}
		r.Bytes(c.left)
		if r.Done() != c.fault {
			t.Errorf("GetList of % x, most %d: fault %d, want %d", c.b, c.most, r.Done(), c.fault)
		}
	}
}

func TestP2_5GetStopsAtAFault(t *testing.T) {
	calls := 0
	r := codec.NewReader([]byte{0, 0, 0, 4, 1, 0, 2, 1, 1})
	got := codec.GetList(r, 9, func(r *codec.Reader) bool {
		calls++
		return r.Bool()
	})
	if len(got) != 0 || calls != 3 || r.Left() != 3 || r.Done() != api.ErrForm {
		t.Errorf("a fault in the third: %v, %d calls, %d left, %d", got, calls, r.Left(), r.Done())
	}
	calls = 0
	codec.GetList(r, 9, func(r *codec.Reader) int { calls++; return 1 })
	if calls != 0 {
		t.Errorf("get was called behind a fault")
	}
	r = codec.NewReader([]byte{0, 0, 0, 2, 1, 2, 3})
	if got := codec.GetList(r, 9, (*codec.Reader).U16); len(got) != 0 || r.Left() != 1 || r.Done() != api.ErrForm {
		t.Errorf("a fault within the last: %v, %d left, %d", got, r.Left(), r.Done())
	}
	// The fault of the last element leaves no elements either.
	r = codec.NewReader([]byte{0, 0, 0, 1, 2})
	if got := codec.GetList(r, 9, (*codec.Reader).Bool); len(got) != 0 || r.Left() != 1 || r.Done() != api.ErrForm {
		t.Errorf("a fault in the only one: %v, %d left, %d", got, r.Left(), r.Done())
	}
	calls = 0
	r = codec.NewReader([]byte{0, 0, 0, 2, 1, 1})
	if got := codec.GetList(r, 9, func(*codec.Reader) int { calls++; return 5 }); !slices.Equal(got, []int{5, 5}) || calls != 2 || r.Left() != 2 {
		t.Errorf("elements that read nothing: %v, %d calls, %d left", got, calls, r.Left())
	}
}

func TestP2_6Sum(t *testing.T) {
	for _, c := range []struct {
		text string
		want uint32
	}{
		{"", 0},
		{"123456789", 0xcbf43926},
		{"\x00", 0xd202ef8d},
		{"\xff", 0xff000000},
		{"a", 0xe8b7be43},
	} {
		if got := codec.Sum([]byte(c.text)); got != c.want {
			t.Errorf("Sum(%q) = %x, want %x", c.text, got, c.want)
		}
	}
	many := numbers(2000)
	for n := range many {
		if got, want := codec.Sum(many[:n]), crc32.ChecksumIEEE(many[:n]); got != want {
			t.Fatalf("Sum of %d bytes = %x, want %x", n, got, want)
		}
	}
	for x := range 256 {
		if got, want := codec.Sum([]byte{byte(x)}), crc32.ChecksumIEEE([]byte{byte(x)}); got != want {
			t.Errorf("Sum of byte %d = %x, want %x", x, got, want)
		}
	}
}

// sealed is what P2.7 says, laid together by hand.
func sealed(kind byte, b []byte) []byte {
	text := []byte{0x42, 0x4b, kind, 1}
	text = binary.BigEndian.AppendUint32(text, uint32(len(b)))
	text = append(text, b...)
	return binary.LittleEndian.AppendUint32(text, crc32.ChecksumIEEE(text))
}

func TestP2_7Seal(t *testing.T) {
	for _, kind := range []byte{0, 1, 2, 127, 128, 255} {
		for _, n := range []int{0, 1, 2, 255, 256, 65536} {
			b := numbers(n)
			got, fault := codec.Seal(kind, b)
			if !bytes.Equal(got, sealed(kind, b)) || fault != api.OK {
				t.Errorf("Seal(%d, %d bytes): %d bytes, %d", kind, n, len(got), fault)
			}
		}
	}
	if got, fault := codec.Seal(1, nil); !bytes.Equal(got[:8], []byte{0x42, 0x4b, 1, 1, 0, 0, 0, 0}) || len(got) != 12 || fault != api.OK {
		t.Errorf("Seal(1, none) = % x, %d", got, fault)
	}
}

func TestP2_7MostBytes(t *testing.T) {
	b := numbers(mostSealed + 1)
	if got, fault := codec.Seal(9, b[:mostSealed]); !bytes.Equal(got, sealed(9, b[:mostSealed])) || fault != api.OK {
		t.Errorf("2^22 bytes: %d bytes, %d", len(got), fault)
	}
	if got, fault := codec.Seal(9, b); len(got) != 0 || fault != api.ErrLong {
		t.Errorf("one more: %d bytes, %d", len(got), fault)
	}
}

func TestP2_7ArgumentsAndAnswersAreApart(t *testing.T) {
	whole := []byte{1, 2, 3, 4, 5, 6, 7, 8}
	text, _ := codec.Seal(1, whole[:2])
	if !slices.Equal(whole, []byte{1, 2, 3, 4, 5, 6, 7, 8}) {
		t.Errorf("the spare room of an argument was written: %v", whole)
	}
	whole[0] = 50
	inner, _ := codec.Unseal(1, text)
	if !bytes.Equal(inner, []byte{1, 2}) {
		t.Errorf("a changed argument is seen in the answer: %v", inner)
	}
	spare := inner[:cap(inner)]
	for i := range spare {
		spare[i] = 60
	}
	if !bytes.Equal(text, sealed(1, []byte{1, 2})) {
		t.Errorf("what was unsealed is a piece of the argument: % x", text)
	}
	text[8] = 70
	if inner[0] != 60 {
		t.Errorf("a changed argument is seen in what was unsealed: %v", inner)
	}
}

func TestP2_8Unseal(t *testing.T) {
	for _, kind := range []byte{0, 1, 255} {
		for _, n := range []int{0, 1, 4, 300} {
			text := sealed(kind, numbers(n))
			if got, fault := codec.Unseal(kind, text); !bytes.Equal(got, numbers(n)) || fault != api.OK {
				t.Errorf("Unseal(%d, of %d bytes): %v, %d", kind, n, got, fault)
			}
			if got, fault := codec.Unseal(kind+1, text); len(got) != 0 || fault != api.ErrForm {
				t.Errorf("Unseal of another kind: %v, %d", got, fault)
			}
		}
	}
}

// resummed is a text with the check sum that fits it.
func resummed(text []byte) []byte {
	return binary.LittleEndian.AppendUint32(bytes.Clone(text), crc32.ChecksumIEEE(text))
}

func TestP2_8NotWhatSealTells(t *testing.T) {
	wrongSum := sealed(1, []byte{5, 6})
	slices.Reverse(wrongSum[len(wrongSum)-4:])
	for name, text := range map[string][]byte{
		"nothing":                   nil,
		"a sum of nothing":          {0, 0, 0, 0},
		"eleven bytes":              make([]byte, 11),
		"twelve bytes":              make([]byte, 12),
		"another first letter":      resummed([]byte{0x43, 0x4b, 1, 1, 0, 0, 0, 1, 7}),
		"another second letter":     resummed([]byte{0x42, 0x4c, 1, 1, 0, 0, 0, 1, 7}),
		"another kind":              resummed([]byte{0x42, 0x4b, 2, 1, 0, 0, 0, 1, 7}),
		"another form":              resummed([]byte{0x42, 0x4b, 1, 2, 0, 0, 0, 1, 7}),
		"form 0":                    resummed([]byte{0x42, 0x4b, 1, 0, 0, 0, 0, 1, 7}),
		"a length below":            resummed([]byte{0x42, 0x4b, 1, 1, 0, 0, 0, 0, 7}),
		"a length above":            resummed([]byte{0x42, 0x4b, 1, 1, 0, 0, 0, 2, 7}),
		"a length far above":        resummed([]byte{0x42, 0x4b, 1, 1, 255, 255, 255, 255, 7}),
		"a length, lowest first":    resummed([]byte{0x42, 0x4b, 1, 1, 1, 0, 0, 0, 7}),
		"a head cut short":          resummed([]byte{0x42, 0x4b, 1, 1, 0, 0, 0}),
		"a sum with highest first":  wrongSum,
		"a sealed text, sealed off": sealed(1, nil)[:11],
	} {
		if got, fault := codec.Unseal(1, text); len(got) != 0 || fault != api.ErrForm {
			t.Errorf("%s: %v, %d", name, got, fault)
		}
	}
}

func TestP2_8MostBytes(t *testing.T) {
	inner := numbers(mostSealed)
	text := sealed(9, inner)
	if got, fault := codec.Unseal(9, text); !bytes.Equal(got, inner) || fault != api.OK {
		t.Errorf("2^22 + 12 bytes: %d bytes, %d", len(got), fault)
	}
	if got, fault := codec.Unseal(8, text); len(got) != 0 || fault != api.ErrForm {
		t.Errorf("2^22 + 12 bytes of another kind: %d bytes, %d", len(got), fault)
	}
	if got, fault := codec.Unseal(9, append(text, 0)); len(got) != 0 || fault != api.ErrLong {
		t.Errorf("one more: %d bytes, %d", len(got), fault)
	}
	if got, fault := codec.Unseal(9, sealed(9, append(inner, 0))); len(got) != 0 || fault != api.ErrLong {
		t.Errorf("well formed, but one more: %d bytes, %d", len(got), fault)
	}
}

// call is a call of a Writer, or of a Reader, of one kind, with what it puts.
type call struct {
	kind  int
	value int64
	bytes []byte
	lists [][]byte
}

// byteOf lays one byte down.
func byteOf(w *codec.Writer, x byte) { w.U8(int(x)) }

// put does a call with a Writer.
func (c call) put(w *codec.Writer) {
	switch c.kind {
	case 0:
		w.U8(int(uint8(c.value)))
	case 1:
		w.U16(int(uint16(c.value)))
	case 2:
		w.U32(int(uint32(c.value)))
	case 3:
		w.I64(c.value)
	case 4:
		w.Bool(c.value%2 == 0)
	case 5:
		w.Bytes(c.bytes)
	case 6:
		codec.PutList(w, c.lists, len(c.lists), func(w *codec.Writer, list []byte) {
			codec.PutList(w, list, len(list), byteOf)
		})
	}
}

// same tells whether the call of the same kind reads what was put.
func (c call) same(r *codec.Reader) bool {
	switch c.kind {
	case 0:
		return r.U8() == int(uint8(c.value))
	case 1:
		return r.U16() == int(uint16(c.value))
	case 2:
		return r.U32() == int(uint32(c.value))
	case 3:
		return r.I64() == c.value
	case 4:
		return r.Bool() == (c.value%2 == 0)
	case 5:
		return bytes.Equal(r.Bytes(len(c.bytes)), c.bytes)
	}
	lists := codec.GetList(r, len(c.lists), func(r *codec.Reader) []byte {
		return codec.GetList(r, 1<<20, func(r *codec.Reader) byte { return byte(r.U8()) })
	})
	return slices.EqualFunc(lists, c.lists, bytes.Equal)
}

func TestP2_9WhatIsWrittenIsRead(t *testing.T) {
	seed := numbers(40000)
	for round := range 200 {
		var calls []call
		w := codec.NewWriter()
		for i := range 40 {
			at := round*150 + i*3
			b := seed[at : at+int(seed[at+1]%50)]
			c := call{int(seed[at] % 7), int64(binary.BigEndian.Uint64(seed[at:])), b, [][]byte{b, nil, seed[at : at+2]}}
			calls = append(calls, c)
			c.put(w)
		}
		text, fault := w.Done()
		if fault != api.OK {
			t.Fatalf("round %d: fault %d", round, fault)
		}
		r := codec.NewReader(text)
		for i, c := range calls {
			if !c.same(r) {
				t.Fatalf("round %d: call %d of kind %d reads something else", round, i, c.kind)
			}
		}
		if r.Left() != 0 || r.Done() != api.OK {
			t.Fatalf("round %d: %d left, %d", round, r.Left(), r.Done())
		}
	}
}

func TestP2_9WhatIsReadIsWrittenAgain(t *testing.T) {
	seed := numbers(30000)
	whole := 0
	for round := range 4000 {
		b := slices.Clone(seed[round*7 : round*7+14])
		for i := range 5 {
			b[i] &= 1 // so that many rounds are read to the end
		}
		copy(b[1:4], []byte{0, 0, 0})
		r := codec.NewReader(b)
		flag := r.Bool()
		list := codec.GetList(r, 3, (*codec.Reader).U8)
		word, rest := r.U32(), r.Bytes(r.Left())
		if r.Done() != api.OK {
			continue
		}
		whole++
		w := codec.NewWriter()
		w.Bool(flag)
		codec.PutList(w, list, 3, (*codec.Writer).U8)
		w.U32(word)
		w.Bytes(rest)
		if again, fault := w.Done(); !bytes.Equal(again, b) || fault != api.OK {
			t.Fatalf("% x is written again as % x, %d", b, again, fault)
		}
	}
	if whole < 1000 {
		t.Errorf("only %d rounds were read to the end", whole)
	}
}

func TestP2_9ASealHoldsAgainstChanges(t *testing.T) {
	for _, n := range []int{0, 1, 5, 40} {
		text, _ := codec.Seal(3, numbers(n))
		for bit := range 8 * len(text) {
			bad := bytes.Clone(text)
			bad[bit/8] ^= 1 << (bit % 8)
			if got, fault := codec.Unseal(3, bad); len(got) != 0 || fault != api.ErrForm {
				t.Errorf("%d bytes, bit %d turned: %v, %d", n, bit, got, fault)
			}
		}
		for cut := range text {
			if got, fault := codec.Unseal(3, text[:cut]); len(got) != 0 || fault != api.ErrForm {
				t.Errorf("%d bytes, cut at %d: %v, %d", n, cut, got, fault)
			}
		}
		for _, behind := range [][]byte{{0}, {1}, {0, 0, 0, 0}, text[len(text)-4:], text} {
			if got, fault := codec.Unseal(3, slices.Concat(text, behind)); len(got) != 0 || fault != api.ErrForm {
				t.Errorf("%d bytes, % x behind: %v, %d", n, behind, got, fault)
			}
		}
	}
}
