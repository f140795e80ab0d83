package image_test

import (
	"bytes"
	"encoding/binary"
	"encoding/hex"
	"hash/crc32"
	"math"
	"math/rand/v2"
	"reflect"
	"slices"
	"strings"
	"testing"

	"bulkhead/api"
	"bulkhead/image"
)

const (
	top    = math.MaxInt
	bottom = math.MinInt
)

// body is the chapter's words on an image's body, read a second time: its bytes, and where the sections begin in them.
type body struct {
	bytes  []byte
	places []int
}

func (o *body) count(n int) { o.bytes = binary.BigEndian.AppendUint32(o.bytes, uint32(n)) }

func (o *body) numbers(list ...int) {
	for _, x := range list {
		o.bytes = binary.BigEndian.AppendUint64(o.bytes, uint64(x))
	}
}

func (o *body) flag(x bool) {
	if x {
		o.bytes = append(o.bytes, 1)
	} else {
		o.bytes = append(o.bytes, 0)
	}
}

func (o *body) part(p api.Part) {
	o.numbers(p.Server.Period, p.Server.Budget, p.Server.Offset, p.Server.Priority)
	o.numbers(p.Words, p.Fixed)
	o.count(len(p.Init))
	for _, x := range p.Init {
		o.numbers(int(x))
	}
	o.count(len(p.Code))
	for _, c := range p.Code {
		o.bytes = append(o.bytes, c.Op, c.A, c.B, c.C)
		o.bytes = binary.BigEndian.AppendUint32(o.bytes, uint32(c.Imm))
	}
	o.count(len(p.Procs))
	for _, q := range p.Procs {
		o.numbers(q.Entry, q.Priority, q.Period, q.Limit, q.Capacity)
		o.flag(q.Auto)
	}
	o.numbers(p.Handler)
	for fault := 0; fault <= 7; fault++ {
		o.numbers(p.Health[fault])
	}
	o.count(len(p.Sems))
	for _, s := range p.Sems {
		o.numbers(s.Start, s.Max)
	}
	o.count(len(p.Events))
	for _, e := range p.Events {
		o.flag(e)
	}
	o.count(len(p.Buffers))
	for _, b := range p.Buffers {
		o.numbers(b.Size, b.Depth)
	}
}

// lay is the body of an image.
func lay(x api.Image) *body {
	o := &body{}
	begin := func() { o.places = append(o.places, len(o.bytes)) }
	begin()
	o.count(len(x.Parts))
	for _, p := range x.Parts {
		o.part(p)
	}
	begin()
	o.count(len(x.Ports))
	for _, p := range x.Ports {
		o.numbers(p.Part, p.Kind)
		o.flag(p.Out)
		o.numbers(p.Size, p.Depth, p.Refresh)
	}
	begin()
	o.count(len(x.Channels))
	for _, c := range x.Channels {
		o.numbers(c.Kind, c.From)
		o.count(len(c.To))
		o.numbers(c.To...)
		o.numbers(c.Phase, c.Period)
	}
	return o
}

// seal lays a seal around a body, whatever stands in it.
func seal(kind byte, inner []byte) []byte {
	b := []byte{'B', 'K', kind, 1}
	b = binary.BigEndian.AppendUint32(b, uint32(len(inner)))
	b = append(b, inner...)
	return binary.LittleEndian.AppendUint32(b, crc32.ChecksumIEEE(b))
}

// sealed is the bytes of an image by the second reading.
func sealed(x api.Image) []byte { return seal(1, lay(x).bytes) }

// sections is where they begin in the sealed bytes, by the second reading.
func sections(x api.Image) []int {
	places := lay(x).places
	for i := range places {
		places[i] += 8
	}
	return places
}

// cursor goes through a body by the chapter's words, a second time; short or wrong bytes turn bad on.
type cursor struct {
	rest []byte
	bad  bool
}

func (c *cursor) take(n int) []byte {
	if c.bad || n > len(c.rest) {
		c.bad = true
		return make([]byte, n)
	}
	taken := c.rest[:n]
	c.rest = c.rest[n:]
	return taken
}

func (c *cursor) number() int { return int(binary.BigEndian.Uint64(c.take(8))) }

func (c *cursor) flag() bool {
	x := c.take(1)[0]
	c.bad = c.bad || x > 1
	return x == 1
}

// each goes so many times as the number says that stands next, unless the bytes end.
func (c *cursor) each(do func()) {
	for n := int(binary.BigEndian.Uint32(c.take(4))); n > 0 && !c.bad; n-- {
		do()
	}
}

func (c *cursor) part() (p api.Part) {
	p.Server = api.Server{Period: c.number(), Budget: c.number(), Offset: c.number(), Priority: c.number()}
	p.Words, p.Fixed = c.number(), c.number()
	c.each(func() { p.Init = append(p.Init, int64(c.number())) })
	c.each(func() {
		b := c.take(8)
		p.Code = append(p.Code, api.Instr{Op: b[0], A: b[1], B: b[2], C: b[3], Imm: int32(binary.BigEndian.Uint32(b[4:]))})
	})
	c.each(func() {
		p.Procs = append(p.Procs, api.Proc{Entry: c.number(), Priority: c.number(), Period: c.number(), Limit: c.number(), Capacity: c.number(), Auto: c.flag()})
	})
	p.Handler = c.number()
	for fault := range p.Health {
		p.Health[fault] = c.number()
	}
	c.each(func() { p.Sems = append(p.Sems, api.Sem{Start: c.number(), Max: c.number()}) })
	c.each(func() { p.Events = append(p.Events, c.flag()) })
	c.each(func() { p.Buffers = append(p.Buffers, api.Buffer{Size: c.number(), Depth: c.number()}) })
	return p
}

// parse is the image of a body, and false if it is the body of none.
func parse(inner []byte) (x api.Image, ok bool) {
	c := &cursor{rest: inner}
	c.each(func() { x.Parts = append(x.Parts, c.part()) })
	c.each(func() {
		x.Ports = append(x.Ports, api.Port{Part: c.number(), Kind: c.number(), Out: c.flag(), Size: c.number(), Depth: c.number(), Refresh: c.number()})
	})
	c.each(func() {
		l := api.Channel{Kind: c.number(), From: c.number()}
		c.each(func() { l.To = append(l.To, c.number()) })
		l.Phase, l.Period = c.number(), c.number()
		x.Channels = append(x.Channels, l)
	})
	return x, !c.bad && len(c.rest) == 0
}

// plain makes nil of every empty list, which is the same.
func plain(x api.Image) api.Image {
	y := x
	y.Parts = append([]api.Part(nil), x.Parts...)
	for i := range y.Parts {
		p := &y.Parts[i]
		p.Init = append([]int64(nil), p.Init...)
		p.Code = append([]api.Instr(nil), p.Code...)
		p.Procs = append([]api.Proc(nil), p.Procs...)
		p.Sems = append([]api.Sem(nil), p.Sems...)
		p.Events = append([]bool(nil), p.Events...)
		p.Buffers = append([]api.Buffer(nil), p.Buffers...)
	}
	y.Ports = append([]api.Port(nil), x.Ports...)
	y.Channels = append([]api.Channel(nil), x.Channels...)
	for i := range y.Channels {
		y.Channels[i].To = append([]int(nil), y.Channels[i].To...)
	}
	return y
}

func same(x, y api.Image) bool { return reflect.DeepEqual(plain(x), plain(y)) }

// told holds all calls on an image against the second reading.
func told(t *testing.T, name string, x api.Image) {
	t.Helper()
	want := sealed(x)
	b, err := image.Encode(x)
	if !bytes.Equal(b, want) || err != api.OK {
		t.Fatalf("%s: Encode = % x, %d, want % x", name, b, err, want)
	}
	if y, err := image.Decode(want); !same(x, y) || err != api.OK {
		t.Fatalf("%s: Decode = %+v, %d, want %+v", name, y, err, x)
	}
	if s, err := image.Sections(want); !slices.Equal(s, sections(x)) || err != api.OK {
		t.Fatalf("%s: Sections = %v, %d, want %v", name, s, err, sections(x))
	}
}

// refused asks that Decode and Sections refuse bytes, and tell nothing beside.
func refused(t *testing.T, name string, b []byte, want api.Errno) {
	t.Helper()
	if x, err := image.Decode(b); err != want || !same(x, api.Image{}) {
		t.Errorf("%s: Decode = %+v, %d, want nothing, %d", name, x, err, want)
	}
	if s, err := image.Sections(b); err != want || len(s) != 0 {
		t.Errorf("%s: Sections = %v, %d, want nothing, %d", name, s, err, want)
	}
}

// counter is an image in which all numbers are unlike, each list has one element more than the one ahead of it, and no byte of a number is 0.
func counter() api.Image {
	at := 0
	n := func() int { at++; return 0x1122334455667700 + at }
	small := func() byte { at++; return byte(at) }
	p := api.Part{Server: api.Server{Period: n(), Budget: n(), Offset: n(), Priority: n()}, Words: n(), Fixed: n()}
	p.Init = []int64{int64(n())}
	for range 2 {
		p.Code = append(p.Code, api.Instr{Op: small(), A: small(), B: small(), C: small(), Imm: int32(0x01020300 + int(small()))})
	}
	for i := range 3 {
		p.Procs = append(p.Procs, api.Proc{Entry: n(), Priority: n(), Period: n(), Limit: n(), Capacity: n(), Auto: i != 1})
	}
	p.Handler = n()
	for fault := range p.Health {
		p.Health[fault] = n()
	}
	for range 4 {
		p.Sems = append(p.Sems, api.Sem{Start: n(), Max: n()})
	}
	p.Events = []bool{true, false, false, true, true}
	for range 6 {
		p.Buffers = append(p.Buffers, api.Buffer{Size: n(), Depth: n()})
	}
	x := api.Image{Parts: []api.Part{p}}
	for i := range 2 {
		x.Ports = append(x.Ports, api.Port{Part: n(), Kind: n(), Out: i == 0, Size: n(), Depth: n(), Refresh: n()})
	}
	for i := range 3 {
		c := api.Channel{Kind: n(), From: n()}
		for range i {
			c.To = append(c.To, n())
		}
		c.Phase, c.Period = n(), n()
		x.Channels = append(x.Channels, c)
	}
	return x
}

// draw is an image by chance: short lists, empty ones among them, and numbers of all sizes.
func draw(r *rand.Rand) api.Image {
	n := func() int { return int(r.Uint64()) >> r.IntN(64) }
	some := func(do func()) {
		for range r.IntN(4) {
			do()
		}
	}
	var x api.Image
	some(func() {
		p := api.Part{Server: api.Server{Period: n(), Budget: n(), Offset: n(), Priority: n()}, Words: n(), Fixed: n(), Handler: n()}
		for fault := range p.Health {
			p.Health[fault] = n()
		}
		some(func() { p.Init = append(p.Init, int64(n())) })
		some(func() {
			p.Code = append(p.Code, api.Instr{Op: byte(n()), A: byte(n()), B: byte(n()), C: byte(n()), Imm: int32(n())})
		})
		some(func() {
			p.Procs = append(p.Procs, api.Proc{Entry: n(), Priority: n(), Period: n(), Limit: n(), Capacity: n(), Auto: n()&1 == 1})
		})
		some(func() { p.Sems = append(p.Sems, api.Sem{Start: n(), Max: n()}) })
		some(func() { p.Events = append(p.Events, n()&1 == 1) })
		some(func() { p.Buffers = append(p.Buffers, api.Buffer{Size: n(), Depth: n()}) })
		x.Parts = append(x.Parts, p)
	})
	some(func() {
		x.Ports = append(x.Ports, api.Port{Part: n(), Kind: n(), Out: n()&1 == 1, Size: n(), Depth: n(), Refresh: n()})
	})
	some(func() {
		c := api.Channel{Kind: n(), From: n(), Phase: n(), Period: n()}
		some(func() { c.To = append(c.To, n()) })
		x.Channels = append(x.Channels, c)
	})
	return x
}

// unhex reads bytes that are written in hexadecimal, with blanks between.
func unhex(s string) []byte {
	b, err := hex.DecodeString(strings.Join(strings.Fields(s), ""))
	if err != nil {
		panic(err)
	}
	return b
}

func TestExamples(t *testing.T) {
	b, err := image.Encode(api.Image{})
	head := unhex("42 4b 01 01 00 00 00 0c 00 00 00 00 00 00 00 00 00 00 00 00")
	if err != api.OK || len(b) != 24 || !bytes.Equal(b[:20], head) || binary.LittleEndian.Uint32(b[20:]) != crc32.ChecksumIEEE(head) {
		t.Fatalf("Encode of the image of nothing = % x, %d", b, err)
	}
	if s, err := image.Sections(b); !slices.Equal(s, []int{8, 12, 16}) || err != api.OK {
		t.Errorf("Sections of the image of nothing = %v, %d", s, err)
	}
	if x, err := image.Decode(b); !same(x, api.Image{}) || err != api.OK {
		t.Errorf("Decode of the image of nothing = %+v, %d", x, err)
	}
	spoiled := slices.Clone(b)
	spoiled[4] = 1
	refused(t, "the fifth byte is 1", spoiled, api.ErrForm)
	refused(t, "no bytes", nil, api.ErrForm)
	refused(t, "an empty list", []byte{}, api.ErrForm)
	refused(t, "1048577 bytes", make([]byte, 1048577), api.ErrLong)

	b, err = image.Encode(api.Image{Ports: []api.Port{{Part: 1, Kind: 0, Out: true, Size: 2}}})
	port := unhex("00000001 0000000000000001 0000000000000000 01 0000000000000002 0000000000000000 0000000000000000")
	if err != api.OK || len(b) != 8+4+45+4+4 || !bytes.Equal(b[12:57], port) {
		t.Errorf("Encode of one port = % x, %d", b, err)
	}
	if s, err := image.Sections(b); !slices.Equal(s, []int{8, 12, 57}) || err != api.OK {
		t.Errorf("Sections of one port = %v, %d", s, err)
	}

	channel := unhex("00000000 00000000 00000001 0000000000000000 0000000000000000 77359400")
	refused(t, "To of 2000000000", seal(1, channel), api.ErrForm)
}

// TestP9_1_Bytes: an image of one of each, written out byte by byte.
func TestP9_1_Bytes(t *testing.T) {
	x := api.Image{
		Parts: []api.Part{{
			Server: api.Server{Period: 1, Budget: 2, Offset: 3, Priority: 4}, Words: 5, Fixed: 6,
			Init:    []int64{-1, 7},
			Code:    []api.Instr{{Op: 0x12, A: 1, B: 2, C: 3, Imm: -2}},
			Procs:   []api.Proc{{Entry: 8, Priority: 9, Period: 10, Limit: 11, Capacity: 12, Auto: true}},
			Handler: 13, Health: [8]int{14, 15, 16, 17, 18, 19, 20, 21},
			Sems: []api.Sem{{Start: 22, Max: 23}}, Events: []bool{false, true}, Buffers: []api.Buffer{{Size: 24, Depth: 25}},
		}},
		Ports:    []api.Port{{Part: 26, Kind: 27, Out: true, Size: 28, Depth: 29, Refresh: 30}},
		Channels: []api.Channel{{Kind: 31, From: 32, To: []int{33, -34}, Phase: 35, Period: 36}},
	}
	inner := unhex(`
		00000001
		0000000000000001 0000000000000002 0000000000000003 0000000000000004 0000000000000005 0000000000000006
		00000002 ffffffffffffffff 0000000000000007
		00000001 12010203fffffffe
		00000001 0000000000000008 0000000000000009 000000000000000a 000000000000000b 000000000000000c 01
		000000000000000d
		000000000000000e 000000000000000f 0000000000000010 0000000000000011
		0000000000000012 0000000000000013 0000000000000014 0000000000000015
		00000001 0000000000000016 0000000000000017
		00000002 00 01
		00000001 0000000000000018 0000000000000019
		00000001
		000000000000001a 000000000000001b 01 000000000000001c 000000000000001d 000000000000001e
		00000001
		000000000000001f 0000000000000020 00000002 0000000000000021 ffffffffffffffde 0000000000000023 0000000000000024`)
	want := seal(1, inner)
	if b, err := image.Encode(x); !bytes.Equal(b, want) || err != api.OK {
		t.Errorf("Encode = % x, %d, want % x", b, err, want)
	}
	if y, err := image.Decode(want); !same(x, y) || err != api.OK {
		t.Errorf("Decode = %+v, %d, want %+v", y, err, x)
	}
	ports := bytes.Index(want, unhex("00000001 000000000000001a"))
	if s, err := image.Sections(want); !slices.Equal(s, []int{8, ports, ports + 45}) || err != api.OK {
		t.Errorf("Sections = %v, %d", s, err)
	}
}

// leaves is a setter for each number, flag and byte of a value, with its name.
func leaves(v reflect.Value, name string, visit func(name string, leaf reflect.Value)) {
	switch v.Kind() {
	case reflect.Struct:
		for i := range v.NumField() {
			leaves(v.Field(i), name+"."+v.Type().Field(i).Name, visit)
		}
	case reflect.Slice, reflect.Array:
		for i := range v.Len() {
			leaves(v.Index(i), name+"[]", visit)
		}
	default:
		visit(name, v)
	}
}

// TestP9_1_Fields: each field stands in its place, at the edges of its kind too, whatever the others are.
func TestP9_1_Fields(t *testing.T) {
	x := counter()
	told(t, "all unlike", x)
	seen := 0
	leaves(reflect.ValueOf(&x).Elem(), "", func(name string, leaf reflect.Value) {
		seen++
		old := reflect.ValueOf(leaf.Interface())
		switch leaf.Kind() {
		case reflect.Bool:
			leaf.SetBool(!leaf.Bool())
			told(t, name, x)
		case reflect.Uint8:
			for _, n := range []uint64{0, 1, 127, 128, 255} {
				leaf.SetUint(n)
				told(t, name, x)
			}
		case reflect.Int32:
			for _, n := range []int64{math.MinInt32, -1, 0, 1, math.MaxInt32} {
				leaf.SetInt(n)
				told(t, name, x)
			}
		default:
			for _, n := range []int64{bottom, bottom + 1, math.MinInt32 - 1, -256, -1, 0, 1, 255, 1 << 31, 1 << 32, 1 << 56, top - 1, top} {
				leaf.SetInt(n)
				told(t, name, x)
			}
		}
		leaf.Set(old)
	})
	if want := 6 + 1 + 2*5 + 3*6 + 9 + 4*2 + 5 + 6*2 + 2*6 + 3*4 + 3; seen != want {
		t.Fatalf("%d fields were set, want %d", seen, want)
	}
	told(t, "as it was", x)
}

// list is one of the lists of an image: what makes it n elements long, and how many bytes its n elements take.
type list struct {
	name string
	set  func(x *api.Image, n int)
	wide int
}

// lists is all of them; the image they are put into has a partition and a channel.
func lists() []list {
	return []list{
		{"Parts", func(x *api.Image, n int) { x.Parts = append(x.Parts[:1:1], make([]api.Part, n)...) }, 144},
		{"Init", func(x *api.Image, n int) { x.Parts[0].Init = make([]int64, n) }, 8},
		{"Code", func(x *api.Image, n int) { x.Parts[0].Code = make([]api.Instr, n) }, 8},
		{"Procs", func(x *api.Image, n int) { x.Parts[0].Procs = make([]api.Proc, n) }, 41},
		{"Sems", func(x *api.Image, n int) { x.Parts[0].Sems = make([]api.Sem, n) }, 16},
		{"Events", func(x *api.Image, n int) { x.Parts[0].Events = make([]bool, n) }, 1},
		{"Buffers", func(x *api.Image, n int) { x.Parts[0].Buffers = make([]api.Buffer, n) }, 16},
		{"Ports", func(x *api.Image, n int) { x.Ports = make([]api.Port, n) }, 41},
		{"Channels", func(x *api.Image, n int) { x.Channels = append(x.Channels[:1:1], make([]api.Channel, n)...) }, 36},
		{"To", func(x *api.Image, n int) { x.Channels[0].To = make([]int, n) }, 8},
	}
}

// small is an image with a partition and a channel that have no lists.
func small() api.Image {
	return api.Image{Parts: make([]api.Part, 1), Channels: make([]api.Channel, 1)}
}

// TestP9_1_Lists: each list empty, of one and of many.
func TestP9_1_Lists(t *testing.T) {
	told(t, "empty lists", api.Image{Parts: []api.Part{}, Ports: []api.Port{}, Channels: []api.Channel{}})
	empty := api.Part{Init: []int64{}, Code: []api.Instr{}, Procs: []api.Proc{}, Sems: []api.Sem{}, Events: []bool{}, Buffers: []api.Buffer{}}
	told(t, "empty lists within", api.Image{Parts: []api.Part{empty}, Channels: []api.Channel{{To: []int{}}}})
	told(t, "nil lists within", small())
	for _, l := range lists() {
		for _, n := range []int{0, 1, 2, 3, 255, 256, 257, 5000} {
			x := small()
			l.set(&x, n)
			told(t, l.name, x)
			if b, _ := image.Encode(x); len(b) != 12+12+144+36+n*l.wide {
				t.Errorf("%s: %d elements: %d bytes", l.name, n, len(b))
			}
		}
	}
	x := counter()
	x.Parts = slices.Repeat(x.Parts, 40)
	x.Ports = slices.Repeat(x.Ports, 40)
	x.Channels = slices.Repeat(x.Channels, 40)
	told(t, "many of all", x)
}

// pad gives an image just so many bytes in all, by events of its first partition.
func pad(x *api.Image, size int) {
	x.Parts[0].Events = nil
	x.Parts[0].Events = make([]bool, size-12-len(lay(*x).bytes))
}

// TestP9_1_Bound: just MaxImage bytes are told, whichever list has them, and one byte or one element more is not.
func TestP9_1_Bound(t *testing.T) {
	for _, l := range lists() {
		x := small()
		n := (api.MaxImage - 12 - 12 - 144 - 36) / l.wide
		l.set(&x, n)
		if l.name != "Events" {
			pad(&x, api.MaxImage)
		}
		if size := len(sealed(x)); size != 1048576 {
			t.Fatalf("%s: the test's image has %d bytes", l.name, size)
		}
		told(t, l.name+" to the bound", x)
		more := x
		more.Parts = slices.Clone(x.Parts)
		more.Parts[0].Events = make([]bool, len(x.Parts[0].Events)+1)
		tooLong(t, l.name+" and a byte more", more)
		refused(t, l.name+" and a byte more", sealed(more), api.ErrLong)
		x = small()
		l.set(&x, n+1)
		tooLong(t, l.name+" and an element more", x)
		refused(t, l.name+" and an element more", sealed(x), api.ErrLong)
	}
}

func tooLong(t *testing.T, name string, x api.Image) {
	t.Helper()
	if b, err := image.Encode(x); len(b) != 0 || err != api.ErrLong {
		t.Errorf("%s: Encode = %d bytes, %d, want none, %d", name, len(b), err, api.ErrLong)
	}
}

// TestP9_1_Long: images far above the bound, those too that a seal would not take.
func TestP9_1_Long(t *testing.T) {
	for _, l := range lists() {
		for _, n := range []int{api.MaxImage - 1, api.MaxImage, api.MaxImage + 1, 1<<22 + 1} {
			if n > 1<<22 && l.wide > 8 {
				continue // it would take a gigabyte to hand in
			}
			x := small()
			l.set(&x, n)
			tooLong(t, l.name, x)
		}
	}
	shared := make([]int64, 100000)
	x := api.Image{Parts: make([]api.Part, 300)}
	for i := range x.Parts {
		x.Parts[i].Init = shared
	}
	tooLong(t, "one list in many partitions", x)
	to := make([]int, 100000)
	x = api.Image{Channels: make([]api.Channel, 300)}
	for i := range x.Channels {
		x.Channels[i].To = to
	}
	tooLong(t, "one list in many channels", x)
	x = small()
	pad(&x, api.MaxImage)
	x.Channels = append(x.Channels, api.Channel{})
	tooLong(t, "a channel behind the bound", x)
	x.Ports = make([]api.Port, 1)
	tooLong(t, "a port behind the bound", x)
}

// TestP9_1_Instructions: what is no instruction is told and read all the same.
func TestP9_1_Instructions(t *testing.T) {
	x := small()
	for op := range 256 {
		x.Parts[0].Code = append(x.Parts[0].Code, api.Instr{Op: byte(op), A: 255, B: byte(255 - op), C: 16, Imm: math.MinInt32})
	}
	told(t, "illegal instructions", x)
}

// TestP9_2_Chance: images of a fixed seed beside the second reading.
func TestP9_2_Chance(t *testing.T) {
	r := rand.New(rand.NewPCG(9, 1))
	for range 2000 {
		told(t, "by chance", draw(r))
	}
}

// TestP9_2_Seal: what is no seal of kind 1 is refused.
func TestP9_2_Seal(t *testing.T) {
	for _, x := range []api.Image{{}, small(), counter()} {
		inner := lay(x).bytes
		for kind := range 256 {
			if kind != 1 {
				refused(t, "another kind", seal(byte(kind), inner), api.ErrForm)
			}
		}
		good := seal(1, inner)
		for _, behind := range [][]byte{{0}, {1}, make([]byte, 4), make([]byte, 1000), good} {
			refused(t, "bytes behind", slices.Concat(good, behind), api.ErrForm)
		}
		refused(t, "a byte ahead", slices.Concat([]byte{0}, good), api.ErrForm)
		// A sum that is right leaves the other parts of the seal to refuse.
		for at := range 8 {
			for _, turn := range []byte{1, 2, 0x80, 0xff} {
				b := slices.Clone(good[:len(good)-4])
				b[at] ^= turn
				refused(t, "a head turned", binary.LittleEndian.AppendUint32(b, crc32.ChecksumIEEE(b)), api.ErrForm)
			}
		}
		sum := slices.Clone(good)
		slices.Reverse(sum[len(sum)-4:])
		refused(t, "a sum with its highest byte first", sum, api.ErrForm)
		refused(t, "the body alone", inner, api.ErrForm)
		refused(t, "a seal in a seal", seal(1, good), api.ErrForm)
	}
}

// TestP9_2_Body: sealed bytes that are the body of no image.
func TestP9_2_Body(t *testing.T) {
	for _, x := range []api.Image{{}, small(), counter()} {
		inner := lay(x).bytes
		for n := range inner {
			refused(t, "a body cut short", seal(1, inner[:n]), api.ErrForm)
		}
		for _, behind := range []int{1, 2, 4, 8, 36, 41, 1000} {
			refused(t, "bytes behind the channels", seal(1, slices.Concat(inner, make([]byte, behind))), api.ErrForm)
		}
		refused(t, "a byte ahead of the partitions", seal(1, slices.Concat([]byte{0}, inner)), api.ErrForm)
	}
}

// TestP9_2_Flags: a flag is 0 or 1, wherever one stands.
func TestP9_2_Flags(t *testing.T) {
	alone := func(set func(x *api.Image)) int {
		x, y := counter(), counter()
		set(&y)
		a, b := lay(x).bytes, lay(y).bytes
		at := -1
		for i := range a {
			if a[i] != b[i] {
				at = i
			}
		}
		return at
	}
	flags := map[string]int{
		"Auto":       alone(func(x *api.Image) { x.Parts[0].Procs[0].Auto = false }),
		"Auto, last": alone(func(x *api.Image) { x.Parts[0].Procs[2].Auto = false }),
		"Event":      alone(func(x *api.Image) { x.Parts[0].Events[0] = false }),
		"last Event": alone(func(x *api.Image) { x.Parts[0].Events[4] = false }),
		"Out":        alone(func(x *api.Image) { x.Ports[0].Out = false }),
		"Out, last":  alone(func(x *api.Image) { x.Ports[1].Out = true }),
	}
	for name, at := range flags {
		for value := range 256 {
			inner := lay(counter()).bytes
			inner[at] = byte(value)
			if value > 1 {
				refused(t, name, seal(1, inner), api.ErrForm)
			} else if _, err := image.Decode(seal(1, inner)); err != api.OK {
				t.Errorf("%s of %d is refused: %d", name, value, err)
			}
		}
	}
}

// TestP9_2_Counts: a list's number that is greater than what lies behind it is of the wrong form, however great it is.
func TestP9_2_Counts(t *testing.T) {
	for _, l := range lists() {
		x, y := small(), small()
		l.set(&y, 1)
		a, b := lay(x).bytes, lay(y).bytes
		at := 0
		for a[at] == b[at] {
			at++
		}
		at -= 3
		for _, n := range []uint32{3, 100, 1048575, 1048576, 1048577, 1 << 24, 2000000000, math.MaxInt32, 1 << 31, math.MaxUint32} {
			inner := slices.Clone(a)
			binary.BigEndian.PutUint32(inner[at:], n)
			refused(t, l.name, seal(1, inner), api.ErrForm)
			refused(t, l.name+", and nothing behind", seal(1, inner[:at+4]), api.ErrForm)
			// As many bytes behind it as the number says, but elements of more bytes than one.
			if n <= 100 && l.wide > 1 {
				refused(t, l.name+", and as many bytes", seal(1, append(inner[:at+4], make([]byte, n)...)), api.ErrForm)
			}
		}
	}
}

// TestP9_2_Long: bytes above the bound are too long, whatever they are.
func TestP9_2_Long(t *testing.T) {
	refused(t, "1048576 bytes of no image", make([]byte, 1048576), api.ErrForm)
	x := small()
	pad(&x, 1048576)
	good := sealed(x)
	told(t, "1048576 bytes of an image", x)
	refused(t, "1048576 bytes of another kind", seal(2, lay(x).bytes), api.ErrForm)
	refused(t, "an image's 1048576 bytes and one behind", append(slices.Clone(good), 0), api.ErrLong)
	refused(t, "an image's 1048576 bytes less one", good[:len(good)-1], api.ErrForm)
	for _, n := range []int{1048577, 1048578, 1<<22 + 12, 1<<22 + 13} {
		refused(t, "many bytes", make([]byte, n), api.ErrLong)
		pad(&x, n)
		refused(t, "an image of many bytes", sealed(x), api.ErrLong)
	}
}

// TestP9_2_Spoiled: bodies of a fixed seed with some bytes spoiled, beside the second reading; what is read is told again as it was.
func TestP9_2_Spoiled(t *testing.T) {
	r := rand.New(rand.NewPCG(9, 2))
	good, wrong := 0, 0
	for range 20000 {
		inner := lay(draw(r)).bytes
		for range 1 + r.IntN(2) {
			at := r.IntN(len(inner))
			switch r.IntN(4) {
			case 0:
				inner[at] = byte(r.Uint32())
			case 1:
				inner[at] ^= 1
			case 2:
				inner = slices.Delete(inner, at, min(len(inner), at+1+r.IntN(8)))
			case 3:
				inner = slices.Insert(inner, at, make([]byte, 1+r.IntN(8))...)
			}
			if len(inner) == 0 {
				break
			}
		}
		b := seal(1, inner)
		x, ok := parse(inner)
		if !ok {
			wrong++
			refused(t, "spoiled", b, api.ErrForm)
			continue
		}
		good++
		told(t, "spoiled", x)
		if !bytes.Equal(sealed(x), b) {
			t.Fatalf("the second reading has two forms of %+v", x)
		}
	}
	if good < 1000 || wrong < 1000 {
		t.Fatalf("%d are good, %d wrong", good, wrong)
	}
}

// TestP9_3_Sections: with and without partitions, ports and channels.
func TestP9_3_Sections(t *testing.T) {
	part, port, channel := make([]api.Part, 1), make([]api.Port, 1), make([]api.Channel, 1)
	table := []struct {
		x    api.Image
		want []int
	}{
		{api.Image{}, []int{8, 12, 16}},
		{api.Image{Channels: channel}, []int{8, 12, 16}},
		{api.Image{Ports: port}, []int{8, 12, 57}},
		{api.Image{Ports: port, Channels: channel}, []int{8, 12, 57}},
		{api.Image{Parts: part}, []int{8, 156, 160}},
		{api.Image{Parts: part, Channels: channel}, []int{8, 156, 160}},
		{api.Image{Parts: part, Ports: port}, []int{8, 156, 201}},
		{api.Image{Parts: make([]api.Part, 2), Ports: make([]api.Port, 3), Channels: channel}, []int{8, 300, 427}},
	}
	for i, c := range table {
		b, _ := image.Encode(c.x)
		if s, err := image.Sections(b); !slices.Equal(s, c.want) || err != api.OK {
			t.Errorf("case %d: Sections = %v, %d, want %v", i, s, err, c.want)
		}
		told(t, "sections", c.x)
	}
}

// TestP9_4_Spoiled: no image of which a bit is turned is read, and no proper beginning of one.
func TestP9_4_Spoiled(t *testing.T) {
	for _, x := range []api.Image{{}, small(), counter()} {
		b, err := image.Encode(x)
		if err != api.OK {
			t.Fatal(err)
		}
		for bit := range 8 * len(b) {
			b[bit/8] ^= 1 << (bit % 8)
			refused(t, "a bit turned", b, api.ErrForm)
			b[bit/8] ^= 1 << (bit % 8)
		}
		for n := range b {
			refused(t, "a beginning", b[:n], api.ErrForm)
		}
		if y, err := image.Decode(b); !same(x, y) || err != api.OK {
			t.Errorf("as it was: %+v, %d", y, err)
		}
	}
}

// TestP9_4_BackAndForth: what was told is read, and what was read is told.
func TestP9_4_BackAndForth(t *testing.T) {
	r := rand.New(rand.NewPCG(9, 3))
	seen := map[string]api.Image{}
	for range 500 {
		x := draw(r)
		b, err := image.Encode(x)
		y, also := image.Decode(b)
		if err != api.OK || also != api.OK || !same(x, y) {
			t.Fatalf("%+v is read as %+v (%d, %d)", x, y, err, also)
		}
		if c, err := image.Encode(y); !bytes.Equal(b, c) || err != api.OK {
			t.Fatalf("% x is told as % x, %d", b, c, err)
		}
		if z, was := seen[string(b)]; was && !same(x, z) {
			t.Fatalf("%+v and %+v have the same bytes", x, z)
		}
		seen[string(b)] = x
	}
}

// roomy is an image whose lists are cut out of longer ones, with something in their spare room.
func roomy() (x, whole api.Image) {
	whole = counter()
	p := &whole.Parts[0]
	p.Init = append(p.Init, 1, 2)
	whole.Parts = append(whole.Parts, counter().Parts[0])
	x = whole
	x.Parts = slices.Clone(whole.Parts)[:1]
	q := &x.Parts[0]
	q.Init, q.Code, q.Procs, q.Sems, q.Events, q.Buffers = q.Init[:1], q.Code[:1], q.Procs[:1], q.Sems[:1], q.Events[:1], q.Buffers[:1]
	x.Ports = x.Ports[:1]
	x.Channels = slices.Clone(whole.Channels)[:2]
	x.Channels[1].To = x.Channels[1].To[:0]
	return x, whole
}

// deep is a copy that shares nothing.
func deep(x api.Image) api.Image { return plain(x) }

// TestRules_Arguments: what is handed in stays as it is, its spare room too.
func TestRules_Arguments(t *testing.T) {
	x, whole := roomy()
	was, all := deep(x), deep(whole)
	b, err := image.Encode(x)
	if err != api.OK || !same(x, was) || !same(whole, all) {
		t.Errorf("Encode changed its image (%d)", err)
	}
	if !bytes.Equal(b, sealed(was)) {
		t.Errorf("Encode = % x", b)
	}
	spare := append(slices.Clone(b), 1, 2, 3, 4, 5, 6, 7, 8)
	for _, n := range []int{len(b), len(b) - 1, 20, 0} {
		copied := slices.Clone(spare)
		image.Decode(copied[:n])
		image.Sections(copied[:n])
		if !bytes.Equal(copied, spare) {
			t.Errorf("the bytes are changed")
		}
	}
}

// scribble writes over all of a value, and over the spare room of its lists.
func scribble(v reflect.Value) {
	switch v.Kind() {
	case reflect.Struct:
		for i := range v.NumField() {
			scribble(v.Field(i))
		}
	case reflect.Array:
		for i := range v.Len() {
			scribble(v.Index(i))
		}
	case reflect.Slice:
		v.SetLen(v.Cap())
		for i := range v.Len() {
			scribble(v.Index(i))
		}
	case reflect.Bool:
		v.SetBool(!v.Bool())
	case reflect.Uint8:
		v.SetUint(v.Uint() ^ 0xff)
	default:
		v.SetInt(^v.Int())
	}
}

// pieces is the memory of each list in a value, spare room included, by its first and its last byte.
func pieces(v reflect.Value, found *[][2]uintptr) {
	switch v.Kind() {
	case reflect.Struct:
		for i := range v.NumField() {
			pieces(v.Field(i), found)
		}
	case reflect.Slice:
		if v.Cap() == 0 {
			return
		}
		begin := v.Pointer()
		*found = append(*found, [2]uintptr{begin, begin + uintptr(v.Cap())*v.Type().Elem().Size() - 1})
		for i := range v.Len() {
			pieces(v.Index(i), found)
		}
	}
}

// TestRules_Answers: what was told is shared with nobody.
func TestRules_Answers(t *testing.T) {
	x, _ := roomy()
	was := deep(x)
	want := sealed(was)
	b, _ := image.Encode(x)
	again, _ := image.Encode(x)
	y, _ := image.Decode(b)
	z, _ := image.Decode(b)
	s, _ := image.Sections(b)
	u, _ := image.Sections(b)

	var found [][2]uintptr
	for _, v := range []any{x, b, again, y, z, s, u} {
		pieces(reflect.ValueOf(v), &found)
	}
	for i, a := range found {
		for _, c := range found[:i] {
			if a[0] <= c[1] && c[0] <= a[1] {
				t.Errorf("two lists share memory")
			}
		}
	}

	scribble(reflect.ValueOf(&x).Elem())
	if !bytes.Equal(b, want) || !bytes.Equal(again, want) {
		t.Errorf("the bytes change with the image")
	}
	scribble(reflect.ValueOf(&b).Elem())
	if !bytes.Equal(again, want) || !same(y, was) || !same(z, was) {
		t.Errorf("what was told changes with the bytes")
	}
	scribble(reflect.ValueOf(&y).Elem())
	if !same(z, was) || !bytes.Equal(again, want) {
		t.Errorf("one image changes with the other")
	}
	scribble(reflect.ValueOf(&s).Elem())
	if !slices.Equal(u, sections(was)) {
		t.Errorf("the places change with the others")
	}
	told(t, "anew", was)
}
