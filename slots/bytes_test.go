package slots_test

import (
	"encoding/binary"
	"hash/crc32"
	"math/rand/v2"
	"slices"
	"testing"

	"bulkhead/api"
	"bulkhead/slots"
)

// The greatest number of slots whose bytes are at most MaxTable: 20 bytes and five a slot.
const most = (api.MaxTable - 20) / 5

// sealed lays a seal around bytes, by a second reading of chapter 2.
func sealed(kind byte, inner []byte) []byte {
	b := append([]byte{'B', 'K', kind, 1}, binary.BigEndian.AppendUint32(nil, uint32(len(inner)))...)
	b = append(b, inner...)
	return binary.LittleEndian.AppendUint32(b, crc32.ChecksumIEEE(b))
}

// innerOf is what stands in the seal, by a second reading, with any numbers of slots.
func innerOf(prologue, cycle uint32, lists ...[]api.Slot) []byte {
	b := binary.BigEndian.AppendUint32(nil, prologue)
	b = binary.BigEndian.AppendUint32(b, cycle)
	for _, list := range lists {
		for _, slot := range list {
			b = append(binary.BigEndian.AppendUint32(b, uint32(slot.Length)), byte(slot.Part))
		}
	}
	return b
}

// told is the bytes of a table, by a second reading.
func told(x api.Table) []byte {
	return sealed(2, innerOf(uint32(len(x.Prologue)), uint32(len(x.Cycle)), x.Prologue, x.Cycle))
}

// hasBytes tells whether the numbers of a table's slots are such as their bytes can hold.
func hasBytes(x api.Table) bool {
	return !slices.ContainsFunc(slices.Concat(x.Prologue, x.Cycle), func(slot api.Slot) bool {
		return slot.Length < 0 || slot.Length >= 1<<32 || slot.Part < 0 || slot.Part > 255
	})
}

func encoded(t *testing.T, x api.Table) []byte {
	t.Helper()
	b, err := slots.Encode(x)
	if err != api.OK {
		t.Fatalf("Encode(%v): %d", x, err)
	}
	return b
}

// refused wants bytes not to be read.
func refused(t *testing.T, what string, b []byte, want api.Errno) {
	t.Helper()
	if x, err := slots.Decode(b); !isEmpty(x) || err != want {
		t.Errorf("%s: %d and %d slots, %d, want %d", what, len(x.Prologue), len(x.Cycle), err, want)
	}
}

// taken wants bytes to be read as this table.
func taken(t *testing.T, what string, b []byte, want api.Table) {
	t.Helper()
	if x, err := slots.Decode(b); !equal(x, want) || err != api.OK {
		t.Errorf("%s: %d and %d slots, %d", what, len(x.Prologue), len(x.Cycle), err)
	}
}

func TestP13_4_EncodeByHand(t *testing.T) {
	want := []byte{'B', 'K', 2, 1, 0, 0, 0, 28, 0, 0, 0, 1, 0, 0, 0, 3, 0, 16, 0, 0, 32, 0, 0, 0, 1, 0, 0, 15, 255, 254, 7, 0, 0, 0, 1, 32}
	sum := crc32.ChecksumIEEE(want)
	want = append(want, byte(sum), byte(sum>>8), byte(sum>>16), byte(sum>>24))
	x := table(part(api.MaxHyper, 32), part(1, 0, api.MaxHyper-2, 7, 1, 32))
	if b := encoded(t, x); !slices.Equal(b, want) {
		t.Errorf("%x, want %x", b, want)
	}
	nobody := []byte{'B', 'K', 2, 1, 0, 0, 0, 18, 0, 0, 0, 1, 0, 0, 0, 1, 0, 0, 0, 1, 0, 0, 0, 0, 1, 0}
	sum = crc32.ChecksumIEEE(nobody)
	nobody = append(nobody, byte(sum), byte(sum>>8), byte(sum>>16), byte(sum>>24))
	if b := encoded(t, made(t, nil)); !slices.Equal(b, nobody) {
		t.Errorf("%x, want %x", b, nobody)
	}
}

func TestP13_4_EncodeAndP13_5_Decode(t *testing.T) {
	forAll(t, 300, func(m reading) {
		b := encoded(t, m.table)
		if !slices.Equal(b, told(m.table)) {
			t.Fatalf("%s %v: %x, want %x", m.what, m.table, b, told(m.table))
		}
		taken(t, m.what, b, m.table)
	})
}

func TestP13_4_TablesThatDoNotGo(t *testing.T) {
	for what, x := range badTables() { // one of them has too many slots for its bytes, too: its form comes first
		if b, err := slots.Encode(x); len(b) != 0 || err != api.ErrForm {
			t.Errorf("%s: %d bytes, %d", what, len(b), err)
		}
	}
}

// No table has just MaxTable bytes: five a slot and twenty are four below it, or one above.
func TestP13_4_BytesOfMaxTable(t *testing.T) {
	half := most / 2
	fits := table(alternating(half), alternating(most-half))
	fits.Cycle[0].Length, fits.Prologue[0].Length = 10, 10+most-2*half
	if b := encoded(t, fits); len(b) != api.MaxTable-4 || !slices.Equal(b, told(fits)) {
		t.Errorf("%d bytes", len(b))
	}
	taken(t, "just below", told(fits), fits)
	beyond := table(alternating(half+1), alternating(most-half))
	beyond.Prologue[0].Length, beyond.Cycle[0].Length = 10, 11
	if len(beyond.Prologue)+len(beyond.Cycle) != most+1 || slots.Valid(beyond) != api.OK {
		t.Fatalf("%d and %d slots, %d", len(beyond.Prologue), len(beyond.Cycle), slots.Valid(beyond))
	}
	if b, err := slots.Encode(beyond); len(b) != 0 || err != api.ErrLong {
		t.Errorf("one slot more: %d bytes, %d", len(b), err)
	}
	if b := told(beyond); len(b) != api.MaxTable+1 {
		t.Errorf("one slot more would be %d bytes", len(b))
	}
	refused(t, "one slot more", told(beyond), api.ErrLong)
	// Longer than the seal takes, too, in one part and in both.
	for what, x := range map[string]api.Table{
		"most slots of all": table(alternating(api.MaxHyper), alternating(api.MaxHyper)),
		"in the prologue":   table(alternating(api.MaxHyper), part(api.MaxHyper, 4)),
		"in the cycle":      table(part(api.MaxHyper, 4), alternating(api.MaxHyper)),
	} {
		if b, err := slots.Encode(x); len(b) != 0 || err != api.ErrLong || slots.Valid(x) != api.OK {
			t.Errorf("%s: %d bytes, %d", what, len(b), err)
		}
	}
	// The table of servers with the most slots is told.
	x := made(t, []api.Server{server(32, 1, 1, 9), server(32*32767, 1, 5, 1)})
	if b := encoded(t, x); len(b) != 20+5*2*(api.MaxRuns+1) {
		t.Errorf("%d bytes", len(b))
	}
	taken(t, "the most slots of servers", encoded(t, x), x)
}

func TestP13_5_Lengths(t *testing.T) {
	refused(t, "nil", nil, api.ErrForm)
	refused(t, "none", []byte{}, api.ErrForm)
	refused(t, "MaxTable bytes", make([]byte, api.MaxTable), api.ErrForm)
	refused(t, "one more", make([]byte, api.MaxTable+1), api.ErrLong)
	refused(t, "as many as a seal has", make([]byte, 1<<22+12), api.ErrLong)
	refused(t, "more than a seal has", make([]byte, 1<<22+13), api.ErrLong)
	// Bytes of just MaxTable, well sealed: four of them belong to no slot.
	half := most / 2
	x := table(alternating(half), alternating(most-half))
	x.Cycle[0].Length, x.Prologue[0].Length = 10, 10+most-2*half
	b := told(x)
	inner := append(slices.Clone(b[8:len(b)-4]), 0, 0, 0, 1)
	full := sealed(2, inner)
	if len(full) != api.MaxTable {
		t.Fatalf("%d bytes", len(full))
	}
	refused(t, "MaxTable bytes, sealed", full, api.ErrForm)
	refused(t, "one more, sealed", sealed(2, append(inner, 7)), api.ErrLong)
}

func TestP13_5_BytesThatAreSpoilt(t *testing.T) {
	for what, x := range tables() {
		b := encoded(t, x)
		for place := range b {
			for bit := range 8 {
				c := slices.Clone(b)
				c[place] ^= 1 << bit
				refused(t, what+", a bit turned", c, api.ErrForm)
			}
		}
		for length := range b {
			refused(t, what+", cut", b[:length], api.ErrForm)
			refused(t, what+", cut ahead", b[len(b)-length:], api.ErrForm)
		}
		for _, more := range [][]byte{{0}, {1}, b[:1], b} {
			refused(t, what+", longer", append(slices.Clone(b), more...), api.ErrForm)
		}
		inner := b[8 : len(b)-4]
		for kind := range 256 {
			if kind != 2 {
				refused(t, what+", of another kind", sealed(byte(kind), inner), api.ErrForm)
			}
		}
		taken(t, what, sealed(2, inner), x)
	}
}

// Bytes that are well sealed, but of no table.
func TestP13_5_WhatIsSealedIsNoTable(t *testing.T) {
	x := chapterTable()
	inner := innerOf(5, 5, x.Prologue, x.Cycle)
	taken(t, "the chapter's", sealed(2, inner), x)
	for length := range inner {
		refused(t, "sealed, cut", sealed(2, inner[:length]), api.ErrForm)
	}
	for more := 1; more < 12; more++ {
		refused(t, "sealed, longer", sealed(2, append(slices.Clone(inner), make([]byte, more)...)), api.ErrForm)
	}
	another := innerOf(0, 0, part(1, 5))[8:]
	refused(t, "sealed, a slot more", sealed(2, slices.Concat(inner, another)), api.ErrForm)
	for _, c := range [][2]uint32{
		{0, 0}, {0, 1}, {0, 10}, {10, 0}, {4, 6}, {6, 4}, {5, 4}, {4, 5}, {5, 6}, {6, 5}, {9, 1}, {1, 9}, {11, 0}, {1 << 31, 5}, {5, 1 << 31},
		{1<<32 - 1, 1<<32 - 1}, {1<<32 - 1, 11}, {11, 1<<32 - 1}, {1<<32 - 5, 15}, {1 << 31, 1<<31 + 10}, {1 << 20, 1 << 20},
	} {
		refused(t, "numbers of slots that are not there", sealed(2, innerOf(c[0], c[1], x.Prologue, x.Cycle)), api.ErrForm)
	}
	for _, c := range [][2]uint32{{0, 0}, {1, 1}, {1<<32 - 1, 1}, {1 << 31, 1 << 31}, {1<<32 - 1, 1<<32 - 1}} {
		refused(t, "no slots at all", sealed(2, innerOf(c[0], c[1])), api.ErrForm)
	}
	for what, bad := range badTables() {
		if len(bad.Prologue) < 1000 && hasBytes(bad) {
			refused(t, what, told(bad), api.ErrForm)
		}
	}
	for _, length := range []int{0, 1<<20 + 1, 1 << 31, 1<<32 - 1} {
		refused(t, "a length", told(table(part(length, 1), part(length, 1))), api.ErrForm)
	}
	for occupant := range 256 {
		x := table(part(2, occupant), part(2, 0))
		if occupant <= api.MaxParts {
			taken(t, "a Part", told(x), x)
		} else {
			refused(t, "a Part", told(x), api.ErrForm)
		}
	}
	great := table(part(api.MaxHyper, 1), part(api.MaxHyper-1, 2, 1, 3))
	taken(t, "MaxHyper", told(great), great)
}

// Of the tables of few and small slots those that go are read, each from its own bytes.
func TestP13_5_OneFormEach(t *testing.T) {
	forms := map[string]bool{}
	r := rand.New(rand.NewPCG(5, 5))
	tables := map[string]api.Table{}
	for range 4000 {
		x := byChance(r, 4)
		b := encoded(t, x)
		if before, ok := tables[string(b)]; ok && !equal(before, x) {
			t.Fatalf("%v and %v are told alike", before, x)
		}
		tables[string(b)] = x
		forms[string(b)] = true
	}
	for form := range forms {
		taken(t, "again", []byte(form), tables[form])
	}
}

// Whatever bytes are handed in, what is read goes, and is told again as these bytes.
func TestP13_7_WhateverBytes(t *testing.T) {
	r := rand.New(rand.NewPCG(9, 2))
	read := 0
	for range 60000 {
		x := byChance(r, 5)
		inner := innerOf(uint32(len(x.Prologue)), uint32(len(x.Cycle)), x.Prologue, x.Cycle)
		for range r.IntN(3) {
			switch r.IntN(5) {
			case 0, 1, 2:
				inner[r.IntN(len(inner))] = byte(r.IntN(5))
			case 3:
				inner[r.IntN(len(inner))] = byte(r.IntN(256))
			case 4:
				inner = append(inner, byte(r.IntN(3)))
			}
		}
		b := sealed(2, inner)
		if r.IntN(20) == 0 {
			b[r.IntN(len(b))] = byte(r.IntN(256))
		}
		y, err := slots.Decode(b)
		if err != api.OK {
			if err != api.ErrForm || !isEmpty(y) {
				t.Fatalf("%x: %v, %d", b, y, err)
			}
			continue
		}
		read++
		if err := slots.Valid(y); err != api.OK {
			t.Fatalf("%x: %v does not go", b, y)
		}
		if again := encoded(t, y); !slices.Equal(again, b) {
			t.Fatalf("%x is told again as %x", b, again)
		}
	}
	if read < 10000 {
		t.Errorf("%d were read", read)
	}
}
