package trace_test

import (
	"bytes"
	"math/rand/v2"
	"slices"
	"strconv"
	"strings"
	"testing"

	"bulkhead/api"
	"bulkhead/trace"
)

// spoil writes over a list, its spare room too.
func spoil[T any](list []T, with T) {
	list = list[:cap(list)]
	for i := range list {
		list[i] = with
	}
}

// piece is a list cut out of a longer one, with room behind it; and the longer one.
func piece[T any](list []T, around T) ([]T, []T) {
	whole := append([]T{around, around}, list...)
	whole = append(whole, around, around, around)
	return whole[2 : 2+len(list)], whole
}

// handed are events, each list of which is cut out of a longer one; and the longer ones.
type handed struct {
	events []api.Event
	whole  []api.Event
	data   [][]int64
}

func handIn(events []api.Event) *handed {
	h := &handed{}
	var list []api.Event
	for _, e := range events {
		data, whole := piece(e.Data, -5)
		e.Data = data
		list, h.data = append(list, e), append(h.data, whole)
	}
	h.events, h.whole = piece(list, at(2, 2))
	return h
}

// is tells whether all of it is as another one is.
func (h *handed) is(other *handed) bool {
	return same(h.whole, other.whole) && slices.EqualFunc(h.data, other.data, slices.Equal)
}

func (h *handed) spoil() {
	for _, data := range h.data {
		spoil(data, 66)
	}
	spoil(h.whole, at(4, 4, 4))
}

// samples are lists of events of all sorts, some of which do not go.
func samples() map[string][]api.Event {
	list := map[string][]api.Event{}
	for what, events := range sorts() {
		list[what] = events
	}
	for line, e := range linesByHand() {
		list[line] = []api.Event{e, at(5, 5), e}
	}
	r := rand.New(rand.NewPCG(23, 9))
	for i := range 200 {
		list["by chance "+strconv.Itoa(i)] = listOf(r, 9, anyEvent)
		list["going "+strconv.Itoa(i)] = listOf(r, 9, goingEvent)
		list["risen "+strconv.Itoa(i)] = risen(r, 9, goingEvent)
	}
	return list
}

// answers are what the calls that answer events tell of some events and of their bytes.
func answers(events []api.Event, b []byte) map[string][]api.Event {
	list := map[string][]api.Event{}
	list["Decode"], _ = trace.Decode(b)
	for _, e := range events {
		list["Project "+strconv.Itoa(e.Part)] = trace.Project(events, e.Part)
		line, _ := trace.Show(e)
		read, _ := trace.Read(line)
		list["Read"] = append(list["Read"], read)
	}
	return list
}

func sameAnswers(a, b map[string][]api.Event) string {
	for what := range a {
		if !same(a[what], b[what]) {
			return what
		}
	}
	return ""
}

// verdicts are what the calls that answer no list tell.
func verdicts(events []api.Event) []int {
	half := len(events) / 2
	list := []int{trace.Differ(events, events), trace.Differ(events[:half], events), trace.Differ(events, events[half:])}
	if trace.Valid(events) {
		list = append(list, 1)
	}
	return list
}

// TestP23_1_ArgumentsAreLeft: what is handed in is left as it is, what lies behind its lists too; and what lies there counts for nothing.
func TestP23_1_ArgumentsAreLeft(t *testing.T) {
	for what, events := range samples() {
		h := handIn(events)
		b, bWhole := piece(bytesOf(events), 7)
		bBefore := bytes.Clone(bWhole)
		encodes(t, what, h.events)
		for _, e := range h.events {
			shows(t, e)
		}
		if call := sameAnswers(answers(events, bytesOf(events)), answers(h.events, b)); call != "" {
			t.Errorf("%s: %s hangs on what lies behind a list", what, call)
		}
		if !slices.Equal(verdicts(events), verdicts(h.events)) {
			t.Errorf("%s: Differ or Valid hangs on what lies behind a list", what)
		}
		// Refusals leave it as it is too.
		trace.Decode(b[:len(b)-1])
		trace.Encode(append(h.events[:len(h.events):len(h.events)], api.Event{}))
		if !h.is(handIn(events)) || !bytes.Equal(bWhole, bBefore) {
			t.Errorf("%s: what was handed in has changed", what)
		}
	}
}

// TestP23_1_NothingIsKept: what was told does not change with what it was told of.
func TestP23_1_NothingIsKept(t *testing.T) {
	for what, events := range samples() {
		h, b := handIn(events), bytesOf(events)
		want, got := answers(events, bytesOf(events)), answers(h.events, b)
		told, err := trace.Encode(h.events)
		h.spoil()
		spoil(b, 0xee)
		if call := sameAnswers(want, got); call != "" {
			t.Errorf("%s: what %s has told changes with what was handed in", what, call)
		}
		if wantTold, wantErr := encodeOf(events); !bytes.Equal(told, wantTold) || err != wantErr {
			t.Errorf("%s: what Encode has told changes with what was handed in", what)
		}
	}
}

// TestP23_1_AnswersAreNew: what was told may be written over, spare room too: neither what was handed in nor what is told else, before or later, changes; no two lists of one answer share memory.
func TestP23_1_AnswersAreNew(t *testing.T) {
	mark := at(-77, -77, -77)
	for what, events := range samples() {
		h, b := handIn(events), bytesOf(events)
		want := answers(events, bytesOf(events))
		first, second := answers(h.events, b), answers(h.events, b)
		for call, list := range first {
			for i := range list {
				spoil(list[i].Data, -77)
				// Those that are not yet written over are as they were.
				if !same(list[i+1:], want[call][i+1:]) {
					t.Fatalf("%s: %s: one list lies in another's memory", what, call)
				}
			}
			for i, e := range list {
				if slices.ContainsFunc(e.Data, func(n int64) bool { return n != -77 }) || len(e.Data) != len(want[call][i].Data) {
					t.Fatalf("%s: %s: one list lies in another's memory: %v", what, call, e)
				}
			}
			spoil(list, mark)
		}
		if call := sameAnswers(want, second); call != "" {
			t.Errorf("%s: an answer of %s has changed", what, call)
		}
		if call := sameAnswers(want, answers(h.events, b)); call != "" {
			t.Errorf("%s: a later answer of %s is another", what, call)
		}
		if !h.is(handIn(events)) || !bytes.Equal(b, bytesOf(events)) {
			t.Errorf("%s: an answer lies in what was handed in", what)
		}
		for call, list := range first {
			if slices.ContainsFunc(list[:cap(list)], func(e api.Event) bool { return !sameEvent(e, mark) }) {
				t.Errorf("%s: an answer of %s is written into", what, call)
			}
		}
	}
}

// TestP23_1_BytesAreNew: the same of the bytes that Encode tells.
func TestP23_1_BytesAreNew(t *testing.T) {
	for what, events := range samples() {
		h := handIn(events)
		want, _ := encodeOf(events)
		first, _ := trace.Encode(h.events)
		second, _ := trace.Encode(h.events)
		spoil(first, 0xee)
		third, _ := trace.Encode(h.events)
		if !bytes.Equal(second, want) || !bytes.Equal(third, want) || !h.is(handIn(events)) {
			t.Errorf("%s: the bytes lie in memory that is used else", what)
		}
		if slices.ContainsFunc(first[:cap(first)], func(b byte) bool { return b != 0xee }) {
			t.Errorf("%s: the bytes are written into", what)
		}
	}
}

// TestP23_1_DataOfOneMemory: events that share their data with each other are told as ones that share nothing.
func TestP23_1_DataOfOneMemory(t *testing.T) {
	data := []int64{1, 2, 3, 4}
	events := []api.Event{at(1, 1, data[:2]...), at(1, 1, data...), at(1, 1, data[1:3]...), at(1, 1, data[:0]...), at(2, 1, data...)}
	want := answers(events, bytesOf(events))
	for call, list := range answers(events, bytesOf(events)) {
		for i := range list {
			spoil(list[i].Data, -77)
			if !same(list[i+1:], want[call][i+1:]) {
				t.Fatalf("%s: one list lies in another's memory: %v", call, list)
			}
		}
	}
	if !slices.Equal(data, []int64{1, 2, 3, 4}) {
		t.Errorf("the data are %v", data)
	}
}

// TestP23_1_NilAndEmpty: nil and empty lists are the same.
func TestP23_1_NilAndEmpty(t *testing.T) {
	for what, events := range samples() {
		empty, none := []api.Event{}, []api.Event(nil)
		for _, e := range events {
			full := e
			full.Data = append([]int64{}, e.Data...)
			empty = append(empty, full)
			if len(e.Data) == 0 {
				e.Data = nil
			}
			none = append(none, e)
		}
		a, aErr := trace.Encode(empty)
		b, bErr := trace.Encode(none)
		if !bytes.Equal(a, b) || aErr != bErr {
			t.Errorf("%s: Encode: %d and %d", what, aErr, bErr)
		}
		if call := sameAnswers(answers(empty, a), answers(none, b)); call != "" {
			t.Errorf("%s: %s", what, call)
		}
		if place := trace.Differ(empty, none); place != -1 || !slices.Equal(verdicts(empty), verdicts(none)) {
			t.Errorf("%s: Differ: %d, or Valid", what, place)
		}
		for i := range empty {
			line, ok := trace.Show(empty[i])
			if other, otherOK := trace.Show(none[i]); line != other || ok != otherOK {
				t.Errorf("%s: Show: %q, %v and %q, %v", what, line, ok, other, otherOK)
			}
		}
	}
	for _, b := range [][]byte{nil, {}} {
		if list, err := trace.Decode(b); len(list) != 0 || err != api.ErrForm {
			t.Errorf("%v, %d", list, err)
		}
	}
}

// TestP23_1_ManyAndLong: calls on lists far greater than a seal takes end soon, without a panic.
func TestP23_1_ManyAndLong(t *testing.T) {
	many := slices.Repeat([]api.Event{at(1, 1, 1), {}}, 1<<19)
	if place := trace.Differ(many, slices.Clone(many)); place != -1 {
		t.Errorf("P23.7: %d", place)
	}
	if list := trace.Project(many, 0); len(list) != 1<<19 {
		t.Errorf("P23.6: %d events", len(list))
	}
	if trace.Valid(many) || !trace.Valid(trace.Project(many, 1)) {
		t.Error("P23.8: many events")
	}
	if e, err := trace.Read(strings.Repeat("1 ", 1<<25)); !sameEvent(e, api.Event{}) || err != api.ErrLong {
		t.Errorf("P23.5: %v, %d", e, err)
	}
}
