package script_test

import (
	"bytes"
	"math/rand/v2"
	"slices"
	"strconv"
	"strings"
	"testing"

	"bulkhead/api"
	"bulkhead/script"
)

// spoil writes over a list, its spare room too.
func spoil[T any](list []T, with T) {
	list = list[:cap(list)]
	for i := range list {
		list[i] = with
	}
}

// piece is a list cut out of a longer one, with room behind it; and the longer one.
func piece[T any](list []T, around T) ([]T, []T) {
	whole := append([]T{around, around}, list...)
	whole = append(whole, around, around, around)
	return whole[2 : 2+len(list)], whole
}

// handed are inputs, each list of which is cut out of a longer one; and the longer ones.
type handed struct {
	inputs []api.Input
	whole  []api.Input
	data   [][]int64
}

func handIn(inputs []api.Input) *handed {
	h := &handed{}
	var list []api.Input
	for _, x := range inputs {
		data, whole := piece(x.Data, -5)
		x.Data = data
		list, h.data = append(list, x), append(h.data, whole)
	}
	h.inputs, h.whole = piece(list, wake(2, 2))
	return h
}

// is tells whether all of it is as another one is.
func (h *handed) is(other *handed) bool {
	return same(h.whole, other.whole) && slices.EqualFunc(h.data, other.data, slices.Equal)
}

func (h *handed) spoil() {
	for _, data := range h.data {
		spoil(data, 66)
	}
	spoil(h.whole, message(4, 4, 4))
}

// samples are lists of inputs of all sorts.
func samples() map[string][]api.Input {
	list := map[string][]api.Input{}
	for what, inputs := range sorts() {
		list[what] = inputs
	}
	for line, x := range linesByHand() {
		list[line] = []api.Input{x, wake(5, 5), x}
	}
	r := rand.New(rand.NewPCG(21, 14))
	for i := range 200 {
		list["by chance "+strconv.Itoa(i)] = listOf(r, 9, anyInput)
		list["lined "+strconv.Itoa(i)] = listOf(r, 9, linedInput)
		list["risen "+strconv.Itoa(i)] = risen(r, 9, linedInput)
	}
	return list
}

// linesOf is the text of those inputs that are lined.
func linesOf(inputs []api.Input) []byte {
	var text strings.Builder
	for _, x := range inputs {
		if line, ok := lineOf(x); ok {
			text.WriteString(line + "\n")
		}
	}
	return []byte(text.String())
}

// answers are what the calls that answer inputs tell of some inputs, of their bytes and of their lines.
func answers(inputs []api.Input, b, text []byte) map[string][]api.Input {
	half := len(inputs) / 2
	list := map[string][]api.Input{
		"Merge":             script.Merge(inputs[:half], inputs[half:]),
		"Merge with itself": script.Merge(inputs, inputs),
		"Merge with none":   script.Merge(inputs, nil),
		"Merge of none":     script.Merge(nil, inputs),
		"Cut":               script.Cut(inputs, 0, api.MaxTick),
		"Cut of few":        script.Cut(inputs, 1, 9),
	}
	list["Decode"], _ = script.Decode(b)
	list["Read"], _, _ = script.Read(text)
	return list
}

func sameAnswers(a, b map[string][]api.Input) string {
	for what := range a {
		if !same(a[what], b[what]) {
			return what
		}
	}
	return ""
}

// TestArgumentsAreLeft: what is handed in is left as it is, its lists' spare room too; and what stands in the spare room counts for nothing.
func TestArgumentsAreLeft(t *testing.T) {
	for what, inputs := range samples() {
		h := handIn(inputs)
		b, bWhole := piece(bytesOf(inputs), 7)
		text, textWhole := piece(linesOf(inputs), '\n')
		bBefore, textBefore := bytes.Clone(bWhole), bytes.Clone(textWhole)
		encodes(t, what, h.inputs)
		for _, x := range h.inputs {
			shows(t, x)
		}
		want := answers(inputs, bytesOf(inputs), linesOf(inputs))
		if call := sameAnswers(want, answers(h.inputs, b, text)); call != "" {
			t.Errorf("%s: %s hangs on what lies behind a list", what, call)
		}
		if !h.is(handIn(inputs)) || !bytes.Equal(bWhole, bBefore) || !bytes.Equal(textWhole, textBefore) {
			t.Errorf("%s: what was handed in has changed", what)
		}
		// Refusals leave it as it is too.
		script.Decode(b[:len(b)-1])
		script.Read(append(bytes.Clone(text), 'x'))
		script.Read(text[:max(0, len(text)-2)])
		if !h.is(handIn(inputs)) || !bytes.Equal(bWhole, bBefore) || !bytes.Equal(textWhole, textBefore) {
			t.Errorf("%s: what was handed in has changed by a refusal", what)
		}
	}
}

// TestNothingIsKept: what was told does not change with what it was told of.
func TestNothingIsKept(t *testing.T) {
	for what, inputs := range samples() {
		h := handIn(inputs)
		b, text := bytesOf(inputs), linesOf(inputs)
		want := answers(inputs, bytesOf(inputs), linesOf(inputs))
		got := answers(h.inputs, b, text)
		told, err := script.Encode(h.inputs)
		h.spoil()
		spoil(b, 0xee)
		spoil(text, '!')
		if call := sameAnswers(want, got); call != "" {
			t.Errorf("%s: what %s has told changes with what was handed in", what, call)
		}
		if wantTold, wantErr := encodeOf(inputs); !bytes.Equal(told, wantTold) || err != wantErr {
			t.Errorf("%s: what Encode has told changes with what was handed in", what)
		}
	}
}

// TestAnswersAreNew: what was told may be written over, spare room too: neither what was handed in nor what is told else, before or later, changes; no two lists of one answer share memory.
func TestAnswersAreNew(t *testing.T) {
	for what, inputs := range samples() {
		h := handIn(inputs)
		b, text := bytesOf(inputs), linesOf(inputs)
		want := answers(inputs, bytesOf(inputs), linesOf(inputs))
		first, second := answers(h.inputs, b, text), answers(h.inputs, b, text)
		for call, list := range first {
			for i := range list {
				spoil(list[i].Data, -77)
				// Those that are not yet written over are as they were.
				if later := list[i+1:]; !same(later, want[call][i+1:]) {
					t.Fatalf("%s: %s: one list lies in another's memory", what, call)
				}
			}
			for i, x := range list {
				if slices.ContainsFunc(x.Data, func(n int64) bool { return n != -77 }) || len(x.Data) != len(want[call][i].Data) {
					t.Fatalf("%s: %s: one list lies in another's memory: %v", what, call, x)
				}
			}
			spoil(list, message(-77, -77, -77))
		}
		if call := sameAnswers(want, second); call != "" {
			t.Errorf("%s: an answer of %s has changed", what, call)
		}
		if call := sameAnswers(want, answers(h.inputs, b, text)); call != "" {
			t.Errorf("%s: a later answer of %s is another", what, call)
		}
		if !h.is(handIn(inputs)) || !bytes.Equal(b, bytesOf(inputs)) || !bytes.Equal(text, linesOf(inputs)) {
			t.Errorf("%s: an answer lies in what was handed in", what)
		}
		for call, list := range first {
			if slices.ContainsFunc(list[:cap(list)], func(x api.Input) bool { return !sameInput(x, message(-77, -77, -77)) }) {
				t.Errorf("%s: an answer of %s is written into", what, call)
			}
		}
	}
}

// TestBytesAreNew: the same of the bytes that Encode tells.
func TestBytesAreNew(t *testing.T) {
	for what, inputs := range samples() {
		h := handIn(inputs)
		want, _ := encodeOf(inputs)
		first, _ := script.Encode(h.inputs)
		second, _ := script.Encode(h.inputs)
		spoil(first, 0xee)
		third, _ := script.Encode(h.inputs)
		if !bytes.Equal(second, want) || !bytes.Equal(third, want) || !h.is(handIn(inputs)) {
			t.Errorf("%s: the bytes lie in memory that is used else", what)
		}
		if slices.ContainsFunc(first[:cap(first)], func(b byte) bool { return b != 0xee }) {
			t.Errorf("%s: the bytes are written into", what)
		}
	}
}

// TestDataOfOneMemory: inputs that share their data with each other are told as ones that share nothing.
func TestDataOfOneMemory(t *testing.T) {
	data := []int64{1, 2, 3, 4}
	inputs := []api.Input{message(1, 1, data[:2]...), message(1, 2, data...), message(2, 1, data[1:3]...), message(3, 1, data...)}
	for call, list := range answers(inputs, bytesOf(inputs), linesOf(inputs)) {
		want := answers(inputs, bytesOf(inputs), linesOf(inputs))[call]
		for i := range list {
			spoil(list[i].Data, -77)
			if !same(list[i+1:], want[i+1:]) {
				t.Fatalf("%s: one list lies in another's memory: %v", call, list)
			}
		}
	}
	if !slices.Equal(data, []int64{1, 2, 3, 4}) {
		t.Errorf("the data are %v", data)
	}
}

// TestNilAndEmpty: nil and empty lists are the same.
func TestNilAndEmpty(t *testing.T) {
	for what, inputs := range samples() {
		empty, none := []api.Input{}, []api.Input(nil)
		for _, x := range inputs {
			y := x
			y.Data = append([]int64{}, x.Data...)
			empty = append(empty, y)
			if len(x.Data) == 0 {
				x.Data = nil
			}
			none = append(none, x)
		}
		a, aErr := script.Encode(empty)
		b, bErr := script.Encode(none)
		if !bytes.Equal(a, b) || aErr != bErr {
			t.Errorf("%s: Encode: %d and %d", what, aErr, bErr)
		}
		if call := sameAnswers(answers(empty, a, linesOf(empty)), answers(none, b, linesOf(none))); call != "" {
			t.Errorf("%s: %s", what, call)
		}
		for i := range empty {
			line, ok := script.Show(empty[i])
			if other, otherOK := script.Show(none[i]); line != other || ok != otherOK {
				t.Errorf("%s: Show: %q, %v and %q, %v", what, line, ok, other, otherOK)
			}
		}
	}
	for _, text := range [][]byte{nil, {}} {
		if list, err, number := script.Read(text); len(list) != 0 || err != api.OK || number != 0 {
			t.Errorf("%v, %d, %d", list, err, number)
		}
		if list, err := script.Decode(text); len(list) != 0 || err != api.ErrForm {
			t.Errorf("%v, %d", list, err)
		}
	}
}
