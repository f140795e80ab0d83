package flow_test

import (
	"fmt"
	"math/rand/v2"
	"reflect"
	"slices"
	"testing"

	"bulkhead/api"
	"bulkhead/flow"
)

// roomy is a copy of a value each list of which is cut out of a longer one; and the longer ones.
func roomy[T any](v T) (T, []reflect.Value) {
	out := copyOf(v)
	var wholes []reflect.Value
	cut(reflect.ValueOf(&out).Elem(), &wholes)
	return out, wholes
}

func cut(v reflect.Value, wholes *[]reflect.Value) {
	switch v.Kind() {
	case reflect.Struct:
		for i := range v.NumField() {
			cut(v.Field(i), wholes)
		}
	case reflect.Slice:
		for i := range v.Len() {
			cut(v.Index(i), wholes)
		}
		n := v.Len()
		whole := reflect.MakeSlice(v.Type(), n+5, n+5)
		reflect.Copy(whole.Slice(2, 2+n), v)
		for _, i := range []int{0, 1, n + 2, n + 3, n + 4} {
			mark(whole.Index(i))
		}
		*wholes = append(*wholes, whole)
		v.Set(whole.Slice(2, 2+n))
	}
}

// mark writes something over a value that would be seen if it were looked at.
func mark(v reflect.Value) {
	switch v.Kind() {
	case reflect.Struct:
		for i := range v.NumField() {
			mark(v.Field(i))
		}
	case reflect.Array:
		for i := range v.Len() {
			mark(v.Index(i))
		}
	case reflect.Slice:
		v.Set(reflect.MakeSlice(v.Type(), 1, 2))
		mark(v.Index(0))
	case reflect.Bool:
		v.SetBool(true)
	case reflect.Uint8:
		v.SetUint(1)
	default:
		v.SetInt(1)
	}
}

// text writes lists out with all that lies around them.
func text(wholes []reflect.Value) string {
	s := ""
	for _, whole := range wholes {
		s += told(whole.Interface()) + "\n"
	}
	return s
}

// answers are what all calls tell of an image, another one, and two lists of inputs.
type answers struct {
	direct, reach [][]bool
	sources       [][]int
	verdicts      []bool
	errs          []api.Errno
	text          string
}

func answersOf(x, y api.Image, a, b []api.Input) answers {
	got := answers{direct: flow.Direct(x), reach: flow.Reach(x), text: flow.Text(x)}
	for part := range len(x.Parts) + 2 {
		sources, err := flow.Sources(x, part)
		alike, alikeErr := flow.Alike(x, y, part)
		inputs, inputsErr := flow.AlikeInputs(x, a, b, part)
		got.sources = append(got.sources, sources)
		got.verdicts = append(got.verdicts, alike, inputs)
		got.errs = append(got.errs, err, alikeErr, inputsErr)
	}
	return got
}

// handed is what is handed in. (Its fields are exported, so that reflect may set them.)
type handed struct {
	X, Y api.Image
	A, B []api.Input
}

// samples are images and inputs of all sorts.
func samples() map[string]handed {
	r := rand.New(rand.NewPCG(24, 1))
	base := script(wake(0, 1), message(1, 4, 5, 6), message(1, 5, 7), wake(2, 5), message(3, 8, 8, 9))
	list := map[string]handed{
		"nothing":       {},
		"the chapter's": {chapter(), chapter(), nil, script(message(1, 3, 1))},
		"crossing":      {crossing(), crossing(), base, base[:2]},
		"bootable":      {bootable(), bootable(), base, turned(r, bootable(), base)},
		"a chain":       {chain(40), chain(40), base, base},
	}
	for i := range 300 {
		x := anyImage(r)
		sources, _ := flow.Sources(x, 1)
		a := few(r, 6, func() api.Input { return anyInput(r, x) })
		list[fmt.Sprintf("by chance %d", i)] = handed{x, turnedOthers(r, x, sources), a, turned(r, x, a)}
	}
	return list
}

// What is handed in is left as it is, what lies around its lists too; and that counts for nothing.
func TestP24_ArgumentsAreLeft(t *testing.T) {
	for what, h := range samples() {
		cutOut, wholes := roomy(h)
		_, before := roomy(h)
		want := told(answersOf(h.X, h.Y, h.A, h.B))
		if is := told(answersOf(cutOut.X, cutOut.Y, cutOut.A, cutOut.B)); is != want {
			t.Errorf("%s: what lies around the lists counts:\n%s\nwant\n%s", what, is, want)
		}
		if text(wholes) != text(before) {
			t.Errorf("%s: what was handed in has changed", what)
		}
	}
}

// What was told does not change with what it was told of.
func TestP24_NothingIsKept(t *testing.T) {
	for what, h := range samples() {
		want := told(answersOf(h.X, h.Y, h.A, h.B))
		in := copyOf(h)
		first := answersOf(in.X, in.Y, in.A, in.B)
		for _, v := range []reflect.Value{reflect.ValueOf(&in.X).Elem(), reflect.ValueOf(&in.Y).Elem()} {
			for i := range v.NumField() {
				for k := range v.Field(i).Len() {
					mark(v.Field(i).Index(k))
				}
			}
		}
		spoil(in.A, api.Input{})
		spoil(in.B, api.Input{})
		if got := told(first); got != want {
			t.Errorf("%s: what was told changes with what was handed in", what)
		}
		// And what was handed in before counts for nothing.
		if got := told(answersOf(h.X, h.Y, h.A, h.B)); got != want {
			t.Errorf("%s: asked again, it tells\n%s\nwant\n%s", what, got, want)
		}
	}
}

// spoil writes over a list, its spare room too.
func spoil[T any](list []T, with T) {
	list = list[:cap(list)]
	for i := range list {
		list[i] = with
	}
}

// spoilRows writes over the rows one by one: those that are not yet written over stay as they were, those that are stay written over.
func spoilRows[T comparable](t *testing.T, what string, rows [][]T, with T) {
	t.Helper()
	var before [][]T
	for _, row := range rows {
		before = append(before, slices.Clone(row))
	}
	for i := range rows {
		if !slices.Equal(rows[i], before[i]) {
			t.Fatalf("%s: row %d lies in another's memory", what, i)
		}
		spoil(rows[i], with)
	}
	for i, row := range rows {
		for _, v := range row[:cap(row)] {
			if v != with {
				t.Fatalf("%s: row %d lies in another's memory", what, i)
			}
		}
	}
}

// Every list that is told is new memory, its spare room too, and no two lists share any.
func TestP24_AnswersAreNew(t *testing.T) {
	for what, h := range samples() {
		want := told(answersOf(h.X, h.Y, h.A, h.B))
		first, second := answersOf(h.X, h.Y, h.A, h.B), answersOf(h.X, h.Y, h.A, h.B)
		before := told(h)
		for _, with := range []bool{true, false} {
			spoilRows(t, what+": Direct", first.direct, with)
			spoilRows(t, what+": Reach", first.reach, with)
		}
		spoilRows(t, what+": Sources", first.sources, -77)
		spoil(first.direct, nil)
		spoil(first.reach, []bool{true})
		if got := told(second); got != want {
			t.Errorf("%s: an answer has changed", what)
		}
		if got := told(answersOf(h.X, h.Y, h.A, h.B)); got != want {
			t.Errorf("%s: a later answer is another", what)
		}
		if told(h) != before {
			t.Errorf("%s: an answer lies in what was handed in", what)
		}
	}
}

// Refusals tell nothing else.
func TestP24_3_4_5_Refusals(t *testing.T) {
	for what, h := range samples() {
		for _, part := range []int{bottom, -1, 0, len(h.X.Parts) + 1, top} {
			sources, err := flow.Sources(h.X, part)
			alike, alikeErr := flow.Alike(h.X, h.X, part)
			inputs, inputsErr := flow.AlikeInputs(h.X, h.A, h.A, part)
			if sources != nil || alike || inputs || err != api.ErrPart || alikeErr != api.ErrPart || inputsErr != api.ErrPart {
				t.Errorf("%s, %d: %v, %d, %v, %d, %v, %d", what, part, sources, err, alike, alikeErr, inputs, inputsErr)
			}
		}
	}
}
