package rta_test

import (
	"fmt"
	"math/rand/v2"
	"reflect"
	"slices"
	"testing"

	"bulkhead/api"
	"bulkhead/check"
	"bulkhead/rta"
)

// told is a value written out, each field by its name.
func told(v any) string { return fmt.Sprintf("%+v", v) }

// roomy is a copy of an image each list of which is cut out of a longer one; and the longer ones.
func roomy(x api.Image) (api.Image, []reflect.Value) {
	var wholes []reflect.Value
	y := x
	cut(reflect.ValueOf(&y).Elem(), &wholes)
	return y, wholes
}

func cut(v reflect.Value, wholes *[]reflect.Value) {
	switch v.Kind() {
	case reflect.Struct:
		for i := range v.NumField() {
			cut(v.Field(i), wholes)
		}
	case reflect.Slice:
		n := v.Len()
		whole := reflect.MakeSlice(v.Type(), n+5, n+5)
		reflect.Copy(whole.Slice(2, 2+n), v)
		v.Set(whole.Slice(2, 2+n))
		for i := range n {
			cut(v.Index(i), wholes)
		}
		for _, i := range []int{0, 1, n + 2, n + 3, n + 4} {
			fill(whole.Index(i), func() int64 { return 1 }, 2)
		}
		*wholes = append(*wholes, whole)
	}
}

// fill writes over a value: numbers as they are told, lists of so many elements.
func fill(v reflect.Value, number func() int64, length int) {
	switch v.Kind() {
	case reflect.Struct:
		for i := range v.NumField() {
			fill(v.Field(i), number, length)
		}
	case reflect.Array:
		for i := range v.Len() {
			fill(v.Index(i), number, length)
		}
	case reflect.Slice:
		v.Set(reflect.MakeSlice(v.Type(), length, length+1))
		for i := range length {
			fill(v.Index(i), number, length)
		}
	case reflect.Bool:
		v.SetBool(number()%2 != 0)
	case reflect.Uint8:
		v.SetUint(uint64(uint8(number())))
	case reflect.Int32:
		v.SetInt(int64(int32(number())))
	default:
		v.SetInt(number())
	}
}

// around writes lists out with all that lies around them.
func around(wholes []reflect.Value) string {
	s := ""
	for _, whole := range wholes {
		s += told(whole.Interface()) + "\n"
	}
	return s
}

// answersOf are what all calls tell of an image's partitions, and of two numbers that are none.
func answersOf(t *testing.T, x api.Image) []answer {
	t.Helper()
	var list []answer
	for part := range len(x.Parts) + 2 {
		list = append(list, ask(t, "", x, part))
	}
	return list
}

// samples are images of all sorts.
func samples() map[string]api.Image {
	list := map[string]api.Image{
		"nothing":           {},
		"the chapter's":     chapter(3),
		"one that is late":  chapter(4),
		"full":              full(),
		"sixteen":           alone(server(1, 1, 0, 0), many()...),
		"a long code":       withCode(slices.Repeat([]api.Instr{{Op: 27, Imm: 3}}, api.MaxCode)...),
		"the second half":   delayed(proc(5, 5, 4, 1), proc(6, 10, 10, 1)),
		"too long":          alone(server(4, 1, 0, 0), proc(1, 1048573, 1, 1)),
		"another process":   alone(server(4, 1, 0, 0), proc(1, 8, 1, 1), api.Proc{}),
		"several of one":    alone(server(4, 1, 0, 0), proc(1, 8, 1, 1), proc(1, 4, 1, 1)),
		"without processes": alone(server(4, 1, 0, 0)),
	}
	for what, c := range refused() {
		x := full()
		c.change(&x)
		list[what] = x
	}
	r := rand.New(rand.NewPCG(25, 25))
	for i := range 200 {
		x := anyImage(r)
		if r.IntN(3) == 0 {
			x = spoilt(r, x)
		}
		list[fmt.Sprintf("by chance %d", i)] = x
	}
	return list
}

// What is handed in is left as it is, what lies around its lists too; and that counts for nothing.
func TestP25_ArgumentsAreLeft(t *testing.T) {
	t.Parallel()
	for what, x := range samples() {
		want, before := told(answersOf(t, x)), told(x)
		y, wholes := roomy(x)
		lying := around(wholes)
		if got := told(answersOf(t, y)); got != want {
			t.Errorf("%s: what lies around the lists counts: %s, want %s", what, got, want)
		}
		if around(wholes) != lying || told(y) != before || told(x) != before {
			t.Errorf("%s: what was handed in has changed", what)
		}
	}
}

// What was told does not change with what it was told of, and what was handed in before counts for nothing.
func TestP25_NothingIsKept(t *testing.T) {
	t.Parallel()
	for what, x := range samples() {
		y, wholes := roomy(x)
		first := answersOf(t, y)
		want := told(first)
		for _, whole := range wholes {
			for i := range whole.Len() {
				fill(whole.Index(i), func() int64 { return 3 }, 1)
			}
		}
		if got := told(first); got != want {
			t.Errorf("%s: what was told changes with what was handed in", what)
		}
		if got := told(answersOf(t, x)); got != want {
			t.Errorf("%s: asked again, it tells %s, want %s", what, got, want)
		}
	}
}

// Every list that is told is new memory, its spare room too.
func TestP25_AnswersAreNew(t *testing.T) {
	t.Parallel()
	for what, x := range samples() {
		before := told(x)
		first, second := answersOf(t, x), answersOf(t, x)
		want := told(second)
		for i, a := range first {
			list := a.worst[:cap(a.worst)]
			for k := range list {
				list[k] = -77
			}
			for _, b := range first[i+1:] {
				if slices.Contains(b.worst[:cap(b.worst)], -77) {
					t.Errorf("%s: two answers share memory", what)
				}
			}
		}
		if told(second) != want || told(answersOf(t, x)) != want || told(x) != before {
			t.Errorf("%s: an answer lies in another's memory, or in what was handed in", what)
		}
	}
}

// No call panics, whatever it is given, and each ends.
func TestP25_AnythingGoes(t *testing.T) {
	t.Parallel()
	r := rand.New(rand.NewPCG(25, 52))
	number := func() int64 {
		return oneOf(r, 0, 1, 2, 3, 4, 5, 9, 12, 27, -1, -2, 16, 255, 256, 1<<20, 1<<20+1, 1<<31-1, 1<<31, 1<<32, 1<<40-1, 1<<40, int64(top), int64(bottom))
	}
	parts := []int{bottom, bottom + 1, -1, 0, 1, 2, 3, 4, 33, 1 << 32, 1<<32 + 1, top - 1, top}
	for range 3000 {
		var x api.Image
		fill(reflect.ValueOf(&x).Elem(), number, r.IntN(4))
		for _, part := range parts {
			reads(t, told(x), x, part)
		}
	}
	// And sound ones in which one field is anything.
	oks := 0
	for range 2500 {
		x := full()
		p := &x.Parts[r.IntN(3)]
		fields := []reflect.Value{reflect.ValueOf(&p.Server).Elem(), reflect.ValueOf(p).Elem(), reflect.ValueOf(&p.Procs[0]).Elem(), reflect.ValueOf(&p.Code[0]).Elem(), reflect.ValueOf(&x).Elem()}
		one := oneOf(r, fields...)
		fill(one.Field(r.IntN(one.NumField())), number, r.IntN(3))
		for part := range 5 {
			reads(t, told(x), x, part)
		}
		if err, _ := check.Check(x); err == api.OK && rta.Fits(x, 1) == api.OK {
			oks++
		}
	}
	if oks < 200 {
		t.Errorf("%d fit", oks)
	}
}
