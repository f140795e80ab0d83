package age_test

import (
	"fmt"
	"math/rand/v2"
	"reflect"
	"testing"

	"bulkhead/api"
	"bulkhead/check"
)

// told is a value written out, each field by its name.
func told(v any) string { return fmt.Sprintf("%+v", v) }

// roomy is a copy of an image each list of which is cut out of a longer one; and the longer ones.
func roomy(x api.Image) (api.Image, []reflect.Value) {
	var wholes []reflect.Value
	y := x
	cut(reflect.ValueOf(&y).Elem(), &wholes)
	return y, wholes
}

func cut(v reflect.Value, wholes *[]reflect.Value) {
	switch v.Kind() {
	case reflect.Struct:
		for i := range v.NumField() {
			cut(v.Field(i), wholes)
		}
	case reflect.Slice:
		n := v.Len()
		whole := reflect.MakeSlice(v.Type(), n+5, n+5)
		reflect.Copy(whole.Slice(2, 2+n), v)
		v.Set(whole.Slice(2, 2+n))
		for i := range n {
			cut(v.Index(i), wholes)
		}
		for _, i := range []int{0, 1, n + 2, n + 3, n + 4} {
			fill(whole.Index(i), func() int64 { return 1 }, 2)
		}
		*wholes = append(*wholes, whole)
	}
}

// fill writes over a value: numbers as they are told, lists of so many elements.
func fill(v reflect.Value, number func() int64, length int) {
	switch v.Kind() {
	case reflect.Struct:
		for i := range v.NumField() {
			fill(v.Field(i), number, length)
		}
	case reflect.Array:
		for i := range v.Len() {
			fill(v.Index(i), number, length)
		}
	case reflect.Slice:
		v.Set(reflect.MakeSlice(v.Type(), length, length+1))
		for i := range length {
			fill(v.Index(i), number, length)
		}
	case reflect.Bool:
		v.SetBool(number()%2 != 0)
	case reflect.Uint8:
		v.SetUint(uint64(uint8(number())))
	case reflect.Int32:
		v.SetInt(int64(int32(number())))
	default:
		v.SetInt(number())
	}
}

// around writes lists out with all that lies around them.
func around(wholes []reflect.Value) string {
	s := ""
	for _, whole := range wholes {
		s += told(whole.Interface()) + "\n"
	}
	return s
}

// answersOf are what all calls tell of an image's channels, and of numbers that are none.
func answersOf(x api.Image) []answers {
	var list []answers
	for number := -1; number <= len(x.Channels)+1; number++ {
		for _, ticks := range []int{-1, 0, 1, 20, 21, 1 << 20, api.MaxTick + 1} {
			list = append(list, ask(x, number, ticks))
		}
	}
	return list
}

// samples are images of all sorts.
func samples(t *testing.T) map[string]api.Image {
	list := map[string]api.Image{"nothing": {}, "the chapter's": chapter(), "full": full(), "a road": road(queue(1, true, 9), 7, 3, 5, 3, 9)}
	for what, c := range refused() {
		x := full()
		c.change(&x)
		list[what] = x
	}
	r := rand.New(rand.NewPCG(26, 62))
	for i := range 150 {
		x := anyImage(t, r)
		if r.IntN(3) == 0 {
			x = spoilt(r, x)
		}
		list[fmt.Sprintf("by chance %d", i)] = x
	}
	return list
}

// What is handed in is left as it is, what lies around its lists too; and that counts for nothing.
func TestP26_1_ArgumentsAreLeft(t *testing.T) {
	t.Parallel()
	for what, x := range samples(t) {
		want, before := told(answersOf(x)), told(x)
		y, wholes := roomy(x)
		lying := around(wholes)
		if got := told(answersOf(y)); got != want {
			t.Errorf("%s: what lies around the lists counts: %s, want %s", what, got, want)
		}
		if around(wholes) != lying || told(y) != before || told(x) != before {
			t.Errorf("%s: what was handed in has changed", what)
		}
	}
}

// What was handed in before counts for nothing, and nothing of it is kept.
func TestP26_1_NothingIsKept(t *testing.T) {
	t.Parallel()
	for what, x := range samples(t) {
		y, wholes := roomy(x)
		want := told(answersOf(y))
		for _, whole := range wholes {
			for i := range whole.Len() {
				fill(whole.Index(i), func() int64 { return 3 }, 1)
			}
		}
		answersOf(y)
		if got := told(answersOf(x)); got != want {
			t.Errorf("%s: asked again, it tells %s, want %s", what, got, want)
		}
	}
}

// No call panics, whatever it is given, and each ends.
func TestP26_1_AnythingGoes(t *testing.T) {
	t.Parallel()
	r := rand.New(rand.NewPCG(26, 261))
	number := func() int64 {
		return oneOf(r, 0, 1, 2, 3, 4, 5, 9, -1, -2, 16, 64, 65, 255, 256, 1<<20, 1<<20+1, 1<<31, 1<<32, 1<<40-1, 1<<40, int64(top), int64(bottom))
	}
	for range 3000 {
		var x api.Image
		fill(reflect.ValueOf(&x).Elem(), number, r.IntN(4))
		for _, channel := range someChannels {
			reads(t, "anything", x, channel, int(number()))
		}
	}
	// And sound ones in which one field of a port or of a channel is anything.
	oks, refusals := 0, 0
	for range 4000 {
		x := full()
		one := reflect.ValueOf(oneOf(r, any(&x.Ports[r.IntN(len(x.Ports))]), any(&x.Channels[r.IntN(len(x.Channels))]), any(&x.Parts[r.IntN(2)]))).Elem()
		fill(one.Field(r.IntN(one.NumField())), number, r.IntN(3))
		for channel := range 6 {
			reads(t, told(x), x, channel, int(number()))
		}
		if err, _ := check.Check(x); err == api.OK {
			oks++
		} else {
			refusals++
		}
	}
	if min(oks, refusals) < 500 {
		t.Errorf("%d may be booted, %d may not", oks, refusals)
	}
}
