package report_test

import (
	"fmt"
	"math/rand/v2"
	"reflect"
	"sync"
	"testing"

	"bulkhead/api"
	"bulkhead/check"
	"bulkhead/report"
)

// handed is what is handed in. (Its fields are exported, so that reflect may set them.)
type handed struct {
	Servers []api.Server
	Events  []api.Event
	X       api.Image
}

// answers are what all calls tell.
type answers struct {
	lists [][]int
	texts []string
	errs  []api.Errno
}

func answersOf(h handed) answers {
	var got answers
	for _, span := range [][2]int{{0, 30}, {7, 7}, {25, 1 << 30}, {1 << 39, 1<<39 + 100}, {5, 4}, {-1, 3}, {0, end + 1}, {0, most + 1}} {
		counts, err := report.Used(h.Servers, span[0], span[1])
		line, lineErr := report.Chart(h.Servers, span[0], span[1])
		got.lists = append(got.lists, counts)
		got.texts = append(got.texts, line)
		got.errs = append(got.errs, err, lineErr)
	}
	shares, err := report.Shares(h.Servers)
	text, textErr := report.Text(h.X)
	got.lists = append(got.lists, shares)
	got.texts = append(got.texts, text)
	got.errs = append(got.errs, err, textErr)
	for _, part := range []int{bottom, -1, 0, 1, 2, 3, 33, top} {
		got.lists = append(got.lists, report.Counts(h.Events, part))
	}
	return got
}

// told is a value written out, each field by its name.
func told(v any) string { return fmt.Sprintf("%+v", v) }

// samples are servers, events and images of all sorts.
func samples() map[string]handed {
	list := map[string]handed{}
	r := rand.New(rand.NewPCG(27, 1))
	add := func(what string, servers []api.Server) {
		h := handed{servers, eventsByChance(r, r.IntN(60)), image(servers...)}
		for i := range h.X.Parts {
			h.X.Parts[i].Init = make([]int64, r.IntN(3))
			h.X.Parts[i].Code = make([]api.Instr, r.IntN(3))
			h.X.Parts[i].Buffers = make([]api.Buffer, r.IntN(3))
		}
		h.X.Ports = make([]api.Port, r.IntN(3))
		h.X.Channels = make([]api.Channel, r.IntN(3))
		for i := range h.X.Channels {
			h.X.Channels[i].To = make([]int, r.IntN(3))
		}
		list[what] = h
	}
	for what, servers := range families() {
		add(what, servers)
	}
	for what, row := range refused() {
		add(what, row.list)
	}
	for i := range 100 {
		add(fmt.Sprintf("by chance %d", i), chance(r, 500))
		add(fmt.Sprintf("by chance, of one period %d", i), shared(r, 500))
	}
	return list
}

// roomy is a copy of what is handed in, each list of which is cut out of a longer one; and the longer ones.
func roomy(h handed) (handed, []reflect.Value) {
	var wholes []reflect.Value
	out := h
	cut(reflect.ValueOf(&out).Elem(), &wholes)
	return out, wholes
}

func cut(v reflect.Value, wholes *[]reflect.Value) {
	switch v.Kind() {
	case reflect.Struct:
		for i := range v.NumField() {
			cut(v.Field(i), wholes)
		}
	case reflect.Slice:
		n := v.Len()
		whole := reflect.MakeSlice(v.Type(), n+5, n+5)
		reflect.Copy(whole.Slice(2, 2+n), v)
		v.Set(whole.Slice(2, 2+n))
		for i := range n {
			cut(v.Index(i), wholes)
		}
		for _, i := range []int{0, 1, n + 2, n + 3, n + 4} {
			fill(whole.Index(i), func() int64 { return 1 }, 2)
		}
		*wholes = append(*wholes, whole)
	}
}

// fill writes over a value: numbers as they are told, lists of so many elements.
func fill(v reflect.Value, number func() int64, length int) {
	switch v.Kind() {
	case reflect.Struct:
		for i := range v.NumField() {
			fill(v.Field(i), number, length)
		}
	case reflect.Array:
		for i := range v.Len() {
			fill(v.Index(i), number, length)
		}
	case reflect.Slice:
		v.Set(reflect.MakeSlice(v.Type(), length, length+1))
		for i := range length {
			fill(v.Index(i), number, length)
		}
	case reflect.Bool:
		v.SetBool(number()%2 != 0)
	case reflect.Uint8:
		v.SetUint(uint64(uint8(number())))
	case reflect.Int32:
		v.SetInt(int64(int32(number())))
	default:
		v.SetInt(number())
	}
}

// around writes lists out with all that lies around them.
func around(wholes []reflect.Value) string {
	s := ""
	for _, whole := range wholes {
		s += told(whole.Interface()) + "\n"
	}
	return s
}

// What is handed in is left as it is, what lies around its lists too; and that counts for nothing.
func TestP27_ArgumentsAreLeft(t *testing.T) {
	t.Parallel()
	for what, h := range samples() {
		want, before := told(answersOf(h)), told(h)
		in, wholes := roomy(h)
		lying := around(wholes)
		if got := told(answersOf(in)); got != want {
			t.Errorf("%s: what lies around the lists counts: %s, want %s", what, got, want)
		}
		if around(wholes) != lying || told(in) != before || told(h) != before {
			t.Errorf("%s: what was handed in has changed", what)
		}
	}
}

// What was handed in before counts for nothing, and what was told does not change with it.
func TestP27_NothingIsKept(t *testing.T) {
	t.Parallel()
	for what, h := range samples() {
		in, wholes := roomy(h)
		first := answersOf(in)
		want := told(first)
		for _, whole := range wholes {
			for i := range whole.Len() {
				fill(whole.Index(i), func() int64 { return 3 }, 1)
			}
		}
		answersOf(in)
		if got := told(first); got != want {
			t.Errorf("%s: what was told has changed to %s, was %s", what, got, want)
		}
		if got := told(answersOf(h)); got != want {
			t.Errorf("%s: asked again, it tells %s, want %s", what, got, want)
		}
	}
}

// Every list that is told is new memory, its spare room too.
func TestP27_AnswersAreNew(t *testing.T) {
	t.Parallel()
	for what, h := range samples() {
		first, second := answersOf(h), answersOf(h)
		want, before := told(second), told(h)
		for i, list := range first.lists {
			room := list[:cap(list)]
			for k := range room {
				room[k] = -77
			}
			// Those that are not yet written over stay as they were.
			if got := told(first.lists[i+1:]); got != told(second.lists[i+1:]) {
				t.Fatalf("%s: list %d lies in another's memory: %s", what, i, got)
			}
		}
		if told(second) != want || told(answersOf(h)) != want || told(h) != before {
			t.Errorf("%s: an answer is another's, or kept", what)
		}
	}
}

// Calls side by side tell what each tells alone.
func TestP27_SideBySide(t *testing.T) {
	t.Parallel()
	for _, list := range [][]api.Server{nil, chapter(), many(), split(101, equal(32, 1)...), {a(), a()}} {
		h := handed{list, []api.Event{event(1, 1), event(2, 12)}, image(list...)}
		want := told(answersOf(h))
		got := make([]string, 16)
		var all sync.WaitGroup
		for i := range got {
			all.Add(1)
			go func() {
				defer all.Done()
				got[i] = told(answersOf(h))
			}()
		}
		all.Wait()
		for i := range got {
			if got[i] != want {
				t.Errorf("%v: side by side: %s, want %s", list, got[i], want)
			}
		}
	}
}

// No call panics, whatever it is given, and each ends.
func TestP27_AnythingGoes(t *testing.T) {
	t.Parallel()
	r := rand.New(rand.NewPCG(27, 2))
	number := func() int64 {
		return oneOf(r, 0, 1, 2, 3, 4, 5, 6, 9, 12, -1, -2, 16, 32, 33, 255, 256, 1<<20, 1<<20+1, 1<<31, 1<<32, 1<<40-1, 1<<40, 1<<40+1, int64(top), int64(bottom))
	}
	oks, refusals := 0, 0
	for i := range 20000 {
		var h handed
		fill(reflect.ValueOf(&h).Elem(), number, r.IntN(4))
		if i%2 == 0 { // sound ones, in which one number is anything
			h.Servers = chance(r, 60)
			if len(h.Servers) > 0 {
				one := reflect.ValueOf(&h.Servers[r.IntN(len(h.Servers))]).Elem()
				one.Field(r.IntN(one.NumField())).SetInt(number())
			}
			h.X = image(h.Servers...)
		}
		hyper, err := check.Hyper(h.Servers)
		if err == api.OK {
			oks++
		} else {
			refusals++
		}
		from, below := int(number()), int(number())
		anything(t, h, err, hyper, from, below)
		report.Counts(h.Events, int(number()))
	}
	if min(oks, refusals) < 1000 {
		t.Errorf("%d may be, %d may not", oks, refusals)
	}
}

// anything wants of each call the error of the servers, or of the span, and of none beside it something else.
func anything(t *testing.T, h handed, err api.Errno, hyper, from, below int) {
	t.Helper()
	spanErr, chartErr := err, err
	if err == api.OK && (from < 0 || below < from || below > end) {
		spanErr, chartErr = api.ErrArg, api.ErrArg
	} else if err == api.OK && below-from > most {
		chartErr = api.ErrLong
	}
	counts, gotUsed := report.Used(h.Servers, from, below)
	shares, gotShares := report.Shares(h.Servers)
	line, gotChart := report.Chart(h.Servers, from, below)
	text, gotText := report.Text(h.X)
	_, wantText := check.Hyper(serversOf(h.X))
	if gotUsed != spanErr || gotShares != err || gotChart != chartErr || gotText != wantText {
		t.Fatalf("%v, H %d, %d to %d: %d, %d, %d, %d", h.Servers, hyper, from, below, gotUsed, gotShares, gotChart, gotText)
	}
	if (spanErr == api.OK) != (counts != nil) || (err == api.OK) != (shares != nil) || chartErr != api.OK && line != "" || (wantText == api.OK) != (text != "") {
		t.Fatalf("%v, H %d, %d to %d: %v, %v, %q, %q", h.Servers, hyper, from, below, counts, shares, line, text)
	}
}

func serversOf(x api.Image) []api.Server {
	var list []api.Server
	for _, p := range x.Parts {
		list = append(list, p.Server)
	}
	return list
}
