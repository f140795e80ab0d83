package flow_test

import (
	"fmt"
	"reflect"
	"slices"
	"strings"
	"testing"

	"bulkhead/api"
	"bulkhead/flow"
)

// alikes wants Alike's answers for the partitions from 1 on, both ways round.
func alikes(t *testing.T, what string, a, b api.Image, want ...bool) {
	t.Helper()
	for i, is := range want {
		if got, err := flow.Alike(a, b, i+1); got != is || err != api.OK {
			t.Errorf("P24.4: %s: Alike(%d) = %v, %d, want %v", what, i+1, got, err, is)
		}
		if got, err := flow.Alike(b, a, i+1); got != is || err != api.OK {
			t.Errorf("P24.4: %s: turned round, Alike(%d) = %v, %d, want %v", what, i+1, got, err, is)
		}
	}
}

func TestP24_4_Examples(t *testing.T) {
	x, y := chapter(), chapter()
	y.Parts[2].Code = []api.Instr{{Op: 1}}
	alikes(t, "other code in 3", x, y, true, true, false)
	alikes(t, "itself", x, x, true, true, true)
}

func TestP24_4_NoPartition(t *testing.T) {
	x := chapter()
	for _, part := range []int{bottom, -1, 0, 4, 5, 1<<32 + 1, top} {
		if is, err := flow.Alike(x, x, part); is || err != api.ErrPart {
			t.Errorf("Alike(%d) = %v, %d", part, is, err)
		}
	}
	if is, err := flow.Alike(api.Image{}, api.Image{}, 1); is || err != api.ErrPart {
		t.Errorf("Alike = %v, %d", is, err)
	}
	// Whether it is a partition is asked of the first image alone.
	longer, shorter := chapter(), chapter()
	longer.Parts = append(longer.Parts, api.Part{})
	shorter.Parts = shorter.Parts[:2]
	for _, c := range []struct {
		a, b api.Image
		part int
		want api.Errno
	}{
		{x, longer, 3, api.OK}, {x, longer, 4, api.ErrPart}, {longer, x, 4, api.OK}, {longer, x, 5, api.ErrPart},
		{x, shorter, 3, api.OK}, {shorter, x, 3, api.ErrPart}, {shorter, x, 1, api.OK}, {x, api.Image{}, 1, api.OK}, {api.Image{}, x, 1, api.ErrPart},
	} {
		if is, err := flow.Alike(c.a, c.b, c.part); is || err != c.want {
			t.Errorf("%d and %d partitions: Alike(%d) = %v, %d", len(c.a.Parts), len(c.b.Parts), c.part, is, err)
		}
	}
}

func TestP24_4_UnlikeNumbers(t *testing.T) {
	x := bootable()
	for what, turn := range map[string]func(x *api.Image){
		"one partition more":        func(x *api.Image) { x.Parts = append(x.Parts, api.Part{}) },
		"the last partition twice":  func(x *api.Image) { x.Parts = append(x.Parts, x.Parts[4]) },
		"one port more":             func(x *api.Image) { x.Ports = append(x.Ports, api.Port{}) },
		"one port less":             func(x *api.Image) { x.Ports = x.Ports[:len(x.Ports)-1] },
		"no ports":                  func(x *api.Image) { x.Ports = nil },
		"one channel more":          func(x *api.Image) { x.Channels = append(x.Channels, api.Channel{}) },
		"one channel less":          func(x *api.Image) { x.Channels = x.Channels[:len(x.Channels)-1] },
		"no channels":               func(x *api.Image) { x.Channels = nil },
		"a partition in the middle": func(x *api.Image) { x.Parts = slices.Insert(x.Parts, 2, api.Part{}) },
	} {
		y := copyOf(x)
		turn(&y)
		alikes(t, what, x, y, false, false, false, false, false)
	}
	y := copyOf(x)
	y.Parts = y.Parts[:4]
	alikes(t, "one partition less", x, y, false, false, false, false)
}

// place is one thing of an image that may be changed: the way to it, and how a copy's is changed.
type place struct {
	path string
	turn func(x *api.Image)
}

// places lists all that can be changed of a value: each number and truth; each list's length, at its end and at its beginning; and the order of its elements.
func places(path string, v reflect.Value, at func(x *api.Image) reflect.Value) []place {
	add := func(what string, turn func(v reflect.Value)) place {
		return place{path + what, func(x *api.Image) { turn(at(x)) }}
	}
	var list []place
	switch v.Kind() {
	case reflect.Struct:
		for i := range v.NumField() {
			list = append(list, places(path+"."+v.Type().Field(i).Name, v.Field(i), func(x *api.Image) reflect.Value { return at(x).Field(i) })...)
		}
	case reflect.Slice:
		list = append(list, lengths(add, v.Len())...)
		fallthrough
	case reflect.Array:
		for i := range v.Len() {
			list = append(list, places(fmt.Sprintf("%s[%d]", path, i), v.Index(i), func(x *api.Image) reflect.Value { return at(x).Index(i) })...)
			if i > 0 && !reflect.DeepEqual(v.Index(i).Interface(), v.Index(i-1).Interface()) {
				list = append(list, add(fmt.Sprintf(", %d and %d the other way", i-1, i), func(v reflect.Value) { reflect.Swapper(v.Slice(0, v.Len()).Interface())(i-1, i) }))
			}
		}
	case reflect.Bool:
		list = append(list, add(" turned", func(v reflect.Value) { v.SetBool(!v.Bool()) }))
	case reflect.Uint8:
		list = append(list, add(" + 1", func(v reflect.Value) { v.SetUint(v.Uint() + 1) }), add(" + 128", func(v reflect.Value) { v.SetUint((v.Uint() + 128) % 256) }))
	default:
		list = append(list, add(" + 1", func(v reflect.Value) { v.SetInt(v.Int() + 1) }), add(" - 1", func(v reflect.Value) { v.SetInt(v.Int() - 1) }))
		if v.Kind() != reflect.Int32 {
			list = append(list, add(" + 2^32", func(v reflect.Value) { v.SetInt(v.Int() + 1<<32) }))
		}
	}
	return list
}

// lengths are the changes of a list's length.
func lengths(add func(what string, turn func(v reflect.Value)) place, n int) []place {
	list := []place{add(", one more", func(v reflect.Value) { v.Set(reflect.Append(v, reflect.Zero(v.Type().Elem()))) })}
	if n > 0 {
		list = append(list,
			add(", the last left out", func(v reflect.Value) { v.Set(v.Slice(0, n-1)) }),
			add(", the first left out", func(v reflect.Value) { v.Set(v.Slice(1, n)) }),
			add(", none", func(v reflect.Value) { v.SetZero() }))
	}
	return list
}

// placesOf lists all that can be changed of an image.
func placesOf(x api.Image) []place {
	return places("", reflect.ValueOf(x), func(x *api.Image) reflect.Value { return reflect.ValueOf(x).Elem() })
}

// counts tells, by the way to it alone, whether a change counts for a partition with these sources.
func counts(path string, sources []int) bool {
	var part int
	if n, _ := fmt.Sscanf(path, ".Parts[%d].", &part); n == 0 || strings.Contains(path, ".Server.") {
		return true
	}
	return slices.Contains(sources, part+1)
}

// Two images that differ in one thing: each field of a server, a port, a channel and a partition, each list in its length, in one element and in one field of an element.
func TestP24_4_OneThingAtATime(t *testing.T) {
	x := bootable()
	x.Channels[4].To = append(x.Channels[4].To, 9, 12)
	want := [][]int{{1}, {1, 2}, {1, 2, 3, 4}, {4}, {5}}
	yes, no := 0, 0
	for _, p := range placesOf(x) {
		y := copyOf(x)
		p.turn(&y)
		if reflect.DeepEqual(x, y) {
			t.Fatalf("%s: there is no difference", p.path)
		}
		for part, sources := range want {
			if part >= len(y.Parts) {
				continue
			}
			is := !counts(p.path, sources)
			if got, err := flow.Alike(x, y, part+1); got != is || err != api.OK {
				t.Errorf("P24.4: %s: Alike(%d) = %v, %d", p.path, part+1, got, err)
			}
			if is {
				yes++
			} else {
				no++
			}
		}
		likens(t, p.path, x, y)
	}
	if yes < 500 || no < 1000 {
		t.Errorf("%d alike, %d not", yes, no)
	}
}

// Changes of several who are no sources, together, count for nothing; one of a source among them counts.
func TestP24_4_AllButTheSources(t *testing.T) {
	x := bootable()
	for part, sources := range [][]int{{1}, {1, 2}, {1, 2, 3, 4}, {4}, {5}} {
		y := copyOf(x)
		for i := range y.Parts {
			if !slices.Contains(sources, i+1) {
				y.Parts[i] = api.Part{Server: y.Parts[i].Server}
			}
		}
		if is, err := flow.Alike(x, y, part+1); !is || err != api.OK {
			t.Errorf("Alike(%d) = %v, %d", part+1, is, err)
		}
		for _, source := range sources {
			z := copyOf(y)
			z.Parts[source-1].Words++
			if is, err := flow.Alike(x, z, part+1); is || err != api.OK {
				t.Errorf("with another %d, Alike(%d) = %v, %d", source, part+1, is, err)
			}
		}
	}
}

// nil and empty lists are the same; what lies in an empty list's room is nothing.
func TestP24_4_NilAndEmpty(t *testing.T) {
	x := image(2, nil, api.Channel{From: 1}, api.Channel{})
	y := image(2, []api.Port{}, api.Channel{From: 1, To: []int{}}, api.Channel{To: make([]int, 0, 4)})
	for i := range y.Parts {
		y.Parts[i] = api.Part{Init: []int64{}, Code: []api.Instr{}, Procs: []api.Proc{}, Sems: []api.Sem{}, Events: make([]bool, 0, 3), Buffers: []api.Buffer{{Size: 1}}[:0]}
	}
	alikes(t, "nil and empty", x, y, true, true)
	x.Channels, y.Channels = nil, []api.Channel{}
	alikes(t, "channels nil and empty", x, y, true, true)
	if is, err := flow.Alike(api.Image{}, api.Image{Parts: []api.Part{}}, 0); is || err != api.ErrPart {
		t.Errorf("%v, %d", is, err)
	}
}

// Whose a change is hangs on the channels of the first image; where the channels are not the same nothing is alike.
func TestP24_4_OtherChannels(t *testing.T) {
	a, b := each(3, road(1, 2)), each(3, road(1, 2), road(3, 2))
	alikes(t, "one has a channel more", a, b, false, false, false)
	b = each(3, road(2, 1))
	alikes(t, "turned round", a, b, false, false, false)
	// Channels that tell the same of the partitions, by other words, are unlike.
	for what, b := range map[string]api.Image{
		"a To twice":      each(3, road(1, 2, 2)),
		"a To of no port": each(3, road(1, 2, 9)),
		"a channel twice": each(3, road(1, 2), road(1, 2)),
		"one from nobody": each(3, road(1, 2), road(0)),
	} {
		if !sameRows(flow.Direct(a), flow.Direct(b)) {
			t.Errorf("%s: other channels", what)
		}
		alikes(t, what, a, b, false, false, false)
	}
	// The same channels in another order are unlike too; so are To's.
	alikes(t, "other order", each(3, road(1, 2), road(2, 3)), each(3, road(2, 3), road(1, 2)), false, false, false)
	alikes(t, "other order of To", each(3, road(1, 2, 3)), each(3, road(1, 3, 2)), false, false, false)
}
