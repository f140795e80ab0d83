package flow_test

import (
	"fmt"
	"math"
	"math/rand/v2"
	"reflect"
	"slices"
	"strings"
	"testing"

	"bulkhead/api"
	"bulkhead/flow"
)

const (
	top    = math.MaxInt
	bottom = math.MinInt
)

// partOf is a second reading of whose a port is: 0, if it is not there.
func partOf(x api.Image, port int) int {
	for i, q := range x.Ports {
		if i+1 == port && 1 <= q.Part && q.Part <= len(x.Parts) {
			return q.Part
		}
	}
	return 0
}

// hasChannel is a second reading of whether a partition has a channel to another.
func hasChannel(x api.Image, from, to int) bool {
	for _, c := range x.Channels {
		if partOf(x, c.From) != from {
			continue
		}
		for _, port := range c.To {
			if partOf(x, port) == to {
				return true
			}
		}
	}
	return false
}

// directOf is a second reading of Direct.
func directOf(x api.Image) [][]bool {
	rows := make([][]bool, len(x.Parts))
	for i := range rows {
		for j := range rows {
			rows[i] = append(rows[i], hasChannel(x, i+1, j+1))
		}
	}
	return rows
}

// reachOf is a second reading of Reach: by way of each partition in turn.
func reachOf(x api.Image) [][]bool {
	rows := directOf(x)
	for i := range rows {
		rows[i][i] = true
	}
	for k := range rows {
		for i := range rows {
			for j := range rows {
				rows[i][j] = rows[i][j] || rows[i][k] && rows[k][j]
			}
		}
	}
	return rows
}

// sourcesOf is a second reading of Sources.
func sourcesOf(x api.Image, part int) ([]int, api.Errno) {
	if part < 1 || part > len(x.Parts) {
		return nil, api.ErrPart
	}
	var list []int
	for i, row := range reachOf(x) {
		if row[part-1] {
			list = append(list, i+1)
		}
	}
	return list, api.OK
}

// textOf is a second reading of Text.
func textOf(x api.Image) string {
	direct, reach, text := directOf(x), reachOf(x), ""
	for i := range direct {
		text += fmt.Sprint(i+1) + " "
		for j := range direct {
			switch {
			case direct[i][j]:
				text += "d"
			case i == j:
				text += "="
			case reach[i][j]:
				text += "r"
			default:
				text += "."
			}
		}
		text += "\n"
	}
	return text
}

// told is a value written out, each field by its name; nil and empty lists look the same.
func told(v any) string { return fmt.Sprintf("%+v", v) }

// alikeOf is a second reading of Alike: what counts of each image is written out.
func alikeOf(a, b api.Image, part int) (bool, api.Errno) {
	sources, err := sourcesOf(a, part)
	if err != api.OK {
		return false, err
	}
	if len(a.Parts) != len(b.Parts) {
		return false, api.OK
	}
	text := func(x api.Image) string {
		s := told(x.Ports) + told(x.Channels)
		for _, p := range x.Parts {
			s += told(p.Server)
		}
		for _, number := range sources {
			s += told(x.Parts[number-1])
		}
		return s
	}
	return text(a) == text(b), api.OK
}

// reachedBy is a second reading of the partitions that an input reaches.
func reachedBy(x api.Image, in api.Input) []int {
	var list []int
	for i := range x.Parts {
		if in.Kind == api.InputWake && in.Target == i+1 {
			list = append(list, i+1)
		}
		for k, c := range x.Channels {
			if in.Kind == api.InputMessage && in.Target == k+1 && slices.ContainsFunc(c.To, func(port int) bool { return partOf(x, port) == i+1 }) {
				list = append(list, i+1)
			}
		}
	}
	return list
}

// alikeInputsOf is a second reading of AlikeInputs: what counts of each list is written out.
func alikeInputsOf(x api.Image, a, b []api.Input, part int) (bool, api.Errno) {
	sources, err := sourcesOf(x, part)
	if err != api.OK {
		return false, err
	}
	text := func(inputs []api.Input) string {
		s := ""
		for _, in := range inputs {
			if slices.ContainsFunc(reachedBy(x, in), func(p int) bool { return slices.Contains(sources, p) }) {
				s += told(in) + "\n"
			}
		}
		return s
	}
	return text(a) == text(b), api.OK
}

// sameRows tells whether two answers of Direct or Reach are the same.
func sameRows(a, b [][]bool) bool {
	return slices.EqualFunc(a, b, slices.Equal)
}

// asked are the numbers at which an image is asked: all partitions, those beside them, and far ones.
func asked(x api.Image) []int {
	list := []int{bottom, bottom + 1, -2, -1, 1 << 32, 1<<32 + 1, top - 1, top}
	for i := range len(x.Parts) + 3 {
		list = append(list, i)
	}
	return list
}

// reads wants the calls on one image to answer as the second reading has it.
func reads(t *testing.T, what string, x api.Image) {
	t.Helper()
	if got, want := flow.Direct(x), directOf(x); !sameRows(got, want) {
		t.Errorf("P24.1: %s: Direct = %v, want %v", what, got, want)
	}
	if got, want := flow.Reach(x), reachOf(x); !sameRows(got, want) {
		t.Errorf("P24.2: %s: Reach = %v, want %v", what, got, want)
	}
	for _, part := range asked(x) {
		got, err := flow.Sources(x, part)
		if want, wantErr := sourcesOf(x, part); !slices.Equal(got, want) || err != wantErr {
			t.Errorf("P24.3: %s: Sources(%d) = %v, %d, want %v, %d", what, part, got, err, want, wantErr)
		}
	}
	if got, want := flow.Text(x), textOf(x); got != want {
		t.Errorf("P24.6: %s: Text is\n%swant\n%s", what, got, want)
	}
}

// likens wants two images to be held against one another as the second reading has it, both ways round.
func likens(t *testing.T, what string, a, b api.Image) {
	t.Helper()
	for _, part := range asked(a) {
		got, err := flow.Alike(a, b, part)
		if want, wantErr := alikeOf(a, b, part); got != want || err != wantErr {
			t.Errorf("P24.4: %s: Alike(%d) = %v, %d, want %v, %d", what, part, got, err, want, wantErr)
		}
		got, err = flow.Alike(b, a, part)
		if want, wantErr := alikeOf(b, a, part); got != want || err != wantErr {
			t.Errorf("P24.4: %s: turned round, Alike(%d) = %v, %d, want %v, %d", what, part, got, err, want, wantErr)
		}
	}
}

// likensInputs wants the same of two lists of inputs.
func likensInputs(t *testing.T, what string, x api.Image, a, b []api.Input) {
	t.Helper()
	for _, part := range asked(x) {
		want, wantErr := alikeInputsOf(x, a, b, part)
		if got, err := flow.AlikeInputs(x, a, b, part); got != want || err != wantErr {
			t.Errorf("P24.5: %s: AlikeInputs(%v, %v, %d) = %v, %d, want %v, %d", what, a, b, part, got, err, want, wantErr)
		}
		if got, err := flow.AlikeInputs(x, b, a, part); got != want || err != wantErr {
			t.Errorf("P24.5: %s: AlikeInputs(%v, %v, %d) = %v, %d, want %v, %d", what, b, a, part, got, err, want, wantErr)
		}
	}
}

// copyOf is a value that shares no memory with another. A list that is nil stays so.
func copyOf[T any](v T) T {
	var out T
	copyInto(reflect.ValueOf(&out).Elem(), reflect.ValueOf(v))
	return out
}

func copyInto(to, from reflect.Value) {
	switch from.Kind() {
	case reflect.Slice:
		if from.IsNil() {
			return
		}
		to.Set(reflect.MakeSlice(from.Type(), from.Len(), from.Len()))
		for i := range from.Len() {
			copyInto(to.Index(i), from.Index(i))
		}
	case reflect.Struct:
		for i := range from.NumField() {
			copyInto(to.Field(i), from.Field(i))
		}
	default:
		to.Set(from)
	}
}

// Images in short.

// ports are ports of these partitions, one each.
func ports(parts ...int) []api.Port {
	var list []api.Port
	for _, part := range parts {
		list = append(list, api.Port{Part: part, Kind: api.Queuing, Size: 1, Depth: 1})
	}
	return list
}

// road is a channel from a port to ports.
func road(from int, to ...int) api.Channel {
	return api.Channel{Kind: api.Queuing, From: from, To: to, Period: 1}
}

// image is an image of so many partitions, with these ports and channels.
func image(parts int, ports []api.Port, roads ...api.Channel) api.Image {
	return api.Image{Parts: make([]api.Part, parts), Ports: ports, Channels: roads}
}

// each is an image of so many partitions, each with one port, of its own number; so a channel's ends are told by partitions.
func each(parts int, roads ...api.Channel) api.Image {
	var own []int
	for i := range parts {
		own = append(own, i+1)
	}
	return image(parts, ports(own...), roads...)
}

// chapter is the image of the chapter's examples.
func chapter() api.Image {
	x := image(3, ports(1, 2, 2, 3), road(1, 2), road(3, 4), road(0, 2))
	x.Ports[0].Out, x.Ports[2].Out = true, true
	return x
}

// Images by chance.

func oneOf[T any](r *rand.Rand, list []T) T { return list[r.IntN(len(list))] }

// few is a list of up to so many elements; nil, or empty, if it has none.
func few[T any](r *rand.Rand, most int, one func() T) []T {
	var list []T
	if r.IntN(2) == 0 {
		list = []T{}
	}
	for range r.IntN(most + 1) {
		list = append(list, one())
	}
	return list
}

// anyPart is a partition of small numbers, so that two are the same at times.
func anyPart(r *rand.Rand) api.Part {
	n := func() int { return r.IntN(2) }
	p := api.Part{Server: api.Server{Period: n(), Priority: n()}, Words: n(), Fixed: n(), Handler: n()}
	p.Init = few(r, 1, func() int64 { return int64(n()) })
	p.Code = few(r, 1, func() api.Instr { return api.Instr{Op: byte(n())} })
	p.Procs = few(r, 1, func() api.Proc { return api.Proc{Entry: n()} })
	p.Sems = few(r, 1, func() api.Sem { return api.Sem{Max: n()} })
	p.Events = few(r, 1, func() bool { return n() == 0 })
	p.Buffers = few(r, 1, func() api.Buffer { return api.Buffer{Size: n()} })
	p.Health[r.IntN(api.Faults)] = n()
	return p
}

// anyImage is an image by chance, whatever it may be: with ports of no partition, channels from and to no port, and ports that stand twice.
func anyImage(r *rand.Rand) api.Image {
	parts := oneOf(r, []int{0, 1, 2, 3, 4, 5, 6, 9, 12})
	beside := func(n int) int {
		if n == 0 || r.IntN(8) == 0 {
			return oneOf(r, []int{-1, 0, n + 1})
		}
		return 1 + r.IntN(n)
	}
	x := api.Image{Parts: few(r, 0, func() api.Part { return api.Part{} })}
	for range parts {
		x.Parts = append(x.Parts, anyPart(r))
	}
	x.Ports = few(r, oneOf(r, []int{3, 14, 20}), func() api.Port {
		return api.Port{Part: beside(parts), Kind: r.IntN(2), Out: r.IntN(2) == 0, Size: r.IntN(2)}
	})
	x.Channels = few(r, oneOf(r, []int{2, 9, 16}), func() api.Channel {
		c := api.Channel{Kind: r.IntN(2), From: beside(len(x.Ports)), Phase: r.IntN(2), Period: r.IntN(2)}
		c.To = few(r, 2, func() int { return beside(len(x.Ports)) })
		return c
	})
	return x
}

// anyInput is an input by chance for an image, whatever it may be.
func anyInput(r *rand.Rand, x api.Image) api.Input {
	in := api.Input{Tick: r.IntN(2), Kind: oneOf(r, []int{api.InputMessage, api.InputMessage, api.InputWake, api.InputWake, 0, 3, -1})}
	in.Target = r.IntN(max(len(x.Parts), len(x.Channels))+3) - 1
	in.Data = few(r, 2, func() int64 { return int64(r.IntN(2)) })
	return in
}

// turned is a list of inputs with one thing done to it by chance.
func turned(r *rand.Rand, x api.Image, inputs []api.Input) []api.Input {
	list := copyOf(inputs)
	i := r.IntN(len(list) + 1)
	switch r.IntN(6) {
	case 0:
		return slices.Insert(list, i, anyInput(r, x))
	case 1:
		if i < len(list) {
			return slices.Delete(list, i, i+1)
		}
	case 2:
		if i+1 < len(list) {
			list[i], list[i+1] = list[i+1], list[i]
		}
	case 3:
		if i < len(list) {
			list[i] = anyInput(r, x)
		}
	case 4:
		if i < len(list) {
			list[i].Tick++
		}
	}
	return list
}

// Every call against the second reading, over many images and inputs, most of which check.Check does not take.
func TestByChance(t *testing.T) {
	t.Parallel()
	paths, alike, inputsAlike := 0, map[bool]int{}, map[bool]int{}
	for seed := range uint64(6000) {
		r := rand.New(rand.NewPCG(24, seed))
		x := anyImage(r)
		what := fmt.Sprintf("seed %d", seed)
		reads(t, what, x)
		paths += strings.Count(flow.Text(x), "r")
		y := copyOf(x)
		for range r.IntN(3) {
			switch {
			case len(y.Parts) > 0 && r.IntN(3) > 0:
				i := r.IntN(len(y.Parts))
				server := y.Parts[i].Server
				y.Parts[i] = anyPart(r)
				if r.IntN(4) > 0 {
					y.Parts[i].Server = server
				}
			case r.IntN(2) == 0:
				y = anyImage(r)
			}
		}
		likens(t, what, x, y)
		a := few(r, 8, func() api.Input { return anyInput(r, x) })
		b := turned(r, x, turned(r, x, a))
		likensInputs(t, what, x, a, b)
		for i := range x.Parts {
			is, _ := flow.Alike(x, y, i+1)
			alike[is]++
			is, _ = flow.AlikeInputs(x, a, b, i+1)
			inputsAlike[is]++
		}
		if t.Failed() {
			t.Fatalf("%s: %+v\n%+v\n%+v\n%+v", what, x, y, a, b)
		}
	}
	if paths < 1000 || min(alike[true], alike[false], inputsAlike[true], inputsAlike[false]) < 1000 {
		t.Errorf("chance has shown %d paths, %v, %v", paths, alike, inputsAlike)
	}
}
