package check_test

import (
	"math/rand/v2"
	"reflect"
	"slices"
	"strconv"
	"testing"

	"bulkhead/api"
	"bulkhead/check"
)

// message is one for channel 3 of the sound image, whose ports have three words.
func message(tick int) api.Input {
	return api.Input{Tick: tick, Kind: api.InputMessage, Target: 3, Data: []int64{-1, 0, 1}}
}

func wake(tick, target int) api.Input {
	return api.Input{Tick: tick, Kind: api.InputWake, Target: target}
}

func TestP10_4_scripts(t *testing.T) {
	x := sound()
	wantScript(t, "no input", x, nil, api.OK, 0)
	wantScript(t, "an empty list", x, []api.Input{}, api.OK, 0)
	wantScript(t, "no input for nobody", api.Image{}, nil, api.OK, 0)
	for _, c := range []struct {
		what string
		in   api.Input
		ok   bool
	}{
		{"a message", message(5), true},
		{"a message at tick 0", message(0), true},
		{"a message at the last tick", message(1<<40 - 1), true},
		{"a message behind it", message(1 << 40), false},
		{"a message at -1", message(-1), false},
		{"a message at the least number", message(bottom), false},
		{"a message at the greatest number", message(top), false},
		{"a sample of 16 words", api.Input{Tick: 5, Kind: 1, Target: 5, Data: make([]int64, 16)}, true},
		{"a sample of 15 words", api.Input{Tick: 5, Kind: 1, Target: 5, Data: make([]int64, 15)}, false},
		{"a sample of 17 words", api.Input{Tick: 5, Kind: 1, Target: 5, Data: make([]int64, 17)}, false},
		{"a message of no words", api.Input{Tick: 5, Kind: 1, Target: 3}, false},
		{"a message of two words", api.Input{Tick: 5, Kind: 1, Target: 3, Data: make([]int64, 2)}, false},
		{"a message of four words", api.Input{Tick: 5, Kind: 1, Target: 3, Data: make([]int64, 4)}, false},
		{"a message of very many words", api.Input{Tick: 5, Kind: 1, Target: 3, Data: make([]int64, 1<<16)}, false},
		{"a channel with a From", api.Input{Tick: 5, Kind: 1, Target: 1, Data: make([]int64, 2)}, false},
		{"a sampling channel with a From", api.Input{Tick: 5, Kind: 1, Target: 4, Data: make([]int64, 2)}, false},
		{"a channel to the outside", api.Input{Tick: 5, Kind: 1, Target: 7, Data: make([]int64, 4)}, false},
		{"channel 0", api.Input{Tick: 5, Kind: 1, Target: 0, Data: make([]int64, 3)}, false},
		{"channel -1", api.Input{Tick: 5, Kind: 1, Target: -1, Data: make([]int64, 3)}, false},
		{"channel 8 of 7", api.Input{Tick: 5, Kind: 1, Target: 8, Data: make([]int64, 3)}, false},
		{"the least channel", api.Input{Tick: 5, Kind: 1, Target: bottom, Data: make([]int64, 3)}, false},
		{"the greatest channel", api.Input{Tick: 5, Kind: 1, Target: top, Data: make([]int64, 3)}, false},
		{"Wake of the first", wake(5, 1), true},
		{"Wake of the last", wake(5, 5), true},
		{"Wake at the last tick", wake(1<<40-1, 3), true},
		{"Wake behind it", wake(1<<40, 3), false},
		{"Wake at -1", wake(-1, 3), false},
		{"Wake of 0", wake(5, 0), false},
		{"Wake of 6 of 5", wake(5, 6), false},
		{"Wake of -1", wake(5, -1), false},
		{"Wake of the least number", wake(5, bottom), false},
		{"Wake of the greatest number", wake(5, top), false},
		{"Wake with an empty list", api.Input{Tick: 5, Kind: 2, Target: 3, Data: []int64{}}, true},
		{"Wake with a word", api.Input{Tick: 5, Kind: 2, Target: 3, Data: make([]int64, 1)}, false},
		{"Wake with a message's words", api.Input{Tick: 5, Kind: 2, Target: 3, Data: make([]int64, 3)}, false},
		{"Kind 0", api.Input{Tick: 5, Kind: 0, Target: 3}, false},
		{"Kind 0 with a message", api.Input{Tick: 5, Kind: 0, Target: 3, Data: make([]int64, 3)}, false},
		{"Kind 3", api.Input{Tick: 5, Kind: 3, Target: 3}, false},
		{"Kind 3 with a message", api.Input{Tick: 5, Kind: 3, Target: 3, Data: make([]int64, 3)}, false},
		{"Kind -1", api.Input{Tick: 5, Kind: -1, Target: 3}, false},
		{"the least Kind", api.Input{Tick: 5, Kind: bottom, Target: 3}, false},
		{"the greatest Kind", api.Input{Tick: 5, Kind: top, Target: 3}, false},
		{"all at the least", api.Input{Tick: bottom, Kind: bottom, Target: bottom}, false},
	} {
		for place := range 5 {
			inputs := []api.Input{wake(0, 1), wake(0, 2), wake(0, 3), wake(0, 4), wake(0, 5)}
			for i := place + 1; i < 5; i++ {
				inputs[i].Tick = 1<<40 - 1
			}
			inputs[place] = c.in
			if c.ok {
				wantScript(t, c.what, x, inputs, api.OK, 0)
			} else {
				wantScript(t, c.what, x, inputs, api.ErrScript, place)
			}
		}
	}
}

func TestP10_4_ticks(t *testing.T) {
	x := sound()
	for place := range 6 {
		for _, tick := range []int{0, 1, 1<<40 - 6} {
			inputs := make([]api.Input, 6)
			for i := range inputs {
				inputs[i] = wake(tick+i, 1+i%5)
				if i%2 == 0 {
					inputs[i] = message(tick + i)
				}
			}
			wantScript(t, "rising ticks", x, inputs, api.OK, 0)
			if place == 0 {
				continue
			}
			inputs[place].Tick = inputs[place-1].Tick
			wantScript(t, "two of one tick", x, inputs, api.OK, 0)
			inputs[place].Tick--
			wantScript(t, "a tick below", x, inputs, api.ErrScript, place)
			inputs[place].Tick = bottom
			wantScript(t, "a tick far below", x, inputs, api.ErrScript, place)
		}
	}
	falls := []api.Input{wake(9, 1), wake(7, 1), wake(8, 1), {Kind: 7}}
	wantScript(t, "several that may not be", x, falls, api.ErrScript, 1)
	falls[1].Tick = 9
	wantScript(t, "ahead is the next, not the least", x, falls, api.ErrScript, 2)
}

func TestP10_4_counts(t *testing.T) {
	x := sound()
	inputs := make([]api.Input, api.MaxInputs)
	for i := range inputs {
		inputs[i] = wake(i/3, 1+i%5)
	}
	wantScript(t, "as many as may be", x, inputs, api.OK, 0)
	inputs[api.MaxInputs-1].Target = 6
	wantScript(t, "a bad one at the end", x, inputs, api.ErrScript, api.MaxInputs-1)
	wantScript(t, "one more", x, append(inputs, wake(1<<30, 1)), api.ErrLong, 0)
	wantScript(t, "one more of what may not be", x, make([]api.Input, api.MaxInputs+1), api.ErrLong, 0)
	wantScript(t, "just as many of what may not be", x, make([]api.Input, api.MaxInputs), api.ErrScript, 0)
	wantScript(t, "too many for nobody", api.Image{}, make([]api.Input, 2*api.MaxInputs), api.ErrLong, 0)
	wantScript(t, "Wake of nobody", api.Image{}, []api.Input{wake(0, 1)}, api.ErrScript, 0)
	wantScript(t, "a message without channels", api.Image{}, []api.Input{message(0)}, api.ErrScript, 0)
}

// Channels from outside at both ends of the list, to ports at both ends of theirs.
func TestP10_4_firstAndLast(t *testing.T) {
	x := sound()
	x.Ports = []api.Port{{Part: 1, Size: 1}, {Part: 2, Kind: api.Queuing, Size: 2, Depth: 1}, {Part: 3, Size: 3}}
	x.Channels = []api.Channel{{To: []int{3}}, {Kind: api.Queuing, To: []int{2}}, {To: []int{1}}}
	wantCheck(t, "channels from outside alone", x, api.OK, 0)
	for target := 1; target <= 3; target++ {
		for words := range 5 {
			in := api.Input{Tick: 5, Kind: api.InputMessage, Target: target, Data: make([]int64, words)}
			if words == 4-target {
				wantScript(t, "a message", x, []api.Input{in}, api.OK, 0)
			} else {
				wantScript(t, "a message of a wrong length", x, []api.Input{in}, api.ErrScript, 0)
			}
		}
	}
}

// someScript is one of mostly good inputs, for an image with channels of the sound one.
func someScript(r *rand.Rand, n, spoiled int) []api.Input {
	tick := 0
	var inputs []api.Input
	for range n {
		tick += r.IntN(3)
		in := chosen(r, message(tick), wake(tick, 1+r.IntN(5)), api.Input{Tick: tick, Kind: 1, Target: 5, Data: make([]int64, 16)})
		if r.IntN(100) < spoiled {
			switch r.IntN(4) {
			case 0:
				in.Data = make([]int64, r.IntN(18))
			case 1:
				in.Target = chosen(r, bottom, -1, 0, 1, 2, 3, 4, 5, 6, 7, 8, top)
			case 2:
				in.Kind = chosen(r, bottom, -1, 0, 1, 2, 3, top)
			default:
				in.Tick = chosen(r, bottom, -1, 0, tick-1, tick, tick+1, 1<<40-1, 1<<40, top)
			}
		}
		inputs = append(inputs, in)
	}
	return inputs
}

func TestP10_4_byChance(t *testing.T) {
	r := rand.New(rand.NewPCG(10, 4))
	x := sound()
	seen := map[api.Errno]int{}
	for range 30000 {
		inputs := someScript(r, r.IntN(12), 15)
		err, place := readScript(x, inputs)
		wantScript(t, "chance", x, inputs, err, place)
		seen[err]++
	}
	if seen[api.OK] < 1000 || seen[api.ErrScript] < 1000 {
		t.Errorf("chance has met few answers: %v", seen)
	}
}

// A beginning of a script that may be may be; of one that may not, those up to the fault may be, and no longer one.
func TestP10_5_beginnings(t *testing.T) {
	r := rand.New(rand.NewPCG(10, 5))
	x := sound()
	for range 2000 {
		inputs := someScript(r, 1+r.IntN(20), chosen(r, 0, 5))
		err, fault := check.Script(x, inputs)
		for n := range len(inputs) + 1 {
			e, place := check.Script(x, inputs[:n])
			if err == api.OK || n <= fault {
				if e != api.OK || place != 0 {
					t.Fatalf("a beginning of %d: %d, %d", n, e, place)
				}
			} else if e != err || place != fault {
				t.Fatalf("a beginning of %d: %d, %d, want %d, %d", n, e, place, err, fault)
			}
		}
	}
}

// somePart is a partition within its own rules, by chance, with these servers.
func somePart(r *rand.Rand, s api.Server) api.Part {
	p := api.Part{Server: s, Words: chosen(r, 0, 1, 4096, r.IntN(4097))}
	p.Fixed = chosen(r, 0, p.Words, r.IntN(p.Words+1))
	p.Init = make([]int64, chosen(r, 0, p.Words, r.IntN(p.Words+1)))
	p.Code = make([]api.Instr, chosen(r, 1, 2, 1024, 1+r.IntN(1024)))
	for i := range p.Code {
		p.Code[i] = api.Instr{Op: byte(r.Uint32()), A: byte(r.Uint32()), Imm: int32(r.Uint32())}
	}
	p.Procs = make([]api.Proc, chosen(r, 1, 2, 16, 1+r.IntN(16)))
	for i := range p.Procs {
		q := &p.Procs[i]
		q.Entry = chosen(r, 0, len(p.Code)-1, r.IntN(len(p.Code)))
		q.Priority = chosen(r, 0, 255, r.IntN(256))
		q.Capacity = chosen(r, 0, 1<<31-1)
		q.Period = chosen(r, 0, 0, 1, 1<<40-1)
		q.Limit = chosen(r, 0, q.Period)
		if q.Period == 0 {
			q.Limit = chosen(r, 0, 0, 1<<40-1)
		}
		q.Auto = r.IntN(2) == 0
		if q.Period == 0 && q.Limit == 0 && !q.Auto && r.IntN(2) == 0 {
			p.Handler = i + 1
		}
	}
	for kind := 1; kind < api.Faults; kind++ {
		p.Health[kind] = r.IntN(6)
	}
	for range chosen(r, 0, 1, 8) {
		most := chosen(r, 1, 1<<31-1)
		p.Sems = append(p.Sems, api.Sem{Start: chosen(r, 0, 1, most), Max: most})
		p.Buffers = append(p.Buffers, api.Buffer{Size: chosen(r, 1, 16), Depth: chosen(r, 1, 64)})
	}
	p.Events = make([]bool, r.IntN(9))
	return p
}

// What a partition holds of its own changes nothing for the whole: the image may be, its scripts too.
func TestP10_5_mixtures(t *testing.T) {
	r := rand.New(rand.NewPCG(5, 10))
	for range 3000 {
		x := sound()
		good, bad := someScript(r, 10, 0), someScript(r, 10, 30)
		err, place := check.Script(x, bad)
		for i := range x.Parts {
			if r.IntN(2) == 0 {
				x.Parts[i] = somePart(r, x.Parts[i].Server)
			}
		}
		wantCheck(t, "a mixture", x, api.OK, 0)
		var list []api.Server
		for _, p := range x.Parts {
			list = append(list, p.Server)
		}
		wantServers(t, "a mixture", list, api.OK, 0)
		wantHyper(t, "a mixture", list, 40, api.OK)
		wantScript(t, "a mixture", x, good, api.OK, 0)
		wantScript(t, "a mixture", x, bad, err, place)
	}
}

// Of every image that may be, the servers may be: Servers and Hyper say so.
func TestP10_5_serversOfImages(t *testing.T) {
	r := rand.New(rand.NewPCG(5, 5))
	sure := 0
	for range 20000 {
		x := sound()
		for range r.IntN(3) {
			spoil(r, &x)
		}
		if err, _ := check.Check(x); err != api.OK {
			continue
		}
		sure++
		var list []api.Server
		for _, p := range x.Parts {
			list = append(list, p.Server)
		}
		wantServers(t, "an image that may be", list, api.OK, 0)
		if hyper, err := check.Hyper(list); err != api.OK || hyper < 1 {
			t.Fatalf("Hyper of an image that may be: %d, %d", hyper, err)
		}
	}
	if sure < 1000 {
		t.Errorf("only %d images may be", sure)
	}
}

// Whatever the image, a script of it is answered; the answer is free, but its place is one of the list.
func TestP10_1_scriptsOfBadImages(t *testing.T) {
	r := rand.New(rand.NewPCG(10, 1))
	for range 40000 {
		x := sound()
		for range 1 + r.IntN(6) {
			spoil(r, &x)
		}
		c := &x.Channels[chosen(r, 2, 4)]
		c.To = chosen(r, nil, []int{}, []int{0}, []int{-1}, []int{17}, []int{bottom}, []int{top}, []int{99, 1}, c.To)
		x.Ports = x.Ports[:r.IntN(len(x.Ports)+1)]
		inputs := someScript(r, 8, 10)
		err, place := check.Script(x, inputs)
		if again, where := check.Script(x, inputs); again != err || where != place {
			t.Fatalf("Script answers %d, %d and then %d, %d", err, place, again, where)
		}
		if err != api.OK && err != api.ErrScript || place < 0 || place >= len(inputs) {
			t.Fatalf("Script of a bad image: %d, %d", err, place)
		}
	}
}

// copied is an image that shares nothing with the other.
func copied(x api.Image) api.Image {
	y := api.Image{Parts: slices.Clone(x.Parts), Ports: slices.Clone(x.Ports), Channels: slices.Clone(x.Channels)}
	for i := range y.Parts {
		p := &y.Parts[i]
		p.Init, p.Code, p.Procs = slices.Clone(p.Init), slices.Clone(p.Code), slices.Clone(p.Procs)
		p.Sems, p.Events, p.Buffers = slices.Clone(p.Sems), slices.Clone(p.Events), slices.Clone(p.Buffers)
	}
	for i := range y.Channels {
		y.Channels[i].To = slices.Clone(y.Channels[i].To)
	}
	return y
}

// roomy is a list with three of the same behind it.
func roomy[T any](list []T, fill T) []T {
	return append(slices.Clone(list), fill, fill, fill)[: len(list) : len(list)+3]
}

// whole is a list with what lies behind it.
func whole[T any](list []T) []T { return list[:cap(list)] }

// roomyImage is the image with spare room behind each of its lists.
func roomyImage(x api.Image) api.Image {
	for i := range x.Parts {
		p := &x.Parts[i]
		p.Init, p.Code, p.Procs = roomy(p.Init, 77), roomy(p.Code, api.Instr{Op: 77}), roomy(p.Procs, api.Proc{Entry: 77})
		p.Sems, p.Events, p.Buffers = roomy(p.Sems, api.Sem{Max: 77}), roomy(p.Events, true), roomy(p.Buffers, api.Buffer{Size: 77})
	}
	for i := range x.Channels {
		x.Channels[i].To = roomy(x.Channels[i].To, 77)
	}
	x.Parts, x.Ports, x.Channels = roomy(x.Parts, api.Part{Words: 77}), roomy(x.Ports, api.Port{Part: 77}), roomy(x.Channels, api.Channel{From: 77})
	return x
}

// wholeImage is a copy of the image, each list with what lies behind it.
func wholeImage(x api.Image) api.Image {
	y := api.Image{Parts: slices.Clone(whole(x.Parts)), Ports: slices.Clone(whole(x.Ports)), Channels: slices.Clone(whole(x.Channels))}
	for i := range y.Parts {
		p := &y.Parts[i]
		p.Init, p.Code, p.Procs = whole(p.Init), whole(p.Code), whole(p.Procs)
		p.Sems, p.Events, p.Buffers = whole(p.Sems), whole(p.Events), whole(p.Buffers)
	}
	for i := range y.Channels {
		y.Channels[i].To = whole(y.Channels[i].To)
	}
	return copied(y)
}

func TestP10_1_nothingIsChanged(t *testing.T) {
	r := rand.New(rand.NewPCG(1, 10))
	for round := range 2000 {
		x := sound()
		for range round % 3 {
			spoil(r, &x)
		}
		x = roomyImage(x)
		inputs := roomy(someScript(r, 6, 10), api.Input{Tick: 77})
		for i := range inputs {
			inputs[i].Data = roomy(inputs[i].Data, 77)
		}
		list := roomy(fair(r.IntN(6)), api.Server{Period: 77})
		image, script, servers := wholeImage(x), slices.Clone(whole(inputs)), slices.Clone(whole(list))
		for i := range script {
			script[i].Data = slices.Clone(whole(script[i].Data))
		}
		err, number := check.Check(x)
		check.Script(x, inputs)
		check.Servers(list)
		check.Hyper(list)
		if again, where := check.Check(x); again != err || where != number {
			t.Fatalf("Check answers %d, %d and then %d, %d", err, number, again, where)
		}
		if !reflect.DeepEqual(wholeImage(x), image) {
			t.Fatal("the image, or what lies behind its lists, has changed")
		}
		for i, in := range whole(inputs) {
			in.Data = whole(in.Data)
			if !reflect.DeepEqual(in, script[i]) {
				t.Fatal("input " + strconv.Itoa(i) + ", or what lies behind its data, has changed")
			}
		}
		if !slices.Equal(whole(list), servers) {
			t.Fatal("the servers, or what lies behind them, have changed")
		}
	}
}

// nil and an empty list are the same.
func TestP10_1_emptyLists(t *testing.T) {
	wantCheck(t, "empty lists", api.Image{Parts: []api.Part{}, Ports: []api.Port{}, Channels: []api.Channel{}}, api.OK, 0)
	for _, empty := range []bool{false, true} {
		x := sound()
		p := &x.Parts[2]
		p.Init, p.Sems, p.Events, p.Buffers = nil, nil, nil, nil
		if empty {
			p.Init, p.Sems, p.Events, p.Buffers = []int64{}, []api.Sem{}, []bool{}, []api.Buffer{}
		}
		wantCheck(t, "a partition with little", x, api.OK, 0)
	}
}
