package kernel_test

import (
	"fmt"
	"math/rand/v2"
	"slices"
	"testing"

	"bulkhead/api"
	"bulkhead/codec"
	"bulkhead/image"
	"bulkhead/kernel"
	"bulkhead/part"
	"bulkhead/script"
	"bulkhead/slots"
)

// small is two partitions, whose table has a prologue unlike its cycle, and a channel from outside.
func small() api.Image {
	return api.Image{
		Parts: []api.Part{
			partition(api.Server{Period: 5, Budget: 2, Offset: 4, Priority: 9}, auto(5, "nop, jmp 0"), auto(6, "sys 4")),
			partition(api.Server{Period: 10, Budget: 6, Priority: 1}, auto(5, "nop, jmp 0")),
		},
		Ports:    []api.Port{queueIn(1, 2, 1)},
		Channels: []api.Channel{{Kind: api.Queuing, To: []int{1}}},
	}
}

// changed is an image with something changed in it.
func changed(change func(x *api.Image)) api.Image {
	x := small()
	change(&x)
	return x
}

// wrong is bytes, and the error with which they are to be refused.
type wrong struct {
	name  string
	bytes []byte
	err   api.Errno
}

// wrongImages are images that image.Decode refuses.
func wrongImages(t *testing.T) []wrong {
	good := lay(t, small(), nil)
	turned := slices.Clone(good.image)
	turned[len(turned)/2] ^= 4
	return []wrong{
		{"no image", nil, api.ErrForm},
		{"half an image", good.image[:len(good.image)/2], api.ErrForm},
		{"an image and a byte", append(slices.Clone(good.image), 0), api.ErrForm},
		{"an image of which a bit is turned", turned, api.ErrForm},
		{"a script for an image", good.script, api.ErrForm},
		{"an image that is too long", make([]byte, api.MaxImage+1), api.ErrLong},
	}
}

// unfitImages are images that check.Check refuses, one for each error.
func unfitImages(t *testing.T) []wrong {
	list := []struct {
		name string
		err  api.Errno
		with func(x *api.Image)
	}{
		{"too many words", api.ErrCount, func(x *api.Image) { x.Parts[1].Words = api.MaxWords + 1 }},
		{"a budget above the period", api.ErrServer, func(x *api.Image) { x.Parts[1].Server.Budget = 11 }},
		{"two of one priority", api.ErrServer, func(x *api.Image) { x.Parts[1].Server.Priority = 9 }},
		{"periods without a multiple", api.ErrHyper, func(x *api.Image) {
			x.Parts[0].Server.Period, x.Parts[1].Server = 1<<20, api.Server{Period: 3, Budget: 1}
		}},
		{"too many releases", api.ErrTable, func(x *api.Image) {
			x.Parts[0].Server.Period, x.Parts[1].Server = 1<<20, api.Server{Period: 1, Budget: 1}
		}},
		{"more init than words", api.ErrMemory, func(x *api.Image) { x.Parts[1].Init = make([]int64, 9) }},
		{"no code", api.ErrCode, func(x *api.Image) { x.Parts[1].Code = nil }},
		{"an entry behind the code", api.ErrProc, func(x *api.Image) { x.Parts[1].Procs[0].Entry = 2 }},
		{"a semaphore without a Max", api.ErrObject, func(x *api.Image) { x.Parts[1].Sems = []api.Sem{{}} }},
		{"an action that is none", api.ErrHealth, func(x *api.Image) { x.Parts[1].Health[3] = 6 }},
		{"a port of nobody", api.ErrPort, func(x *api.Image) { x.Ports[0].Part = 3 }},
		{"a channel to no port", api.ErrChannel, func(x *api.Image) { x.Channels[0].To[0] = 2 }},
	}
	var images []wrong
	for _, c := range list {
		x := changed(c.with)
		b, err := image.Encode(x)
		if err != api.OK {
			t.Fatal(c.name, err)
		}
		images = append(images, wrong{c.name, b, c.err})
	}
	return images
}

// wrongScripts are scripts that script.Decode refuses.
func wrongScripts(t *testing.T) []wrong {
	good := lay(t, small(), []api.Input{wake(3, 1)})
	many, err := codec.Seal(3, []byte{0, 1, 0, 1})
	if err != api.OK {
		t.Fatal(err)
	}
	return []wrong{
		{"no script", nil, api.ErrForm},
		{"a script that is cut", good.script[:len(good.script)-1], api.ErrForm},
		{"an image for a script", good.image, api.ErrForm},
		{"a script that is too long", make([]byte, 1<<22+13), api.ErrLong},
		{"a list of too many inputs", many, api.ErrLong},
	}
}

// unfitScripts are scripts that check.Script refuses.
func unfitScripts(t *testing.T) []wrong {
	var scripts []wrong
	for name, inputs := range map[string][]api.Input{
		"a tick below 0":            {wake(-1, 1)},
		"a tick at MaxTick":         {wake(end, 1)},
		"ticks that fall":           {wake(5, 1), wake(4, 1)},
		"a partition not there":     {wake(5, 3)},
		"a channel not there":       {message(5, 2, 1, 2)},
		"a message of another size": {message(5, 1, 1)},
		"a kind that is none":       {{Tick: 5, Kind: 3, Target: 1}},
	} {
		b, err := script.Encode(inputs)
		if err != api.OK {
			t.Fatal(name, err)
		}
		scripts = append(scripts, wrong{name, b, api.ErrScript})
	}
	return scripts
}

// wrongTables are tables that slots.Decode refuses.
func wrongTables(t *testing.T) []wrong {
	good := lay(t, small(), nil)
	joined, err := codec.Seal(2, []byte{0, 0, 0, 2, 0, 0, 0, 1, 0, 0, 0, 1, 1, 0, 0, 0, 1, 1, 0, 0, 0, 2, 1})
	if err != api.OK {
		t.Fatal(err)
	}
	return []wrong{
		{"no table", nil, api.ErrForm},
		{"a table that is cut", good.table[:len(good.table)-1], api.ErrForm},
		{"slots that can be joined", joined, api.ErrForm},
		{"an image for a table", good.image, api.ErrForm},
		{"a table that is too long", make([]byte, api.MaxTable+1), api.ErrLong},
	}
}

// unfitTables are tables that go, but are not that of the servers.
func unfitTables(t *testing.T) []wrong {
	servers := serversOf(small())
	other := func(change func(list []api.Server)) []byte {
		list := slices.Clone(servers)
		change(list)
		return tableOf(t, list)
	}
	own, _ := slots.Make(servers)
	twice := api.Table{Prologue: append(slices.Clone(own.Prologue), own.Cycle...), Cycle: append(slices.Clone(own.Cycle), own.Cycle...)}
	swapped := api.Table{Prologue: own.Cycle, Cycle: own.Prologue}
	otherCycle := api.Table{Prologue: own.Prologue, Cycle: own.Prologue}
	otherPrologue := api.Table{Prologue: own.Cycle, Cycle: own.Cycle}
	var list []wrong
	for name, x := range map[string]api.Table{"a table twice as long": joinTable(twice), "the parts changed round": swapped, "another cycle": otherCycle, "another prologue": otherPrologue} {
		b, err := slots.Encode(x)
		if err != api.OK {
			t.Fatal(name, err)
		}
		list = append(list, wrong{name, b, api.ErrTable})
	}
	return append(list,
		wrong{"a table of no servers", tableOf(t, nil), api.ErrTable},
		wrong{"a table of one of the servers", tableOf(t, servers[:1]), api.ErrTable},
		wrong{"the servers in another order", tableOf(t, []api.Server{servers[1], servers[0]}), api.ErrTable},
		wrong{"another budget", other(func(l []api.Server) { l[0].Budget = 3 }), api.ErrTable},
		wrong{"another offset", other(func(l []api.Server) { l[1].Offset = 2 }), api.ErrTable},
		wrong{"another order of priorities", other(func(l []api.Server) { l[0].Priority = 0 }), api.ErrTable},
	)
}

// joinTable joins the slots beside one another that have one occupant.
func joinTable(x api.Table) api.Table {
	join := func(list []api.Slot) []api.Slot {
		var joined []api.Slot
		for _, s := range list {
			if n := len(joined); n > 0 && joined[n-1].Part == s.Part {
				joined[n-1].Length += s.Length
				continue
			}
			joined = append(joined, s)
		}
		return joined
	}
	return api.Table{Prologue: join(x.Prologue), Cycle: join(x.Cycle)}
}

// refuses tells that a boot must be refused.
func refuses(t *testing.T, what string, k *kernel.Kernel, err, want api.Errno) {
	t.Helper()
	if k != nil || err != want {
		t.Errorf("%s: %v, %d, want nil, %d", what, k != nil, err, want)
	}
}

// How comes first of all: whatever image and script are (P22.1).
func TestP22_1_HowComesFirst(t *testing.T) {
	good := lay(t, small(), nil)
	images := append(append(wrongImages(t), unfitImages(t)...), wrong{"an image", good.image, 0})
	scripts := append(append(wrongScripts(t), unfitScripts(t)...), wrong{"a script", good.script, 0})
	for _, how := range []int{0, 3, -1, bottom, top, api.Online + 256, api.ByTable + 1<<32} {
		for _, b := range images {
			for _, s := range scripts {
				k, err := kernel.Boot(b.bytes, s.bytes, how)
				refuses(t, fmt.Sprint("how ", how, ", ", b.name, ", ", s.name), k, err, api.ErrArg)
			}
		}
	}
}

// Each error stands ahead of those that come behind it in P22.1's and P22.2's order; all three ways refuse alike, but for the table (W1).
func TestP22_1_ErrorsInOrder(t *testing.T) {
	good := lay(t, small(), nil)
	tables := append(append(wrongTables(t), unfitTables(t)...), wrong{"its table", good.table, api.OK})
	for _, b := range append(append(wrongImages(t), unfitImages(t)...), wrong{"an image", good.image, api.OK}) {
		for _, s := range append(append(wrongScripts(t), unfitScripts(t)...), wrong{"a script", good.script, api.OK}) {
			want := b.err
			if want == api.OK {
				want = s.err
			}
			for _, how := range []int{api.Online, api.ByTable} {
				k, err := kernel.Boot(b.bytes, s.bytes, how)
				if want == api.OK && k != nil && err == api.OK {
					continue
				}
				refuses(t, fmt.Sprint(b.name, ", ", s.name, ", how ", how), k, err, want)
			}
			for _, x := range tables {
				k, err := kernel.BootWith(b.bytes, s.bytes, x.bytes)
				first := want
				if first == api.OK {
					first = x.err
				}
				if first == api.OK && k != nil && err == api.OK {
					continue
				}
				refuses(t, fmt.Sprint(b.name, ", ", s.name, ", ", x.name), k, err, first)
			}
		}
	}
}

// A table that is cut anywhere, that has anything behind it, or of which one bit is turned, is ErrForm (P22.2, W5).
func TestP22_2_TableCutOrTurned(t *testing.T) {
	good := lay(t, small(), nil)
	for n := range good.table {
		k, err := kernel.BootWith(good.image, good.script, good.table[:n])
		refuses(t, fmt.Sprint("cut at ", n), k, err, api.ErrForm)
		for bit := range 8 {
			turned := slices.Clone(good.table)
			turned[n] ^= 1 << bit
			k, err := kernel.BootWith(good.image, good.script, turned)
			refuses(t, fmt.Sprint("bit ", bit, " of ", n), k, err, api.ErrForm)
		}
	}
	k, err := kernel.BootWith(good.image, good.script, append(slices.Clone(good.table), 0))
	refuses(t, "a byte more", k, err, api.ErrForm)
}

// Whatever bytes are handed in as a table, sealed or not: it is the servers' own, or refused: with ErrTable just if it is a table that goes (P22.2, W5).
func TestW5_AnyTable(t *testing.T) {
	good := lay(t, small(), nil)
	own, err := codec.Unseal(2, good.table)
	if err != api.OK {
		t.Fatal(err)
	}
	refused := map[api.Errno]int{}
	for seed := range uint64(6000) {
		r := rand.New(rand.NewPCG(5, seed))
		body := slices.Clone(own)
		for range 1 + r.IntN(2) {
			if at := r.IntN(len(body)); r.IntN(3) == 0 {
				body[at] = byte(r.IntN(4))
			} else if at >= 8 {
				// A tick from one slot to another: it often goes still.
				to := 8 + r.IntN((len(body)-8)/5)*5 + 3
				body[(at-8)/5*5+8+3]--
				body[to]++
			}
		}
		table, err := codec.Seal(2, body)
		if err != api.OK {
			t.Fatal(err)
		}
		if seed%10 == 0 {
			table = table[:r.IntN(len(table))]
		}
		k, err := kernel.BootWith(good.image, good.script, table)
		x, bad := slots.Decode(table)
		want := bad
		if bad == api.OK && !slices.Equal(table, good.table) {
			want = api.ErrTable
			if slots.Valid(x) != api.OK {
				t.Fatalf("seed %d: a table that does not go is read", seed)
			}
		}
		if err != want || (k != nil) != (want == api.OK) {
			t.Fatalf("seed %d: %v, %d, want %d", seed, k != nil, err, want)
		}
		refused[err]++
	}
	if refused[api.OK] < 100 || refused[api.ErrForm] < 500 || refused[api.ErrTable] < 500 {
		t.Errorf("not of every kind: %v", refused)
	}
}

// A kernel that has booted stands at tick 0: the partitions are part.New's of tick 0, their events by rising number are the trace; nothing of tick 0 has happened (P22.1).
func TestP22_1_Booted(t *testing.T) {
	x := small()
	inputs := []api.Input{message(0, 1, 3, 4), wake(0, 2)}
	var events []api.Event
	var states []string
	for i := range x.Parts {
		p, e, err := part.New(x, i+1, 0)
		if err != api.OK {
			t.Fatal(err)
		}
		events, states = append(events, e...), append(states, stateText(p.State()))
	}
	for _, w := range ways() {
		k := w.boots(t, lay(t, x, inputs))
		if k.Now() != 0 || k.Steps() != 0 || k.Stops() != 0 || show(k.Trace()) != show(events) {
			t.Errorf("%s: Now %d, Steps %d, Stops %d\n%s", w.name, k.Now(), k.Steps(), k.Stops(), show(k.Trace()))
		}
		for i, want := range states {
			if got := stateText(stands(t, k, i+1)); got != want {
				t.Errorf("%s: partition %d is\n%s\nwant\n%s", w.name, i+1, got, want)
			}
		}
		runs(t, k, 1, plenty)
		if len(k.Trace()) != len(events)+3 || k.Steps() != 1 || k.Stops() != 1 {
			t.Errorf("%s: behind tick 0:\n%s", w.name, show(k.Trace()))
		}
	}
}

// Nothing at all boots, too: no partitions, nobody occupies anything (P22.1, P22.6).
func TestP22_1_NoServers(t *testing.T) {
	l := lay(t, api.Image{}, nil)
	for _, w := range ways() {
		k := w.boots(t, l)
		for _, tick := range []int{0, 1, 17, end - 1} {
			if who, err := k.Occupant(tick); who != 0 || err != api.OK {
				t.Errorf("%s: Occupant(%d) = %d, %d", w.name, tick, who, err)
			}
		}
		if _, err := k.Part(1); err != api.ErrPart {
			t.Errorf("%s: Part(1): %d", w.name, err)
		}
		runs(t, k, 5, 1)
		runs(t, k, end, plenty)
		if k.Now() != end || k.Steps() != 0 || k.Stops() != 0 || len(k.Trace()) != 0 {
			t.Errorf("%s: Now %d, Steps %d, Stops %d, %v", w.name, k.Now(), k.Steps(), k.Stops(), k.Trace())
		}
	}
	// A table of others is refused, and so are inputs for nobody.
	k, err := kernel.BootWith(l.image, l.script, tableOf(t, serversOf(small())))
	refuses(t, "a table of other servers", k, err, api.ErrTable)
	s, _ := script.Encode([]api.Input{wake(0, 1)})
	for _, w := range ways() {
		k, err := w.boot(laid{l.image, s, l.table})
		refuses(t, w.name+": a script for nobody", k, err, api.ErrScript)
	}
}

// As many partitions as there may be, and servers with as many releases as there may be, boot each way: a table always has room (P22.1, W1).
func TestP22_1_TheGreatest(t *testing.T) {
	var many, dense api.Image
	for i := range api.MaxParts {
		many.Parts = append(many.Parts, partition(api.Server{Period: 64, Budget: 3, Offset: 63 - i, Priority: (i * 7) % 32}, auto(i, "sys 14, jmp 0")))
	}
	dense.Parts = []api.Part{
		partition(api.Server{Period: 3, Budget: 1, Priority: 1}, auto(1, "nop, jmp 0")),
		partition(api.Server{Period: 3 * 32766, Budget: 32766, Priority: 0}, auto(1, "nop, jmp 0")),
	}
	for name, x := range map[string]api.Image{"many": many, "dense": dense} {
		l, h := lay(t, x, nil), historyOf(newMachine(x, nil), 150)
		for _, w := range ways() {
			k := w.boots(t, l)
			for tick := 0; tick <= 150; tick += 25 {
				runs(t, k, tick, plenty)
				h.holds(t, name+", "+w.name, k)
			}
			h.occupies(t, name+", "+w.name, k)
		}
	}
}

// No call panics, whatever bytes are handed in (rule 1).
func TestNoPanicAtAnyBytes(t *testing.T) {
	good := lay(t, small(), []api.Input{message(3, 1, 4, 5), wake(9, 2)})
	for seed := range uint64(3000) {
		r := rand.New(rand.NewPCG(22, seed))
		spoilt := func(b []byte) []byte {
			b = slices.Clone(b)
			switch r.IntN(5) {
			case 0:
				return b
			case 1:
				return b[:r.IntN(len(b)+1)]
			case 2:
				b[r.IntN(len(b))] ^= 1 << r.IntN(8)
				return b
			case 3:
				b = make([]byte, r.IntN(60))
				for i := range b {
					b[i] = byte(r.IntN(256))
				}
				return b
			}
			// A body that is spoilt, in a good seal.
			body, err := codec.Unseal(b[2], b)
			if err != api.OK {
				t.Fatal(err)
			}
			for range 1 + r.IntN(3) {
				body[r.IntN(len(body))] = byte(r.IntN(256))
			}
			b, err = codec.Seal(b[2], body)
			if err != api.OK {
				t.Fatal(err)
			}
			return b
		}
		l := laid{spoilt(good.image), spoilt(good.script), spoilt(good.table)}
		errs := [3]api.Errno{}
		for i, w := range ways() {
			k, err := w.boot(l)
			if errs[i] = err; (k == nil) != (err != api.OK) {
				t.Fatalf("seed %d: %s: %v, %d", seed, w.name, k, err)
			}
			k.Run(40, plenty)
			k.Run(-5, plenty)
			k.Occupant(7)
			k.Part(1)
			k.Trace()
		}
		// Online and by table alike (W1).
		if errs[0] != errs[1] {
			t.Fatalf("seed %d: online %d, by table %d", seed, errs[0], errs[1])
		}
	}
}

// A kernel that no boot made answers nothing, and panics nowhere (rule 1).
func TestNoKernel(t *testing.T) {
	for _, k := range []*kernel.Kernel{nil, {}} {
		if k.Run(5, 5) != api.ErrArg || k.Run(0, 0) != api.ErrArg || k.Now() != 0 || k.Trace() != nil || k.Steps() != 0 || k.Stops() != 0 {
			t.Error("no kernel runs")
		}
		if who, err := k.Occupant(0); who != 0 || err != api.ErrArg {
			t.Error("no kernel has occupants")
		}
		if s, err := k.Part(1); stateText(s) != stateText(api.PartState{}) || err != api.ErrPart {
			t.Error("no kernel has partitions")
		}
	}
}
