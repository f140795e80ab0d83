package report_test

import (
	"fmt"
	"math/rand/v2"
	"strings"
	"testing"

	"bulkhead/api"
	"bulkhead/report"
)

// wantLines wants the Text of servers to be these lines.
func wantLines(t *testing.T, what string, list []api.Server, lines ...string) {
	t.Helper()
	wantText(t, what, image(list...), strings.Join(lines, "\n")+"\n", api.OK)
}

func TestP27_4_Example(t *testing.T) {
	t.Parallel()
	wantLines(t, "A B", chapter(),
		"hyperperiod 10 load 10 of 10 admitted",
		"partition 1: budget 2 of 5 from 4 priority 9 share 400000 blackout 3",
		"partition 2: budget 6 of 10 from 0 priority 1 share 600000 blackout 2",
		"nobody: share 0",
	)
	wantText(t, "A B, to the letter", image(chapter()...), "hyperperiod 10 load 10 of 10 admitted\npartition 1: budget 2 of 5 from 4 priority 9 share 400000 blackout 3\npartition 2: budget 6 of 10 from 0 priority 1 share 600000 blackout 2\nnobody: share 0\n", api.OK)
}

func TestP27_4_NoPartitions(t *testing.T) {
	t.Parallel()
	wantText(t, "nothing", api.Image{}, "hyperperiod 1 load 0 of 1 admitted\nnobody: share 1000000\n", api.OK)
	wantText(t, "empty lists", api.Image{Parts: []api.Part{}, Ports: []api.Port{}, Channels: []api.Channel{}}, "hyperperiod 1 load 0 of 1 admitted\nnobody: share 1000000\n", api.OK)
}

func TestP27_4_Admitted(t *testing.T) {
	t.Parallel()
	wantLines(t, "one that has all", split(1, 1),
		"hyperperiod 1 load 1 of 1 admitted",
		"partition 1: budget 1 of 1 from 0 priority 255 share 1000000 blackout 0",
		"nobody: share 0",
	)
	wantLines(t, "a third", []api.Server{server(3, 1, 2, 0)},
		"hyperperiod 3 load 1 of 3 admitted",
		"partition 1: budget 1 of 3 from 2 priority 0 share 333333 blackout 2",
		"nobody: share 666667",
	)
	wantLines(t, "the longest period", []api.Server{server(1<<20, 1, 1<<20-1, 7)},
		"hyperperiod 1048576 load 1 of 1048576 admitted",
		"partition 1: budget 1 of 1048576 from 1048575 priority 7 share 1 blackout 1048575",
		"nobody: share 999999",
	)
	wantLines(t, "the greatest budget", []api.Server{server(1<<20, 1<<20, 0, 10)},
		"hyperperiod 1048576 load 1048576 of 1048576 admitted",
		"partition 1: budget 1048576 of 1048576 from 0 priority 10 share 1000000 blackout 0",
		"nobody: share 0",
	)
	// Of a turn of 60 the first has the ticks 0 and 1, the second 2, 3, 22, 23, 42 and 43, the third 4 and 34.
	wantLines(t, "three, of several periods", []api.Server{server(60, 2, 0, 200), server(20, 2, 2, 100), server(30, 1, 4, 50)},
		"hyperperiod 60 load 10 of 60 admitted",
		"partition 1: budget 2 of 60 from 0 priority 200 share 33333 blackout 58",
		"partition 2: budget 2 of 20 from 2 priority 100 share 100000 blackout 18",
		"partition 3: budget 1 of 30 from 4 priority 50 share 33333 blackout 29",
		"nobody: share 833334",
	)
}

func TestP27_4_NotAdmitted(t *testing.T) {
	t.Parallel()
	wantLines(t, "A C: not from the first window on", []api.Server{a(), c()},
		"hyperperiod 10 load 11 of 10 not admitted: partition 2 from 10",
		"partition 1: budget 2 of 5 from 4 priority 9 share 400000 blackout 3",
		"partition 2: budget 7 of 10 from 0 priority 1 share 600000 blackout 2",
		"nobody: share 0",
	)
	wantLines(t, "never a tick from H on", []api.Server{server(5, 5, 4, 9), b()},
		"hyperperiod 10 load 16 of 10 not admitted: partition 2 from 0",
		"partition 1: budget 5 of 5 from 4 priority 9 share 1000000 blackout 0",
		"partition 2: budget 6 of 10 from 0 priority 1 share 0 blackout never",
		"nobody: share 0",
	)
	wantLines(t, "never a tick at all", split(7, 7, 1),
		"hyperperiod 7 load 8 of 7 not admitted: partition 2 from 0",
		"partition 1: budget 7 of 7 from 0 priority 255 share 1000000 blackout 0",
		"partition 2: budget 1 of 7 from 0 priority 254 share 0 blackout never",
		"nobody: share 0",
	)
	// The load is within H, and all the same one is lost: of a turn of 6 the second has the ticks 3 and 4.
	wantLines(t, "a load that might go", []api.Server{server(6, 3, 0, 9), server(2, 1, 0, 5)},
		"hyperperiod 6 load 6 of 6 not admitted: partition 2 from 0",
		"partition 1: budget 3 of 6 from 0 priority 9 share 500000 blackout 3",
		"partition 2: budget 1 of 2 from 0 priority 5 share 333333 blackout 4",
		"nobody: share 166667",
	)
	// Two are lost: the one that begins first, which stands behind; of those that begin at one tick the first of the list.
	wantLines(t, "the later one of the list is lost first", []api.Server{server(4, 4, 0, 9), server(4, 1, 2, 8), server(4, 1, 1, 7)},
		"hyperperiod 4 load 6 of 4 not admitted: partition 3 from 1",
		"partition 1: budget 4 of 4 from 0 priority 9 share 1000000 blackout 0",
		"partition 2: budget 1 of 4 from 2 priority 8 share 0 blackout never",
		"partition 3: budget 1 of 4 from 1 priority 7 share 0 blackout never",
		"nobody: share 0",
	)
	wantLines(t, "two are lost at one tick", []api.Server{server(4, 1, 0, 2), server(4, 4, 0, 9), server(4, 1, 0, 5)},
		"hyperperiod 4 load 6 of 4 not admitted: partition 1 from 0",
		"partition 1: budget 1 of 4 from 0 priority 2 share 0 blackout never",
		"partition 2: budget 4 of 4 from 0 priority 9 share 1000000 blackout 0",
		"partition 3: budget 1 of 4 from 0 priority 5 share 0 blackout never",
		"nobody: share 0",
	)
}

// 32 partitions of two ticks of 101 each, one behind the other.
func TestP27_4_AsManyAsThereMayBe(t *testing.T) {
	t.Parallel()
	lines := []string{"hyperperiod 101 load 64 of 101 admitted"}
	for i := range 32 {
		// 2 of 101 are 19801 and a remainder of 99, nobody's 37 are 366336 and one of 64: 32 are left.
		lines = append(lines, fmt.Sprintf("partition %d: budget 2 of 101 from 0 priority %d share 19802 blackout 99", i+1, 255-i))
	}
	wantLines(t, "32", split(101, equal(32, 2)...), append(lines, "nobody: share 366336")...)
	lines[0] = "hyperperiod 32 load 64 of 32 not admitted: partition 17 from 0"
	for i := range 32 {
		rest := "share 62500 blackout 30"
		if i >= 16 {
			rest = "share 0 blackout never"
		}
		lines[i+1] = fmt.Sprintf("partition %d: budget 2 of 32 from 0 priority %d %s", i+1, 255-i, rest)
	}
	wantLines(t, "32, and the half too many", split(32, equal(32, 2)...), append(lines, "nobody: share 0")...)
}

func TestP27_4_ServersThatMayNotBe(t *testing.T) {
	t.Parallel()
	for what, row := range refused() {
		wantText(t, what, image(row.list...), "", row.err)
		// Nothing else of the image is asked.
		x := image(row.list...)
		for i := range x.Parts {
			x.Parts[i].Words = -1
		}
		x.Ports, x.Channels = make([]api.Port, 100), make([]api.Channel, 100)
		wantText(t, what+", and an ill image", x, "", row.err)
	}
}

// Only the servers count: an image that may not be booted has its Text all the same.
func TestP27_4_NothingElseCounts(t *testing.T) {
	t.Parallel()
	want, err := report.Text(image(chapter()...))
	if err != api.OK {
		t.Fatal(err)
	}
	x := image(chapter()...)
	x.Ports = append(make([]api.Port, 70), api.Port{Part: 9, Kind: 7, Size: -1})
	x.Channels = append(make([]api.Channel, 70), api.Channel{From: 99, To: []int{0, -1}, Period: top})
	wantText(t, "ports and channels", x, want, api.OK)
	x.Parts[0] = api.Part{Server: a(), Words: -1, Fixed: top, Init: make([]int64, 9), Code: make([]api.Instr, 2000), Procs: make([]api.Proc, 20), Handler: -7, Health: [api.Faults]int{9, 9}}
	x.Parts[1] = api.Part{Server: b(), Sems: make([]api.Sem, 20), Events: make([]bool, 20), Buffers: make([]api.Buffer, 20)}
	wantText(t, "what else partitions have", x, want, api.OK)
}

func TestP27_4_AsTheRuleIsPlayed(t *testing.T) {
	t.Parallel()
	admitted, lost, never := 0, 0, 0
	forAll(600, func(m reading) {
		want := m.text()
		wantText(t, m.what, image(m.list...), want, api.OK)
		switch {
		case strings.Contains(want, "not admitted"):
			lost++
		default:
			admitted++
		}
		if strings.Contains(want, "never") {
			never++
		}
	})
	if min(admitted, lost, never) < 100 {
		t.Errorf("%d are admitted, %d are not, of %d somebody never comes", admitted, lost, never)
	}
}

// A text has one line more than the image has partitions, and one more, each ended; no blank stands at an end, none beside another.
func TestP27_4_Lines(t *testing.T) {
	t.Parallel()
	r := rand.New(rand.NewPCG(27, 4))
	for range 200 {
		list := shared(r, 500)
		text, err := report.Text(image(list...))
		if err != api.OK {
			t.Fatal(list, err)
		}
		lines := strings.SplitAfter(text, "\n")
		if len(lines) != len(list)+3 || lines[len(lines)-1] != "" {
			t.Errorf("P27.4: %d partitions: %q", len(list), text)
		}
		for _, line := range lines[:len(lines)-1] {
			if strings.TrimSpace(line)+"\n" != line || strings.Join(strings.Fields(line), " ")+"\n" != line {
				t.Errorf("P27.4: %q", line)
			}
		}
	}
}
