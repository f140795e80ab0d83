package online

import (
	"testing"

	"bulkhead/api"
)

// counted stands between a dispatcher and its wheel, and counts what is asked.
type counted struct {
	timers
	armed, told, passed int
}

func (c *counted) Arm(id, tick int) api.Errno {
	c.armed++
	return c.timers.Arm(id, tick)
}

func (c *counted) Next() (int, bool) {
	c.told++
	return c.timers.Next()
}

func (c *counted) Advance(to int) ([]api.Firing, api.Errno) {
	c.passed++
	return c.timers.Advance(to)
}

// most is the most of any kind of question.
func (c *counted) most() int { return max(c.armed, c.told, c.passed) }

// startCounted is a new dispatcher whose questions are counted.
func startCounted(t *testing.T, list []api.Server) (*Dispatcher, *counted) {
	t.Helper()
	d, err := New(list)
	if err != api.OK {
		t.Fatalf("New(%v): %d", list, err)
	}
	c := &counted{timers: d.releases}
	d.releases = c
	return d, c
}

// However far it is, an Advance takes no longer than some hyperperiods' releases.
func TestP12_4_NoLongerThanSomeHyperperiods(t *testing.T) {
	for _, c := range []struct {
		list  []api.Server
		hyper int
		each  int // releases of all servers in a hyperperiod
	}{
		{[]api.Server{{Period: 5, Budget: 2, Offset: 4, Priority: 9}, {Period: 10, Budget: 6, Priority: 1}}, 10, 3},
		{[]api.Server{{Period: 1, Budget: 1}}, 1, 1},
		{[]api.Server{{Period: 1 << 20, Budget: 1 << 19, Offset: 77}}, 1 << 20, 1},
		{[]api.Server{{Period: 32767, Budget: 9, Offset: 3, Priority: 3}, {Period: 1, Budget: 1}}, 32767, 32768},
	} {
		for _, from := range []int{0, 1, c.hyper - 1, c.hyper, 2*c.hyper - 1, 2 * c.hyper, 5*c.hyper + 1} {
			for _, to := range []int{from + 8*c.hyper, 1 << 35, api.MaxTick - 1} {
				d, asked := startCounted(t, c.list)
				d.Advance(from)
				asked.armed, asked.told, asked.passed = 0, 0, 0
				if err := d.Advance(to); err != api.OK || d.Now() != to {
					t.Fatalf("from %d: Advance(%d) = %d", from, to, err)
				}
				// Three hyperperiods at most, a release and the end of a rest for each.
				if asked.most() > 2*3*c.each+8 {
					t.Errorf("%v: from %d to %d: asked %d times, a hyperperiod has %d releases", c.list, from, to, asked.most(), c.each)
				}
			}
		}
	}
}

// The wheel is asked through the interface alone: a dispatcher whose timers are others goes by those.
func TestWaysTheWheelIsAskedThroughItsInterface(t *testing.T) {
	d, asked := startCounted(t, []api.Server{{Period: 4, Budget: 2, Offset: 1, Priority: 1}})
	d.Until()
	if asked.told != 1 {
		t.Errorf("Until has asked %d times for the next release", asked.told)
	}
	if d.Advance(1); asked.passed == 0 || asked.armed != 1 {
		t.Errorf("Advance to a release has gone on %d times, and armed %d", asked.passed, asked.armed)
	}
}
