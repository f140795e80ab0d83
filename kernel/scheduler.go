package kernel

import (
	"bulkhead/api"
	"bulkhead/online"
	"bulkhead/slots"
)

// scheduler is what the kernel asks of whoever finds the occupants: who occupies the tick at which it stands, until when nobody else can, and to go on.
type scheduler interface {
	Occupant() int
	Until() int
	Advance(to int) api.Errno
}

// dispatcherOf begins with the dispatcher of servers that may be.
func dispatcherOf(servers []api.Server) func() scheduler {
	return func() scheduler {
		d, _ := online.New(servers)
		return d
	}
}

// walkerOf begins with a walker along a table that goes.
func walkerOf(table api.Table) func() scheduler {
	return func() scheduler {
		w, _ := slots.Walk(table)
		return w
	}
}

// watch tells the occupant of any tick. A scheduler never goes back, so that the watch begins anew for a tick that lies behind it.
type watch struct {
	begin     func() scheduler
	scheduler scheduler // nil: it has not begun
	at        int       // where the scheduler stands
	until     int
	occupant  int // of all ticks from at to ahead of until
}

// look is the occupant of a tick, and a tick behind it until which that is the same.
func (w *watch) look(t int) (occupant, until int) {
	if w.scheduler == nil || t < w.at {
		w.scheduler, w.until = w.begin(), 0
	}
	if t >= w.until {
		w.scheduler.Advance(t)
		w.at, w.until, w.occupant = t, w.scheduler.Until(), w.scheduler.Occupant()
	}
	return w.occupant, w.until
}
