package age_test

import (
	"testing"

	"bulkhead/age"
	"bulkhead/api"
	"bulkhead/channel"
)

// The longest way through an out queue, counted for every tick at which a message may be laid down and for each number of others ahead of it: it is Stay, no less and no more.
func TestP26_6_TheLongestWayIsStay(t *testing.T) {
	t.Parallel()
	for depth := 1; depth <= 6; depth++ {
		for period := 1; period <= 9; period++ {
			for phase := range period {
				x := road(queue(1, true, depth), period, phase, 1)
				longest := 0
				for laid := phase; laid < phase+3*period; laid++ {
					for ahead := range depth {
						tick := laid
						for range ahead + 1 {
							tick = channel.Next(x.Channels[0], tick+1)
						}
						longest = max(longest, tick-laid)
					}
				}
				if stay, err := age.Stay(x, 1); stay != longest || err != api.OK {
					t.Errorf("P26.6: Depth %d, Period %d, Phase %d: Stay is %d, %d, the longest way %d", depth, period, phase, stay, err, longest)
				}
			}
		}
	}
}

// So many messages as Rate says may come between two ticks behind which a queue is empty: with as much room none is lost, with less some may be. That is what Safe says.
func TestP26_6_SafeIsRoomForAllThatMayCome(t *testing.T) {
	t.Parallel()
	for depth := 1; depth <= 4; depth++ {
		for period := 1; period <= 5; period++ {
			for phase := range period {
				x := road(queue(1, true, 1), period, phase, depth)
				for ticks := range 5*period + 2 {
					mayLose := false
					for empty := phase - 1; empty < phase+2*period; empty++ {
						come := 0
						for tick := empty + 1; tick <= empty+ticks; tick++ {
							if channel.Due(x.Channels[0], tick) {
								come++
							}
						}
						mayLose = mayLose || come > depth
					}
					if safe, err := age.Safe(x, 1, ticks); safe == mayLose || err != api.OK {
						t.Errorf("P26.6: Depth %d, Period %d, Phase %d: Safe(%d) is %v, %d", depth, period, phase, ticks, safe, err)
					}
				}
			}
		}
	}
}

// More ticks never make Rate less, nor a port safe that is not; what Rate says of two stretches is no less than what it says of both as one.
func TestP26_3_4_MoreTicks(t *testing.T) {
	t.Parallel()
	for _, period := range []int{1, 2, 3, 10, 1000} {
		x := road(queue(1, true, 1), period, 0, 3, 7)
		for _, a := range []int{0, 1, period - 1, period, period + 1, 3 * period, 7 * period, api.MaxTick / 2} {
			for _, b := range []int{0, 1, period - 1, period, period + 1, 5 * period, api.MaxTick / 2} {
				first, _ := age.Rate(x, 1, a)
				second, _ := age.Rate(x, 1, b)
				both, err := age.Rate(x, 1, a+b)
				if err != api.OK || both < max(first, second) || both > first+second {
					t.Errorf("Period %d: Rate(%d) = %d, Rate(%d) = %d, Rate of both %d, %d", period, a, first, b, second, both, err)
				}
				one, _ := age.Safe(x, 1, a)
				if more, _ := age.Safe(x, 1, a+b); more && !one {
					t.Errorf("Period %d: safe for %d, and not for %d", period, a+b, a)
				}
			}
		}
	}
}
