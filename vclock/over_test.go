package vclock

import (
	"math"
	"testing"

	"postroad/api"
)

// P14.1: no life within the bounds of the whole brings a clock there, so that it
// is set from inside.

func TestAClockThatCannotBeToldIsOver(t *testing.T) {
	q := New()
	q.Add(1, 3, mostRoom, 0)
	q.Put(api.Packet{ID: 7, Flow: 1, Size: 3}, 0)
	q.turns.flows[1].Clock = whole(math.MaxInt64 - 1)
	was := q.Copy()
	for _, size := range []int64{1, 2, 4, 6, api.MaxPacket} {
		if stamp, e := q.Put(api.Packet{ID: 8, Flow: 1, Size: size}, 0); stamp != (api.Rat{}) || e != api.ErrOver {
			t.Errorf("Put of %d: %v, %v", size, stamp, e)
		}
		if !Same(was, q) || len(q.turns.packets) != 1 {
			t.Error("a refusal has changed it")
		}
	}
	if stamp, e := q.Put(api.Packet{ID: 8, Flow: 1, Size: 3}, 0); stamp != whole(math.MaxInt64) || e != api.OK {
		t.Errorf("Put that is told yet: %v, %v", stamp, e)
	}
}
