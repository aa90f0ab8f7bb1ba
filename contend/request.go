package contend

import (
	"pendulum/api"
	"pendulum/step"
	"pendulum/tstate"
)

const (
	portStates = 4 // T-states of a port's request
	portAt     = 1 // the one of them whose time is the request's
	lowestBit  = 1
)

// latest is the last time at which a request may begin: its end is a time, too.
const latest = api.MaxTime - 1_000

// Request answers when a request at the time t happens, and when the next one
// begins, slow telling whether its Addr is seen in a slow bank.
func Request(s api.Screen, q api.Req, slow bool, t int64) (at, end int64, e api.Errno) {
	if e = tstate.Check(s); e != api.OK {
		return 0, 0, e
	}
	if e = step.Check(q); e != api.OK {
		return 0, 0, e
	}
	if t < 0 || t > latest {
		return 0, 0, api.ErrArg
	}
	at, end = happens(s, q, slow, t)
	return at, end, api.OK
}

// Row answers when each request of a row that begins at the time t happens, and
// when all are done.
func Row(s api.Screen, l []api.Req, slow []bool, t int64) (at []int64, end int64, e api.Errno) {
	end = t
	for i, q := range l {
		var when int64
		when, end, e = Request(s, q, i < len(slow) && slow[i], end)
		if e != api.OK {
			return nil, 0, e
		}
		at = append(at, when)
	}
	return
}

// happens is Request of a screen, a request and a time that may be.
func happens(s api.Screen, q api.Req, slow bool, t int64) (at, end int64) {
	if q.Kind == api.ReqIn || q.Kind == api.ReqOut {
		return portHappens(s, q.Addr&lowestBit == 1, slow, t)
	}
	if slow && q.Kind != api.ReqIdle {
		t = behindWait(s, t)
	}
	return t, t + int64(q.T)
}

// portHappens goes through a port's request T-state by T-state.
func portHappens(s api.Screen, odd, slow bool, t int64) (at, end int64) {
	for n := range portStates {
		if portWaits(n, odd, slow) {
			t = behindWait(s, t)
		}
		if n == portAt {
			at = t
		}
		t++
	}
	return at, t
}

// portWaits answers whether there is a wait ahead of the n-th T-state, from 0 on.
func portWaits(n int, odd, slow bool) bool {
	if odd {
		return slow
	}
	return n == portAt || slow && n < portAt
}

func behindWait(s api.Screen, t int64) int64 {
	return t + int64(Wait(s, t))
}
