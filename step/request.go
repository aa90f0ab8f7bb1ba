package step

import "pendulum/api"

// Check answers ErrArg for what is no request.
func Check(q api.Req) api.Errno {
	if !lastsRight(q) || !hasRight(q) {
		return api.ErrArg
	}
	return api.OK
}

// Same answers whether all of both is the same.
func Same(a, b api.Req) bool {
	return a == b
}

// lasts answers how many T-states a request of a kind lasts: 0 of an idle one,
// which is told how many, and of a kind that is none.
func lasts(kind int) int {
	switch kind {
	case api.ReqRead, api.ReqWrite:
		return 3
	case api.ReqFetch, api.ReqIn, api.ReqOut:
		return 4
	case api.ReqAck:
		return 7
	default:
		return 0
	}
}

func lastsRight(q api.Req) bool {
	const longestIdle = 7
	if q.Kind == api.ReqIdle {
		return q.T >= 1 && q.T <= longestIdle
	}
	return q.T != 0 && q.T == lasts(q.Kind)
}

// hasRight answers whether q has no more than one of its Kind has: an Addr all
// but an idle one, a Value where one goes out.
func hasRight(q api.Req) bool {
	switch q.Kind {
	case api.ReqWrite, api.ReqOut:
		return true
	case api.ReqIdle:
		return q.Addr == 0 && q.Value == 0
	default:
		return q.Value == 0
	}
}
