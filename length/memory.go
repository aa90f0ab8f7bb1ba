package length

import "pendulum/api"

// fill lets b stand from at on; what is beyond the end stands from 0 on.
func fill(m *[size]byte, at uint16, b []byte) {
	for _, v := range b {
		m[at] = v
		at++
	}
}

// taken answers so many bytes from at on, beyond the end those from 0 on.
func taken(m *[size]byte, at uint16, count int) []byte {
	var b []byte
	for range count {
		b = append(b, m[at])
		at++
	}
	return b
}

// back answers what comes back for a request; where something goes out
// instead, it goes into memory or is lost.
func back(m *[size]byte, q api.Req, v byte) byte {
	switch q.Kind {
	case api.ReqFetch, api.ReqRead:
		return m[q.Addr]
	case api.ReqWrite:
		m[q.Addr] = q.Value
		return 0
	case api.ReqIn:
		return byte(q.Addr) ^ byte(q.Addr>>8)
	case api.ReqAck:
		return v
	default:
		return 0
	}
}
