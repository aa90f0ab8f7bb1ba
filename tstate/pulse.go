package tstate

import "pendulum/api"

// Pulse answers whether the interrupt is there at the time t.
func Pulse(s api.Screen, t int64) bool {
	length := Length(s)
	return length != 0 && isTime(t) && t%length < int64(s.Pulse)
}

// Pulses answers at how many times from from on, and below to, the interrupt
// is there.
func Pulses(s api.Screen, from, to int64) int64 {
	length := Length(s)
	if length == 0 || from >= to {
		return 0
	}
	return pulsesBelow(s, length, to) - pulsesBelow(s, length, from)
}

// pulsesBelow counts from time 0 on. What is no time has no pulse.
func pulsesBelow(s api.Screen, length, t int64) int64 {
	t = min(max(t, 0), api.MaxTime+1)
	pulse := int64(s.Pulse)
	return t/length*pulse + min(t%length, pulse)
}
