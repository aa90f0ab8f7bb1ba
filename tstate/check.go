package tstate

import "pendulum/api"

const (
	mostLines    = 400
	leastColumns = 8
	mostColumns  = 400
	columnStep   = 4
	mostRows     = 192
	rowStep      = 8
	mostWide     = 32
	wideStep     = 2
	wideStates   = 4 // T-states in which a byte of the picture is fetched
	mostPulse    = 64
)

// Check answers ErrArg for a screen that may not be. What compares two numbers
// stands behind what bounds them, and adds nothing to Top or Left, which have no
// upper bound of their own: so nothing wraps round.
func Check(s api.Screen) api.Errno {
	checks := []func() bool{
		func() bool { return s.Lines >= 1 && s.Lines <= mostLines },
		func() bool { return s.Columns >= leastColumns && s.Columns <= mostColumns },
		func() bool { return s.Columns%columnStep == 0 },
		func() bool { return s.Rows >= 0 && s.Rows <= mostRows && s.Rows%rowStep == 0 },
		func() bool { return s.Top >= 0 && s.Top <= s.Lines-s.Rows },
		func() bool { return s.Wide >= 0 && s.Wide <= mostWide && s.Wide%wideStep == 0 },
		func() bool { return s.Left >= 1 && s.Left <= s.Columns-wideStates*s.Wide },
		func() bool { return s.Pulse >= 1 && s.Pulse <= mostPulse },
		func() bool { return s.Pulse <= s.Lines*s.Columns },
	}
	for _, holds := range checks {
		if !holds() {
			return api.ErrArg
		}
	}
	return api.OK
}
