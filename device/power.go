package device

import "outstation/api"

// power is what each operation needs, and what may fail.
type power struct {
	failed bool
	armed  bool
	left   int // while it is armed: how many operations more are done
}

// Arm lets the power fail by the operation behind the next n; with n below 0 by none.
func (p *power) Arm(n int) { p.armed, p.left = n >= 0, n }

// Down tells whether the power has failed.
func (p *power) Down() bool { return p.failed }

// operate does what makes a call an operation. A call asks for it last, where nothing else is wrong with it: only what would be an operation is counted, and only by such a call the power fails.
func (p *power) operate(do func()) api.Errno {
	if p.armed {
		if p.left == 0 {
			p.failed = true
			return api.ErrDown
		}
		p.left--
	}
	do()
	return api.OK
}

// restore brings the power back; it is not armed then.
func (p *power) restore() { *p = power{} }
