package log

// never stands for no step in which the power goes off.
const never = -1

// power is what steps are done by.
type power struct {
	off bool
	// whole is how many steps are still done whole, ahead of the one in which the power goes off; below 0: all.
	whole int
}

// Off tells whether the power is off.
func (p *power) Off() bool { return p.off }

func (p *power) failIn(n int) { p.whole = n }

// failing takes a step, and tells whether it is the one in which the power goes off.
func (p *power) failing() bool {
	if p.whole > 0 {
		p.whole--
		return false
	}
	p.off = p.whole == 0
	return p.off
}

// restore has the power on, with no failure to come.
func (p *power) restore() { *p = power{whole: never} }
