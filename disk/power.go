package disk

import "slices"

// power is on from the beginning, with nothing armed.
type power struct {
	off  bool
	left int    // writes until it goes; 0: nothing is armed
	keep []bool // for the cut that is armed
}

func (p *power) arm(n int, keep []bool) {
	p.left, p.keep = max(n, 1), slices.Clone(keep)
}

// countDown tells whether the write that comes now is the armed one.
func (p *power) countDown() bool {
	if p.left == 0 {
		return false
	}
	p.left--
	return p.left == 0
}

func (p *power) turnOff() { *p = power{off: true} }

// turnOn leaves what is armed: it may have been armed while the power was off.
func (p *power) turnOn() { p.off = false }

func (p *power) isOff() bool { return p.off }
