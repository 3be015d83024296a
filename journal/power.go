package journal

// power tells which changing calls fail.
type power struct {
	fail, stop int  // how many calls there are up to the one that fails, and up to the one with which all begin to fail; 0: none does
	off        bool // all fail
}

// fails counts a changing call, and tells whether it fails.
func (p *power) fails() bool {
	once := countDown(&p.fail)
	if countDown(&p.stop) {
		p.off = true
	}
	return once || p.off
}

// countDown makes a number above 0 one less, and tells whether it has become 0 by that.
func countDown(n *int) bool {
	if *n == 0 {
		return false
	}
	*n--
	return *n == 0
}
