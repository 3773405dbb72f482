package span

import "math/bits"

// marks are numbers below 128, a bit each: the spans that a search has to do with are no more than 66.
type marks [2]uint64

// add adds a number.
func (m *marks) add(n int) { m[n/64] |= 1 << (n % 64) }

// has says whether a number is one of them.
func (m marks) has(n int) bool { return m[n/64]>>(n%64)&1 == 1 }

// both are the numbers that the others have, too.
func (m marks) both(others marks) marks { return marks{m[0] & others[0], m[1] & others[1]} }

// count is how many numbers there are.
func (m marks) count() int { return bits.OnesCount64(m[0]) + bits.OnesCount64(m[1]) }
