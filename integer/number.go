package integer

import "strings"

// number is an integer: its absolute value, and whether it is negative, which says nothing where the absolute value is 0.
type number struct {
	negative bool
	size     natural
}

// numberOf returns the number of the valid integer s.
func numberOf(s string) number {
	digits, negative := strings.CutPrefix(s, "-")
	return number{negative, naturalOf(digits)}
}

// text returns the integer n, of however many digits.
func (n number) text() string {
	if n.negative && len(n.size) > 0 {
		return "-" + n.size.text()
	}
	return n.size.text()
}

// compare returns the sign of the difference of n and m. Both come from valid integers, so that no 0 is negative.
func (n number) compare(m number) int {
	switch {
	case n.negative && m.negative:
		return m.size.compare(n.size)
	case n.negative:
		return -1
	case m.negative:
		return 1
	}
	return n.size.compare(m.size)
}

func (n number) plus(m number) number {
	switch {
	case n.negative == m.negative:
		return number{n.negative, n.size.plus(m.size, 1)}
	case n.size.less(m.size):
		return number{m.negative, m.size.plus(n.size, -1)}
	}
	return number{n.negative, n.size.plus(m.size, -1)}
}

func (n number) minus(m number) number {
	return n.plus(number{!m.negative, m.size})
}

func (n number) times(m number) number {
	return number{n.negative != m.negative, n.size.times(m.size)}
}

// divide returns the quotient and the remainder of n by d, which is not 0.
func (n number) divide(d number) (number, number) {
	q, r := n.size.divide(d.size)
	if n.negative && len(r) > 0 {
		// The multiple of d has to be below n, and not between n and 0.
		q, r = q.plus(natural{1}, 1), d.size.plus(r, -1)
	}
	return number{n.negative != d.negative, q}, number{false, r}
}

func (n number) gcd(m number) number {
	return number{false, n.size.gcd(m.size)}
}
