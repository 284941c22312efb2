package bounds

import (
	"slices"

	"latecomer/api"
)

// row has, for each variable, the least sum of some walks that lead to it from one and the same variable, or NoBound. A walk is a list of constraints, each of them from where the one before it leads to. NoBound is so great that no sum of NoBound and other elements is negative.
type row [api.MaxVars]int

// matrix has the row of each variable. It always has as many as there may be at most: what is not used is not bounded.
type matrix [api.MaxVars]row

// free returns the bounds without constraints.
func free() matrix {
	var m matrix
	for i := range m {
		for j := range m[i] {
			m[i][j] = api.NoBound
		}
		m[i][i] = 0
	}
	return m
}

// stepsOf returns the least sums of the walks of at most one constraint of l.
func stepsOf(l []api.Constraint) matrix {
	m := free()
	for _, c := range l {
		m[c.From][c.To] = min(m[c.From][c.To], c.Most)
	}
	return m
}

// read returns b as a matrix, and whether b is valid.
func read(b api.Bounds) (matrix, bool) {
	m := free()
	if b.N < 1 || b.N > api.MaxVars || len(b.Most) != b.N {
		return m, false
	}
	for i, list := range b.Most {
		if len(list) != b.N || list[i] != 0 {
			return m, false
		}
		copy(m[i][:], list)
	}
	if !m.isInRange() {
		return m, false
	}
	for k := range m {
		if m.lead(k, 0, k) {
			return m, false
		}
	}
	return m, true
}

// bounds returns what m says of the first n variables.
func (m *matrix) bounds(n int) api.Bounds {
	b := api.Bounds{N: n, Most: make([][]int, n)}
	for i := range b.Most {
		b.Most[i] = slices.Clone(m[i][:n])
	}
	return b
}

// isInRange reports whether all elements are such as valid bounds may have.
func (m *matrix) isInRange() bool {
	for i := range m {
		if slices.ContainsFunc(m[i][:], isOutOfRange) {
			return false
		}
	}
	return true
}

func isOutOfRange(n int) bool {
	return n != api.NoBound && (n < -api.MaxClosed || n > api.MaxClosed)
}

// extend makes the elements of r at most the sums of walks that have come to a variable with the sum so far, and go on from there as onward says. It reports whether an element became less.
func (r *row) extend(sum int, onward *row) bool {
	less := false
	for j, rest := range onward {
		if rest != api.NoBound && sum+rest < r[j] {
			r[j] = sum + rest
			less = true
		}
	}
	return less
}

// lead makes the elements of m at most the sums of walks that come to a, from there with most to b, and go on from b. It reports whether an element became less. Unless that is a contradiction, what it adds up does not change meanwhile.
func (m *matrix) lead(a, most, b int) bool {
	less := false
	for i := range m {
		if m[i][a] != api.NoBound && m[i].extend(m[i][a]+most, &m[b]) {
			less = true
		}
	}
	return less
}

// tighten makes the elements of m the least sums of walks of any length, and reports whether there is no contradiction. Where there is one, it stops at once, as what it adds up may soon be too great.
func (m *matrix) tighten() bool {
	for k := range m {
		m.lead(k, 0, k)
		if m.isContradictory() {
			return false
		}
	}
	return true
}

// isContradictory reports whether a walk leads back with a negative sum.
func (m *matrix) isContradictory() bool {
	for i := range m {
		if m[i][i] < 0 {
			return true
		}
	}
	return false
}

// assignment returns values of n variables, with these bounds; from has 0.
func (m *matrix) assignment(n, from int) []int {
	x := slices.Clone(m[from][:n])
	for j := range x {
		if x[j] == api.NoBound {
			x[j] = api.Beyond + m.leastTo(j)
		}
	}
	return x
}

// leastTo returns the least element of the variable j in all rows; it is at most 0, which is in its own row.
func (m *matrix) leastTo(j int) int {
	least := 0
	for i := range m {
		least = min(least, m[i][j])
	}
	return least
}
