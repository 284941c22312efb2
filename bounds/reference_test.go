package bounds_test

import (
	"math/rand"
	"slices"

	"latecomer/api"
)

// The functions of this file follow the definitions of the chapter in other ways than the package does: bounds are numbers in maps, and cycles and paths are tried one after the other.

// none is NoBound.
const none = api.NoBound

// pair is a pair of variables.
type pair struct{ from, to int }

func constraint(from, to, most int) api.Constraint {
	return api.Constraint{From: from, To: to, Most: most}
}

// sums returns the least sums of the walks between variables, where there are any, and whether no walk leads back with a negative sum: it relaxes all constraints again and again, from each variable.
func sums(n int, l []api.Constraint) (map[pair]int, bool) {
	all := map[pair]int{}
	for start := range n {
		all[pair{start, start}] = 0
		for round := 0; ; round++ {
			changed := false
			for _, c := range l {
				known, ok := all[pair{start, c.From}]
				if !ok {
					continue
				}
				if known+c.Most < -1<<60 { // no walk that goes through no variable twice has such a sum
					return nil, false
				}
				if old, ok := all[pair{start, c.To}]; !ok || known+c.Most < old {
					all[pair{start, c.To}] = known + c.Most
					changed = true
				}
			}
			if !changed {
				break
			}
			if round == n {
				return nil, false
			}
		}
	}
	return all, true
}

// boundsOf returns the sums as bounds.
func boundsOf(n int, all map[pair]int) api.Bounds {
	b := api.Bounds{N: n}
	for i := range n {
		var list []int
		for j := range n {
			if sum, ok := all[pair{i, j}]; ok {
				list = append(list, sum)
			} else {
				list = append(list, none)
			}
		}
		b.Most = append(b.Most, list)
	}
	return b
}

// constraintsOf returns constraints, which need not be valid, that say what b says.
func constraintsOf(b api.Bounds) []api.Constraint {
	var l []api.Constraint
	for i, list := range b.Most {
		for j, most := range list {
			if i != j && most != none {
				l = append(l, constraint(i, j, most))
			}
		}
	}
	return l
}

// firstCycle returns the first cycle with a negative sum of at most so many indices: all cycles are tried, in their order.
func firstCycle(l []api.Constraint, longest int) []int {
	var try func(cycle []int, length, sum int) []int
	try = func(cycle []int, length, sum int) []int {
		first, last := l[cycle[0]], l[cycle[len(cycle)-1]]
		if len(cycle) == length {
			if last.To == first.From && sum < 0 {
				return cycle
			}
			return nil
		}
		for i := cycle[0] + 1; i < len(l); i++ {
			again := slices.ContainsFunc(cycle, func(k int) bool { return l[k].From == l[i].From })
			if l[i].From != last.To || again {
				continue
			}
			if found := try(append(slices.Clone(cycle), i), length, sum+l[i].Most); found != nil {
				return found
			}
		}
		return nil
	}
	for length := 1; length <= longest; length++ {
		for i, c := range l {
			if found := try([]int{i}, length, c.Most); found != nil {
				return found
			}
		}
	}
	return nil
}

// isCycle reports whether c is a cycle of l with a negative sum; l is valid.
func isCycle(l []api.Constraint, c []int) bool {
	if len(c) < 1 || len(c) > 24 {
		return false
	}
	froms := map[int]bool{}
	sum := 0
	for k, i := range c {
		if i < 0 || i >= len(l) {
			return false
		}
		if k > 0 && l[c[k-1]].To != l[i].From {
			return false
		}
		froms[l[i].From] = true
		sum += l[i].Most
	}
	return l[c[len(c)-1]].To == l[c[0]].From && len(froms) == len(c) && sum < 0
}

// isValid reports whether b is valid.
func isValid(b api.Bounds) bool {
	if b.N < 1 || b.N > 24 || len(b.Most) != b.N {
		return false
	}
	for i, list := range b.Most {
		if len(list) != b.N {
			return false
		}
		for j, most := range list {
			if most != none && (most < -1<<55 || most > 1<<55) || i == j && most != 0 {
				return false
			}
		}
	}
	for i := range b.N {
		for j := range b.N {
			for k := range b.N {
				if b.Most[i][j] != none && b.Most[j][k] != none && b.Most[i][k] > b.Most[i][j]+b.Most[j][k] {
					return false
				}
			}
		}
	}
	return true
}

// isConstraint reports whether c is valid for n.
func isConstraint(n int, c api.Constraint) bool {
	return 0 <= c.From && c.From < n && 0 <= c.To && c.To < n && c.From != c.To && -1<<50 <= c.Most && c.Most <= 1<<50 && 0 <= c.Agents && c.Agents <= 63
}

// add returns what Add should.
func add(b api.Bounds, c api.Constraint) (api.Bounds, bool, api.Errno) {
	if !isValid(b) || !isConstraint(b.N, c) {
		return api.Bounds{}, false, api.ErrArg
	}
	if back := b.Most[c.To][c.From]; back != none && back+c.Most < 0 {
		return api.Bounds{}, false, api.OK
	}
	result := copyOf(b)
	for i := range b.N {
		for j := range b.N {
			before, behind := b.Most[i][c.From], b.Most[c.To][j]
			if before == none || behind == none {
				continue
			}
			if sum := before + c.Most + behind; b.Most[i][j] == none || sum < b.Most[i][j] {
				result.Most[i][j] = sum
			}
			if most := result.Most[i][j]; most < -1<<55 || most > 1<<55 {
				return api.Bounds{}, false, api.ErrArg
			}
		}
	}
	return result, true, api.OK
}

// span returns what Range should.
func span(b api.Bounds, from, to int) (int, int, api.Errno) {
	if !isValid(b) || from < 0 || from >= b.N || to < 0 || to >= b.N {
		return 0, 0, api.ErrArg
	}
	low, high := -none, none
	if b.Most[to][from] != none {
		low = -b.Most[to][from]
	}
	if b.Most[from][to] != none {
		high = b.Most[from][to]
	}
	return low, high, api.OK
}

// point returns what Point should.
func point(b api.Bounds, from, to, v int) ([]int, api.Errno) {
	low, high, err := span(b, from, to)
	if err != api.OK || v < low || v > high || v < -1<<55 || v > 1<<55 {
		return nil, api.ErrArg
	}
	l := constraintsOf(b)
	if from != to {
		l = append(l, constraint(from, to, v), constraint(to, from, -v))
	}
	all, ok := sums(b.N, l)
	if !ok {
		panic("a value within the range contradicts the bounds")
	}
	var x []int
	for j := range b.N {
		value, ok := all[pair{from, j}]
		if !ok {
			value = 1 << 59
			for i := range b.N {
				if _, ok := all[pair{from, i}]; ok {
					continue
				}
				if sum, ok := all[pair{i, j}]; ok {
					value = min(value, 1<<59+sum)
				}
			}
		}
		x = append(x, value)
	}
	return x, api.OK
}

// holds reports whether the assignment x holds for l.
func holds(l []api.Constraint, x []int) bool {
	for _, c := range l {
		if x[c.To]-x[c.From] > c.Most {
			return false
		}
	}
	return true
}

// same reports whether all fields are equal.
func same(a, b api.Bounds) bool {
	if a.N != b.N || len(a.Most) != len(b.Most) {
		return false
	}
	for i := range a.Most {
		if !slices.Equal(a.Most[i], b.Most[i]) {
			return false
		}
	}
	return true
}

func copyOf(b api.Bounds) api.Bounds {
	c := api.Bounds{N: b.N}
	for _, list := range b.Most {
		c.Most = append(c.Most, slices.Clone(list))
	}
	return c
}

// isZero reports whether b is zero bounds.
func isZero(b api.Bounds) bool { return b.N == 0 && len(b.Most) == 0 }

// constraints returns so many constraints at random, with Most from low to high.
func constraints(random *rand.Rand, n, count, low, high int) []api.Constraint {
	var l []api.Constraint
	for range count {
		from := random.Intn(n)
		to := (from + 1 + random.Intn(n-1)) % n
		l = append(l, api.Constraint{From: from, To: to, Most: low + random.Intn(high-low+1), Agents: random.Intn(64)})
	}
	return l
}

// consistent returns so many constraints at random for which an assignment holds with values from 0 to size; it exceeds none of them by more than slack.
func consistent(random *rand.Rand, n, count, size, slack int) []api.Constraint {
	x := make([]int, n)
	for i := range x {
		x[i] = random.Intn(size + 1)
	}
	l := constraints(random, n, count, 0, slack)
	for i, c := range l {
		l[i].Most += x[c.To] - x[c.From]
	}
	return l
}

// circular returns constraints in some order that lead through some of n variables and back, with a sum near 0, and so many others.
func circular(random *rand.Rand, n, others int) []api.Constraint {
	l := consistent(random, n, others, 9, 3)
	through := random.Perm(n)[:2+random.Intn(n-1)]
	for k, from := range through {
		to := through[(k+1)%len(through)]
		l = append(l, constraint(from, to, to-from))
	}
	l[len(l)-1].Most += 1 - random.Intn(4)
	random.Shuffle(len(l), func(i, j int) { l[i], l[j] = l[j], l[i] })
	return l
}

// allBounds returns all bounds of n variables with these elements, valid or not.
func allBounds(n int, elements []int) []api.Bounds {
	all := []api.Bounds{boundsOf(n, nil)}
	for i := range n {
		all[0].Most[i][i] = 0
	}
	for i := range n {
		for j := range n {
			if i == j {
				continue
			}
			var more []api.Bounds
			for _, b := range all {
				for _, element := range elements {
					c := copyOf(b)
					c.Most[i][j] = element
					more = append(more, c)
				}
			}
			all = more
		}
	}
	return all
}
