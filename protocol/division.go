package protocol

import (
	"iter"
	"slices"

	"latecomer/api"
)

// missing is a list of operations: its length, and how often each operation is in it.
type missing struct {
	length int
	times  [api.MaxOps]int
}

// with returns m with an operation added so many times.
func (m missing) with(op, times int) missing {
	m.length += times
	m.times[op] += times
	return m
}

// compare returns a negative number if m comes before other, and a positive one if it comes after it.
func (m missing) compare(other missing) int {
	if m.length != other.length {
		return m.length - other.length
	}
	// Ascending lists of the same length first differ where one repeats an operation once more and the other one goes on to a greater one.
	return slices.Compare(other.times[:], m.times[:])
}

// list returns the operations of m in ascending order.
func (m missing) list() []int {
	var l []int
	for op, times := range m.times {
		l = append(l, slices.Repeat([]int{op}, times)...)
	}
	return l
}

// division is a division of the first children among the first items of a rule: how many children those are, and what is missing in it.
type division struct {
	children int
	missing  missing
}

// longer yields the divisions that begin with d and in which one more item gets some of the next children.
func (d division) longer(item api.Item, children []int) iter.Seq[division] {
	next := children[d.children:]
	return func(yield func(division) bool) {
		for got := range item.Most + 1 {
			if got > len(next) || got > 0 && next[got-1] != item.Op {
				return
			}
			if !yield(division{d.children + got, d.missing.with(item.Op, max(item.Least-got, 0))}) {
				return
			}
		}
	}
}

// leastMissing returns what is missing in the first one of the divisions of children among items, and whether there is any.
// Of the divisions of the same children among the same first items it goes on with the first one alone: whatever comes behind them adds the same to what is missing in each of them, which does not change their order.
func leastMissing(items []api.Item, children []int) (missing, bool) {
	least := map[int]missing{0: {}} // by how many children are divided
	for _, item := range items {
		next := map[int]missing{}
		for n, m := range least {
			for d := range (division{n, m}).longer(item, children) {
				if known, ok := next[d.children]; !ok || d.missing.compare(known) < 0 {
					next[d.children] = d.missing
				}
			}
		}
		least = next
	}
	m, ok := least[len(children)]
	return m, ok
}
