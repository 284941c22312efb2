package order

import (
	"slices"

	"latecomer/api"
)

// mirrored has, for the relation of two events i and j, that of j and i.
var mirrored = [...]int{
	api.OBefore:    api.OAfter,
	api.ONotAfter:  api.ONotBefore,
	api.OSame:      api.OSame,
	api.ONotBefore: api.ONotAfter,
	api.OAfter:     api.OBefore,
	api.OOpen:      api.OOpen,
}

// rule says for which durations from one event to another one they have a relation, if no rule before it applies.
type rule struct {
	relation int
	applies  func(low, high int) bool
}

// rules returns the rules for all relations but OOpen, in the order in which they are tried.
func rules() []rule {
	return []rule{
		{api.OSame, func(low, high int) bool { return low == 0 && high == 0 }},
		{api.OBefore, func(low, _ int) bool { return low >= 1 }},
		{api.OAfter, func(_, high int) bool { return high <= -1 }},
		{api.ONotAfter, func(low, _ int) bool { return low == 0 }},
		{api.ONotBefore, func(_, high int) bool { return high == 0 }},
	}
}

// relation returns the relation of two events with the duration from low to high.
func relation(low, high int) int {
	for _, r := range rules() {
		if r.applies(low, high) {
			return r.relation
		}
	}
	return api.OOpen
}

// relations returns the relations of all pairs of events, if most has the greatest time from each one to each other one.
func relations(most [][]int) [][]int {
	m := make([][]int, len(most))
	for i := range m {
		m[i] = make([]int, len(most))
		for j := range i + 1 {
			m[i][j] = relation(-most[j][i], most[i][j])
			m[j][i] = mirrored[m[i][j]]
		}
	}
	return m
}

// sorted returns all indices of events with the relations m: always the least one of those that are left before which no other one of them certainly is. There always is one, because no events are certainly before each other in a circle.
func sorted(m [][]int) []int {
	var order, left []int
	for i := range m {
		left = append(left, i)
	}
	for len(left) > 0 {
	round:
		for place, k := range left {
			for _, other := range left {
				if m[other][k] == api.OBefore {
					continue round
				}
			}
			order = append(order, k)
			left = slices.Delete(left, place, place+1)
			break
		}
	}
	return order
}
