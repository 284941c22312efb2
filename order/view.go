package order

import (
	"iter"
	"slices"

	"latecomer/api"
	"latecomer/belief"
	"latecomer/bounds"
	"latecomer/clock"
)

// views returns the bounds that the possible choices have for the times of l, one after the other; none if there are no events.
func views(f api.Fleet, l []api.Event) (iter.Seq[api.Bounds], api.Errno) {
	c, err := clock.Constraints(f, l)
	if err != api.OK {
		return nil, api.ErrOrder
	}
	var choices []int
	if len(l) > 0 { // package belief speaks of one variable at least
		choices, err = belief.Choices(f, len(l), c)
	}
	return func(yield func(api.Bounds) bool) {
		for _, choice := range choices {
			b, _, _ := bounds.Close(len(l), belief.Part(c, choice))
			if !yield(b) {
				return
			}
		}
	}, err
}

// greatest returns, for each two events, the greatest time from the first one to the second one that is within any of the bounds.
func greatest(all iter.Seq[api.Bounds]) [][]int {
	var m [][]int
	for b := range all {
		if m == nil {
			m = b.Most
		}
		for i, row := range b.Most {
			for j, most := range row {
				m[i][j] = max(m[i][j], most)
			}
		}
	}
	return m
}

// mayBeLast reports whether there are times within b at which no event of set is later than k. Each event of set may be asked for alone: that none is later bounds times from k only, and no contradiction needs two such bounds.
func mayBeLast(b api.Bounds, set []int, k int) bool {
	return !slices.ContainsFunc(set, func(i int) bool { return b.Most[i][k] < 0 })
}
