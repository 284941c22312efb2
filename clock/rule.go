package clock

import (
	"iter"
	"slices"

	"latecomer/api"
)

// limits are the least and the most that the time of an event may be behind that of another one: -NoBound and NoBound if there is no such limit.
type limits struct{ least, most int }

// rule returns the limits for the time of b, minus that of a.
type rule func(a, b api.Event) limits

// rules returns the rules for the events of a fleet: the one about the clocks comes first.
func rules(f api.Fleet) []rule {
	return []rule{
		func(a, b api.Event) limits {
			if a.Agent != b.Agent || a.Seq >= b.Seq {
				return anything()
			}
			return elapsed(b.At-a.At, f.Drift[a.Agent])
		},
		func(a, b api.Event) limits {
			return atLeast(f.Latency, a.Kind == api.ESend && b.Kind == api.EReceive && a.Link == b.Link)
		},
		func(a, b api.Event) limits {
			isHeld := a.Kind == api.EAcquire && b.Kind == api.ERelease && a.N == b.N
			isHandedOver := a.Kind == api.ERelease && b.Kind == api.EAcquire && a.N+1 == b.N
			return atLeast(0, a.Link == b.Link && (isHeld || isHandedOver))
		},
		func(a, b api.Event) limits {
			return atLeast(0, a.Kind == api.EBegin && b.Kind == api.EBegin && a.Span == b.Link)
		},
	}
}

// elapsed returns the limits of the time in which a clock with this drift goes on by so many ticks. Both readings are rounded down, so it has gone on by less than a tick more or less.
func elapsed(ticks, drift int) limits {
	d := limits{0, (ticks+1)*(api.Million+drift) - 1}
	if ticks >= 1 {
		d.least = (ticks-1)*(api.Million-drift) + 1
	}
	return d
}

// atLeast returns the limits of a difference that is at least so great, if the rule applies.
func atLeast(least int, applies bool) limits {
	if !applies {
		return anything()
	}
	return limits{least, api.NoBound}
}

// anything returns the limits of a difference about which a rule says nothing.
func anything() limits { return limits{-api.NoBound, api.NoBound} }

// pairs yields the pairs of different indices of n events, in their order.
func pairs(n int) iter.Seq2[int, int] {
	return func(yield func(int, int) bool) {
		for i := range n {
			for j := range n {
				if i != j && !yield(i, j) {
					return
				}
			}
		}
	}
}

// constraints returns what the rules say about the events l.
func constraints(l []api.Event, rules []rule) []api.Constraint {
	var all []api.Constraint
	for i, j := range pairs(len(l)) {
		agents := 1<<l[i].Agent | 1<<l[j].Agent
		for _, limitsOf := range rules {
			d := limitsOf(l[i], l[j])
			if d.least != -api.NoBound {
				all = append(all, api.Constraint{From: j, To: i, Most: -d.least, Agents: agents})
			}
			if d.most != api.NoBound {
				all = append(all, api.Constraint{From: i, To: j, Most: d.most, Agents: agents})
			}
		}
	}
	return all
}

// agree reports whether the times x agree with those constraints that rest on believed agents alone.
func agree(l []api.Constraint, x []int, agents int) bool {
	return !slices.ContainsFunc(l, func(c api.Constraint) bool {
		return c.Agents&^agents == 0 && x[c.To]-x[c.From] > c.Most
	})
}
