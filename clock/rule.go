package clock

import (
	"iter"
	"slices"

	"latecomer/api"
)

// interval is the least and the greatest difference of two times: NoBound if there is no greatest one.
type interval struct{ least, most int }

// rule says of those pairs of events to which it applies how far the time of b is behind that of a.
type rule struct {
	applies func(a, b api.Event) bool
	admits  func(a, b api.Event) interval
}

// rules returns the rules for the events of a fleet: the one about the clocks comes first.
func rules(f api.Fleet) []rule {
	return []rule{
		{isLater, func(a, b api.Event) interval { return elapsed(b.At-a.At, f.Drift[a.Agent]) }},
		{isMessage, atLeast(f.Latency)},
		{isGrant, atLeast(0)},
		{isChild, atLeast(0)},
	}
}

// isLater reports whether the agent that reported a has reported b behind it.
func isLater(a, b api.Event) bool { return a.Agent == b.Agent && a.Seq < b.Seq }

// isMessage reports whether a sends the message that b receives.
func isMessage(a, b api.Event) bool {
	return a.Kind == api.ESend && b.Kind == api.EReceive && a.Link == b.Link
}

// isGrant reports whether b ends the grant that a begins, or begins the next grant behind the one that a ends.
func isGrant(a, b api.Event) bool {
	isHeld := a.Kind == api.EAcquire && b.Kind == api.ERelease && a.N == b.N
	isHandedOver := a.Kind == api.ERelease && b.Kind == api.EAcquire && a.N+1 == b.N
	return a.Link == b.Link && (isHeld || isHandedOver)
}

// isChild reports whether b begins a child of the span that a begins.
func isChild(a, b api.Event) bool {
	return a.Kind == api.EBegin && b.Kind == api.EBegin && a.Span == b.Link
}

// elapsed returns in how much time a clock with this drift goes on by so many ticks. Both readings are rounded down, so it has gone on by less than a tick more or less.
func elapsed(ticks, drift int) interval {
	d := interval{0, (ticks+1)*(api.Million+drift) - 1}
	if ticks >= 1 {
		d.least = (ticks-1)*(api.Million-drift) + 1
	}
	return d
}

// atLeast returns what a rule admits that has a least difference only.
func atLeast(least int) func(a, b api.Event) interval {
	return func(a, b api.Event) interval { return interval{least, api.NoBound} }
}

// pairs yields the pairs of different indices of n events, in their order.
func pairs(n int) iter.Seq2[int, int] {
	return func(yield func(int, int) bool) {
		for i := range n {
			for j := range n {
				if i != j && !yield(i, j) {
					return
				}
			}
		}
	}
}

// constraints returns what the rules say about the events l.
func constraints(l []api.Event, rules []rule) []api.Constraint {
	var all []api.Constraint
	for i, j := range pairs(len(l)) {
		agents := 1<<l[i].Agent | 1<<l[j].Agent
		for _, r := range rules {
			if !r.applies(l[i], l[j]) {
				continue
			}
			d := r.admits(l[i], l[j])
			all = append(all, api.Constraint{From: j, To: i, Most: -d.least, Agents: agents})
			if d.most != api.NoBound {
				all = append(all, api.Constraint{From: i, To: j, Most: d.most, Agents: agents})
			}
		}
	}
	return all
}

// agree reports whether the times x agree with those constraints that rest on believed agents alone.
func agree(l []api.Constraint, x []int, agents int) bool {
	return !slices.ContainsFunc(l, func(c api.Constraint) bool {
		return c.Agents&^agents == 0 && x[c.To]-x[c.From] > c.Most
	})
}
