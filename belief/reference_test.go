package belief_test

import (
	"math/rand"
	"slices"

	"latecomer/api"
	"latecomer/bounds"
	"latecomer/clock"
)

// The functions of this file follow the definitions of the chapter in other ways than the package does: sets are looked at bit by bit, and choices are made agent by agent. What the chapter says in terms of packages bounds and clock, they do by these.

// none is NoBound.
const none = api.NoBound

// end is MaxClosed.
const end = api.MaxClosed

func constraint(from, to, most, agents int) api.Constraint {
	return api.Constraint{From: from, To: to, Most: most, Agents: agents}
}

// fleetOf returns a valid fleet of so many agents, of whom so many lie at most.
func fleetOf(agents, liars int) api.Fleet {
	return api.Fleet{Drift: make([]int, agents), Latency: 50, Liars: liars, Services: []int{0}, Teams: []int{0}}
}

// has reports whether the bit is in the set.
func has(set, bit int) bool { return uint(set)>>bit%2 == 1 }

// believes reports whether all agents of c are in the set.
func believes(set int, c api.Constraint) bool {
	for bit := range 64 {
		if has(c.Agents, bit) && !has(set, bit) {
			return false
		}
	}
	return true
}

// part returns what Part should.
func part(l []api.Constraint, set int) []api.Constraint {
	return slices.DeleteFunc(slices.Clone(l), func(c api.Constraint) bool { return !believes(set, c) })
}

// choices returns all choices: the sets of which so many of the agents are left out, in ascending order.
func choices(agents, liars int) []int {
	if agents < liars || liars < 0 {
		return nil
	}
	if agents == 0 {
		return []int{0}
	}
	last := agents - 1
	all := choices(last, liars-1)
	for _, set := range choices(last, liars) {
		all = append(all, set+1<<last)
	}
	return all
}

// areValid reports whether f is valid, and l is valid for f and n.
func areValid(f api.Fleet, n int, l []api.Constraint) bool {
	if !clock.Valid(f) || n < 1 || n > 24 || len(l) > 2000 {
		return false
	}
	for _, c := range l {
		if c.From < 0 || c.From >= n || c.To < 0 || c.To >= n || c.From == c.To || c.Most < -1<<50 || c.Most > 1<<50 {
			return false
		}
		for bit := len(f.Drift); bit < 64; bit++ {
			if has(c.Agents, bit) {
				return false
			}
		}
	}
	return true
}

// view is a possible choice, with its bounds.
type view struct {
	choice int
	known  api.Bounds
}

// possible returns the possible choices, and the error of Choices.
func possible(f api.Fleet, n int, l []api.Constraint) ([]view, api.Errno) {
	if !areValid(f, n, l) {
		return nil, api.ErrArg
	}
	var all []view
	for _, set := range choices(len(f.Drift), f.Liars) {
		if b, _, err := bounds.Close(n, part(l, set)); err == api.OK {
			all = append(all, view{set, b})
		}
	}
	if all == nil {
		return nil, api.ErrBelief
	}
	return all, api.OK
}

// liars returns what Liars should.
func liars(f api.Fleet, n int, l []api.Constraint) (int, api.Errno) {
	all, err := possible(f, n, l)
	set := 0
	for agent := range f.Drift {
		if err == api.OK && !slices.ContainsFunc(all, func(b view) bool { return has(b.choice, agent) }) {
			set += 1 << agent
		}
	}
	return set, err
}

// span returns what Range should.
func span(f api.Fleet, n int, l []api.Constraint, from, to int) (int, int, api.Errno) {
	all, err := possible(f, n, l)
	if err == api.ErrArg || from < 0 || from >= n || to < 0 || to >= n {
		return 0, 0, api.ErrArg
	}
	if err != api.OK {
		return 0, 0, err
	}
	var lows, highs []int
	for _, b := range all {
		low, high, _ := bounds.Range(b.known, from, to)
		lows, highs = append(lows, low), append(highs, high)
	}
	return slices.Min(lows), slices.Max(highs), api.OK
}

// witness returns what Witness should.
func witness(f api.Fleet, n int, l []api.Constraint, from, to, v int) ([]int, int, api.Errno) {
	if _, _, err := span(f, n, l, from, to); err != api.OK {
		return nil, 0, err
	}
	all, _ := possible(f, n, l)
	for _, b := range all {
		if x, err := bounds.Point(b.known, from, to, v); err == api.OK {
			return x, b.choice, api.OK
		}
	}
	return nil, 0, api.ErrBelief
}

// holds reports whether x holds for all of l.
func holds(l []api.Constraint, x []int) bool {
	for _, c := range l {
		if x[c.To]-x[c.From] > c.Most {
			return false
		}
	}
	return true
}

// randomSet returns a set of few of the agents, or of any.
func randomSet(random *rand.Rand, agents int) int {
	switch random.Intn(8) {
	case 0:
		return random.Intn(1 << agents)
	case 1:
		return 0
	case 2, 3:
		return 1<<random.Intn(agents) | 1<<random.Intn(agents)
	}
	return 1 << random.Intn(agents)
}

// reports returns so many constraints on n variables, if there are two at least: what rests on no agent of the set lying holds for x; the others may be any, with about the same numbers.
func reports(random *rand.Rand, agents, n, count, lying int, x []int, slack int) []api.Constraint {
	var l []api.Constraint
	for n >= 2 && len(l) < count {
		from, to := random.Intn(n), random.Intn(n)
		if from == to {
			continue
		}
		c := constraint(from, to, x[to]-x[from]+random.Intn(slack+1), randomSet(random, agents))
		if c.Agents&lying != 0 {
			c.Most = x[to] - x[from] + random.Intn(4*slack+3) - 3*slack - 2
		}
		l = append(l, c)
	}
	return l
}

// assignment returns random values of n variables, from 0 to size.
func assignment(random *rand.Rand, n, size int) []int {
	x := make([]int, n)
	for i := range x {
		x[i] = random.Intn(size + 1)
	}
	return x
}

// someLiars returns a random set of at most so many of the agents.
func someLiars(random *rand.Rand, agents, most int) int {
	set := 0
	for range most {
		set |= 1 << random.Intn(agents)
	}
	if random.Intn(5) == 0 {
		return 0
	}
	return set
}

// story returns a fleet of random size, how many variables there are, what they are, the agents who lie (at most as many as may), and what all agents report.
func story(random *rand.Rand, mostVars int) (api.Fleet, int, []int, int, []api.Constraint) {
	agents := 1 + random.Intn(6)
	f := fleetOf(agents, random.Intn(min(3, agents)))
	n := 1 + random.Intn(mostVars)
	x := assignment(random, n, 1<<random.Intn(48))
	lying := someLiars(random, agents, f.Liars)
	l := reports(random, agents, n, random.Intn(5*n+1), lying, x, 1<<random.Intn(40))
	return f, n, x, lying, l
}

// quarrel returns a fleet of random size, a number of variables, and constraints of which any may contradict any others.
func quarrel(random *rand.Rand, mostVars int) (api.Fleet, int, []api.Constraint) {
	agents := 1 + random.Intn(6)
	f := fleetOf(agents, random.Intn(min(3, agents)))
	n := 2 + random.Intn(mostVars-1)
	x := make([]int, n)
	return f, n, reports(random, agents, n, random.Intn(3*n+1), 1<<agents-1, x, 1+random.Intn(4))
}
