package order_test

import (
	"cmp"
	"math/rand"
	"slices"

	"latecomer/api"
	"latecomer/belief"
	"latecomer/clock"
)

// The functions of this file follow the definitions of the chapter in other ways than the package does: choices are counted out, constraints are relaxed until nothing changes, a possible last is one for which further constraints contradict nothing, and events are sorted by counting those before them. What the chapter says in terms of package clock, they do by it.

// none is NoBound.
const none = api.NoBound

// known is what the events of a trace say: for each possible choice, the constraints that it believes, and the durations of all pairs.
type known struct {
	n         int
	choices   []int
	believed  [][]api.Constraint
	low, high [][]int
	err       api.Errno
}

// has reports whether the agent is in the set.
func has(set, agent int) bool { return uint(set)>>agent%2 == 1 }

// agentsIn returns the number of agents in the set.
func agentsIn(set int) int {
	count := 0
	for agent := range 6 {
		if has(set, agent) {
			count++
		}
	}
	return count
}

// settle makes the values of d so small that they hold for l, and reports whether that is possible.
func settle(l []api.Constraint, d []int) bool {
	for range len(d) + 1 {
		changed := false
		for _, c := range l {
			if d[c.From] != none && d[c.From]+c.Most < d[c.To] {
				d[c.To] = d[c.From] + c.Most
				changed = true
			}
		}
		if !changed {
			return true
		}
	}
	return false
}

// isPossible reports whether no constraints of l contradict each other.
func isPossible(n int, l []api.Constraint) bool { return settle(l, make([]int, n)) }

// farthest returns the greatest difference of each of n variables minus the variable from.
func farthest(n int, l []api.Constraint, from int) []int {
	d := slices.Repeat([]int{none}, n)
	d[from] = 0
	settle(l, d)
	return d
}

// study returns what is known of l, for which f is valid.
func study(f api.Fleet, l []api.Event) known {
	all, err := clock.Constraints(f, l)
	if err != api.OK {
		return known{err: api.ErrOrder}
	}
	k := known{n: len(l)}
	for set := range 1 << len(f.Drift) {
		believed := slices.DeleteFunc(slices.Clone(all), func(c api.Constraint) bool { return c.Agents|set != set })
		if agentsIn(set) == len(f.Drift)-f.Liars && isPossible(k.n, believed) {
			k.choices = append(k.choices, set)
			k.believed = append(k.believed, believed)
		}
	}
	if len(k.choices) == 0 {
		return known{err: api.ErrBelief}
	}
	for range k.n {
		k.low = append(k.low, slices.Repeat([]int{none}, k.n))
		k.high = append(k.high, slices.Repeat([]int{-none}, k.n))
	}
	for _, believed := range k.believed {
		for i := range k.n {
			for j, d := range farthest(k.n, believed, i) {
				k.high[i][j] = max(k.high[i][j], d)
				k.low[j][i] = min(k.low[j][i], -d)
			}
		}
	}
	return k
}

// relation returns the relation of i and j.
func (k known) relation(i, j int) int {
	low, high := k.low[i][j], k.high[i][j]
	switch {
	case low == 0 && high == 0:
		return 3
	case low > 0:
		return 1
	case high < 0:
		return 5
	case low == 0:
		return 2
	case high == 0:
		return 4
	}
	return 6
}

// matrix returns what Matrix should.
func (k known) matrix() [][]int {
	var m [][]int
	for i := range k.n {
		m = append(m, nil)
		for j := range k.n {
			m[i] = append(m[i], k.relation(i, j))
		}
	}
	return m
}

// sort returns what Sort should.
func (k known) sort() []int {
	before := make([]int, k.n) // of those that are left; -1 for an event that is not
	for i := range k.n {
		for j := range k.n {
			if k.low[i][j] > 0 {
				before[j]++
			}
		}
	}
	var order []int
	for range k.n {
		next := slices.Index(before, 0)
		order = append(order, next)
		before[next] = -1
		for j := range k.n {
			if k.low[next][j] > 0 {
				before[j]--
			}
		}
	}
	return order
}

// lasts returns what Lasts should.
func (k known) lasts(set []int) []int {
	var all []int
	for _, last := range set {
		var further []api.Constraint
		for _, i := range set {
			if i != last {
				further = append(further, api.Constraint{From: last, To: i})
			}
		}
		if slices.ContainsFunc(k.believed, func(l []api.Constraint) bool { return isPossible(k.n, slices.Concat(l, further)) }) {
			all = append(all, last)
		}
	}
	return all
}

// eachIsLastOfTwo reports whether each other event of set may be no later than the event last, asked for alone.
func (k known) eachIsLastOfTwo(set []int, last int) bool {
	return !slices.ContainsFunc(set, func(i int) bool { return k.high[i][last] < 0 })
}

// contradictsNone reports whether the order in which the events are listed contradicts no relation.
func (k known) contradictsNone() bool {
	for j := range k.n {
		for i := range j {
			if k.high[i][j] < 0 {
				return false
			}
		}
	}
	return true
}

// fleetOf returns a valid fleet of agents with these drifts.
func fleetOf(latency, liars int, drift ...int) api.Fleet {
	return api.Fleet{Drift: drift, Latency: latency, Liars: liars, Services: []int{0, 1, 1}, Teams: []int{0, 3}}
}

// randomFleet returns a valid fleet of at most so many agents.
func randomFleet(random *rand.Rand, most int) api.Fleet {
	drift := make([]int, 1+random.Intn(most))
	for a := range drift {
		drift[a] = []int{0, 1, 37, 1000}[random.Intn(4)]
	}
	return fleetOf([]int{0, 1, 50, 250000, 1000000}[random.Intn(5)], max(0, random.Intn(min(3, len(drift))+1)-1), drift...)
}

// put puts events in their order, and their times with them.
func put(l []api.Event, x []int) ([]api.Event, []int) {
	order := make([]int, len(l))
	for i := range order {
		order[i] = i
	}
	slices.SortFunc(order, func(i, j int) int {
		return cmp.Or(cmp.Compare(l[i].Agent, l[j].Agent), cmp.Compare(l[i].Seq, l[j].Seq))
	})
	var events []api.Event
	var times []int
	for _, i := range order {
		events, times = append(events, l[i]), append(times, x[i])
	}
	return events, times
}

// randomEvent returns a valid event of a fleet of fleetOf, with one of so many links.
func randomEvent(random *rand.Rand, agent, links int) api.Event {
	spans := 2 + links%9
	e := api.Event{Agent: agent, Kind: 1 + random.Intn(7), Trace: 17, Span: random.Intn(spans), Bytes: random.Intn(1001)}
	switch e.Kind {
	case api.EBegin:
		e.Link = (e.Span+2+random.Intn(spans))%(spans+1) - 1
		e.Op, e.Version, e.Person = random.Intn(3), random.Intn(10), random.Intn(21)-1
	case api.ESend, api.EReceive:
		e.Link = random.Intn(links)
	case api.ECancel:
		e.Link = random.Intn(10)
	case api.EAcquire, api.ERelease:
		e.Link, e.N = random.Intn(2), random.Intn(links)
	}
	return e
}

// someAgents returns a random set of at most so many of the agents.
func someAgents(random *rand.Rand, agents, most int) int {
	set := 0
	for range most {
		set |= 1 << random.Intn(agents)
	}
	if random.Intn(4) == 0 {
		return 0
	}
	return set
}

// clocksOf returns a clock for each agent, as good as the fleet says, or better.
func clocksOf(random *rand.Rand, f api.Fleet) []api.Clock {
	var clocks []api.Clock
	for _, drift := range f.Drift {
		a := api.Anchor{At: 1000 + random.Intn(300), Time: random.Intn(api.Million)}
		clocks = append(clocks, api.Clock{Drift: random.Intn(drift + 1), Anchors: []api.Anchor{a}})
	}
	return clocks
}

// honestEvent returns what happens at the time t: it agrees with what was sent at the times sent, and with who holds the resource.
func honestEvent(random *rand.Rand, f api.Fleet, i, t int, sent map[int]int, grants *int) api.Event {
	e := api.Event{Agent: random.Intn(len(f.Drift)), Kind: api.EEnd, Trace: 17, Span: i % 10, Bytes: i}
	switch random.Intn(5) {
	case 0:
		e.Kind, e.Link = api.ESend, i
		sent[i] = t
	case 1, 2:
		for link := range 24 {
			if then, ok := sent[link]; ok && t-then >= f.Latency && random.Intn(2) == 0 {
				e.Kind, e.Link = api.EReceive, link
			}
		}
	case 3:
		e.Kind, e.Link, e.N = api.EAcquire+*grants%2, 5, *grants/2
		*grants++
	case 4:
		if i < 10 {
			e.Kind, e.Link = api.EBegin, i-1
		}
	}
	return e
}

// story returns a fleet, at most so many events that its agents report, the times at which they happened, and the set of agents who lie: at most as many as may. What the others report agrees with the times.
func story(random *rand.Rand, most int) (api.Fleet, []api.Event, []int, int) {
	f := randomFleet(random, 6)
	clocks := clocksOf(random, f)
	lying := someAgents(random, len(f.Drift), f.Liars)
	size := 1 << random.Intn(27)
	x := make([]int, random.Intn(most+1))
	for i := range x {
		x[i] = random.Intn(size)
	}
	slices.Sort(x)
	var l []api.Event
	sent := map[int]int{}
	grants := random.Intn(50)
	for i, t := range x {
		e := honestEvent(random, f, i, t, sent, &grants)
		e.At, _ = clock.Reading(clocks[e.Agent], t)
		if has(lying, e.Agent) {
			at := e.At + random.Intn(9) - 4
			e = randomEvent(random, e.Agent, 10)
			e.At = at
		}
		e.Seq = 3*i + random.Intn(3)
		l = append(l, e)
	}
	l, x = put(l, x)
	return f, l, x, lying
}

// quarrel returns a fleet, and at most so many events of which any may contradict any others.
func quarrel(random *rand.Rand, most int) (api.Fleet, []api.Event) {
	f := randomFleet(random, 6)
	links := 1 + random.Intn(20)
	at := make([]int, len(f.Drift))
	for agent := range at {
		at[agent] = 100 + random.Intn(3)
	}
	var l []api.Event
	for i := range random.Intn(most + 1) {
		e := randomEvent(random, random.Intn(len(f.Drift)), links)
		at[e.Agent] += random.Intn(3)
		if random.Intn(30) == 0 {
			at[e.Agent]--
		}
		e.Seq, e.At = i, at[e.Agent]
		l = append(l, e)
	}
	l, _ = put(l, make([]int, len(l)))
	return f, l
}

// feud returns at most so many events of agents who send each other messages; some of them claim to have answered each other before the other one did, and some spans to be each other's children.
func feud(random *rand.Rand, f api.Fleet, most int) []api.Event {
	at := make([]int, len(f.Drift))
	var l []api.Event
	report := func(agent int, e api.Event) {
		at[agent] += random.Intn(4) / 3
		e.Agent, e.Seq, e.At, e.Trace = agent, len(l), at[agent], 17
		l = append(l, e)
	}
	for link := 0; len(l)+4 <= most; link += 2 {
		a, b := random.Intn(len(f.Drift)), random.Intn(len(f.Drift))
		switch random.Intn(5) {
		case 0:
			report(a, api.Event{Kind: api.EReceive, Link: link + 1})
			report(a, api.Event{Kind: api.ESend, Link: link})
			report(b, api.Event{Kind: api.EReceive, Link: link})
			report(b, api.Event{Kind: api.ESend, Link: link + 1})
		case 1:
			report(a, api.Event{Kind: api.EBegin, Span: link % 10, Link: link%10 + 1})
			report(b, api.Event{Kind: api.EBegin, Span: link%10 + 1, Link: link % 10})
		default:
			report(a, api.Event{Kind: api.ESend, Link: link})
			report(b, api.Event{Kind: api.EReceive, Link: link})
		}
	}
	l, _ = put(l, make([]int, len(l)))
	return l
}

// tale returns the events of a story, of a quarrel, or of a feud.
func tale(random *rand.Rand, most int) (api.Fleet, []api.Event) {
	switch random.Intn(3) {
	case 0:
		return quarrel(random, most)
	case 1:
		f := randomFleet(random, 4)
		return f, feud(random, f, most)
	}
	f, l, _, _ := story(random, most)
	return f, l
}

// randomSet returns some of n indices, strictly ascending.
func randomSet(random *rand.Rand, n int) []int {
	var set []int
	share := 1 + random.Intn(4)
	for i := range n {
		if random.Intn(share) == 0 {
			set = append(set, i)
		}
	}
	return set
}

// holds reports whether x holds for those constraints that rest on agents of the choice alone.
func holds(l []api.Constraint, choice int, x []int) bool {
	for _, c := range belief.Part(l, choice) {
		if x[c.To]-x[c.From] > c.Most {
			return false
		}
	}
	return true
}
