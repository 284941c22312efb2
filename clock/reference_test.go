package clock_test

import (
	"cmp"
	"math/rand"
	"slices"
	"sort"

	"latecomer/api"
)

// The functions of this file follow the definitions of the chapter in other ways than the package does: the words of the chapter are written out as loops over all events, and ticks are searched for.

const million = 1000000

// greatest is the greatest time.
const greatest = 1 << 44

// among reports whether v is from low to high.
func among(low, v, high int) bool { return low <= v && v <= high }

// isFleet reports whether f is valid.
func isFleet(f api.Fleet) bool {
	agents := len(f.Drift)
	if agents == 0 || agents > 6 || len(f.Teams) == 0 || len(f.Teams) > 8 || len(f.Services) == 0 || len(f.Services) > 12 {
		return false
	}
	for _, d := range f.Drift {
		if d < 0 || d > 1000 {
			return false
		}
	}
	for _, team := range f.Teams {
		if team < 0 || team > 3 {
			return false
		}
	}
	for _, service := range f.Services {
		if service < 0 || service >= len(f.Teams) {
			return false
		}
	}
	return among(0, f.Latency, 1000000) && among(0, f.Liars, 2) && f.Liars < agents
}

// isEvent reports whether e is valid: what is named is checked, and then put to 0, as everything else must be.
func isEvent(e api.Event) bool {
	ok := among(0, e.Agent, 5) && among(0, e.Seq, 999) && among(0, e.At, 1000000) && among(0, e.Trace, 999) && among(0, e.Span, 9) && among(0, e.Bytes, 1000)
	switch e.Kind {
	case 1:
		ok = ok && among(-1, e.Link, 9) && e.Link != e.Span && among(0, e.Op, 11) && among(0, e.Version, 9) && among(-1, e.Person, 19)
		e.Link, e.Op, e.Version, e.Person = 0, 0, 0, 0
	case 2:
	case 3, 4:
		ok = ok && among(0, e.Link, 99)
		e.Link = 0
	case 5, 6:
		ok = ok && among(0, e.Link, 99) && among(0, e.N, 99)
		e.Link, e.N = 0, 0
	case 7:
		ok = ok && among(0, e.Link, 9)
		e.Link = 0
	default:
		return false
	}
	rest := api.Event{Agent: e.Agent, Seq: e.Seq, At: e.At, Kind: e.Kind, Trace: e.Trace, Span: e.Span, Bytes: e.Bytes}
	return ok && e == rest
}

// areEvents reports whether f is valid, and l are events of a trace for it.
func areEvents(f api.Fleet, l []api.Event) bool {
	if !isFleet(f) || len(l) > 24 {
		return false
	}
	for i, e := range l {
		if !isEvent(e) || e.Trace != l[0].Trace || e.Agent >= len(f.Drift) || e.Kind == 1 && e.Op >= len(f.Services) {
			return false
		}
		for _, before := range l[:i] {
			if before.Agent*1000+before.Seq >= e.Agent*1000+e.Seq {
				return false
			}
		}
	}
	return true
}

// clockAgrees reports whether the times s and t agree with two events of one agent, of which a has the smaller Seq.
func clockAgrees(drift int, a, b api.Event, s, t int) bool {
	d := b.At - a.At
	if s > t || t-s >= (d+1)*(million+drift) {
		return false
	}
	return d < 1 || t-s > (d-1)*(million-drift)
}

// linkAgrees reports whether the times s and t agree with a and b as far as messages, grants and parents are concerned.
func linkAgrees(latency int, a, b api.Event, s, t int) bool {
	switch {
	case a.Kind == api.ESend && b.Kind == api.EReceive && a.Link == b.Link:
		return s+latency <= t
	case a.Kind == api.EAcquire && b.Kind == api.ERelease && a.Link == b.Link && a.N == b.N:
		return s <= t
	case a.Kind == api.ERelease && b.Kind == api.EAcquire && a.Link == b.Link && b.N-a.N == 1:
		return s <= t
	case a.Kind == api.EBegin && b.Kind == api.EBegin && b.Link == a.Span:
		return s <= t
	}
	return true
}

// areTimes reports whether x are times.
func areTimes(x []int) bool {
	for _, t := range x {
		if t > greatest || t < -greatest {
			return false
		}
	}
	return true
}

// agrees returns what Agrees should.
func agrees(f api.Fleet, l []api.Event, x []int, agents int) bool {
	if !areEvents(f, l) || len(x) != len(l) || !areTimes(x) {
		return false
	}
	for i, a := range l {
		for j, b := range l {
			if uint(agents)>>a.Agent%2 == 0 || uint(agents)>>b.Agent%2 == 0 {
				continue
			}
			if a.Agent == b.Agent && a.Seq < b.Seq && !clockAgrees(f.Drift[a.Agent], a, b, x[i], x[j]) {
				return false
			}
			if !linkAgrees(f.Latency, a, b, x[i], x[j]) {
				return false
			}
		}
	}
	return true
}

// constraints returns what Constraints should: for each pair, the bounds are those differences at which the words of the chapter begin and cease to be true.
func constraints(f api.Fleet, l []api.Event) []api.Constraint {
	var all []api.Constraint
	const far = 1 << 42
	for i, a := range l {
		for j, b := range l {
			if i == j {
				continue
			}
			set := 0
			for agent := range 6 {
				if a.Agent == agent || b.Agent == agent {
					set += 1 << agent
				}
			}
			atLeast := func(low int) { all = append(all, api.Constraint{From: j, To: i, Most: -low, Agents: set}) }
			if a.Agent == b.Agent && a.Seq < b.Seq {
				drift, d := f.Drift[a.Agent], b.At-a.At
				low := sort.Search(far, func(y int) bool { return y >= 0 && (d < 1 || y > (d-1)*(million-drift)) })
				above := sort.Search(2*far, func(y int) bool { return y-far >= (d+1)*(million+drift) }) - far
				atLeast(low)
				all = append(all, api.Constraint{From: i, To: j, Most: above - 1, Agents: set})
			}
			if !linkAgrees(f.Latency, a, b, 0, -1) {
				atLeast(sort.Search(far, func(y int) bool { return linkAgrees(f.Latency, a, b, 0, y) }))
			}
		}
	}
	return all
}

// holds reports whether x holds for those constraints whose agents are all in the set.
func holds(l []api.Constraint, x []int, agents int) bool {
	for _, c := range l {
		if c.Agents|agents == agents && x[c.To]-x[c.From] > c.Most {
			return false
		}
	}
	return true
}

// isClock reports whether c is valid.
func isClock(c api.Clock) bool {
	for _, a := range c.Anchors {
		if a.At < 0 || a.At > 1000001 || a.Time < -greatest || a.Time > greatest {
			return false
		}
	}
	return among(0, c.Drift, 1000) && among(1, len(c.Anchors), 24)
}

// begin returns the time at which the tick r of the clock begins.
func begin(c api.Clock, r int) int {
	var times []int
	for _, a := range c.Anchors {
		if r >= a.At {
			times = append(times, a.Time+(r-a.At)*(million-c.Drift))
		} else {
			times = append(times, a.Time-(a.At-r)*(million+c.Drift))
		}
	}
	return slices.Max(times)
}

// reading returns what Reading should: it searches for the first tick that begins later.
func reading(c api.Clock, t int) (int, api.Errno) {
	if !isClock(c) || t > greatest || t < -greatest {
		return 0, api.ErrClock
	}
	const far = 1 << 27 // ticks last so long that no reading is as great
	return sort.Search(2*far, func(r int) bool { return begin(c, r-far) > t }) - far - 1, api.OK
}

// find returns what Find should.
func find(f api.Fleet, l []api.Event, x []int, agent int) (api.Clock, api.Errno) {
	if !areEvents(f, l) || agent < 0 || agent >= len(f.Drift) || len(x) != len(l) || !areTimes(x) {
		return api.Clock{}, api.ErrClock
	}
	c := api.Clock{Drift: f.Drift[agent]}
	var own []api.Event
	var times []int
	for i, e := range l {
		if e.Agent == agent {
			own = append(own, e)
			times = append(times, x[i])
			c.Anchors = append(c.Anchors, api.Anchor{At: e.At + 1, Time: x[i] + 1})
		}
	}
	for j := range own {
		for i := range j {
			if !clockAgrees(c.Drift, own[i], own[j], times[i], times[j]) {
				return api.Clock{}, api.ErrClock
			}
		}
	}
	if !isClock(c) {
		return api.Clock{}, api.ErrClock
	}
	return c, api.OK
}

func sameClock(a, b api.Clock) bool {
	return a.Drift == b.Drift && slices.Equal(a.Anchors, b.Anchors)
}

// fleetOf returns a valid fleet of agents with these drifts.
func fleetOf(latency int, drift ...int) api.Fleet {
	return api.Fleet{Drift: drift, Latency: latency, Services: []int{0, 1, 1}, Teams: []int{0, 3}}
}

// randomFleet returns a valid fleet.
func randomFleet(random *rand.Rand) api.Fleet {
	drifts := make([]int, 1+random.Intn(6))
	for a := range drifts {
		drifts[a] = []int{0, 1, 37, 999, 1000}[random.Intn(5)]
	}
	return fleetOf([]int{0, 1, 250000, 1000000}[random.Intn(4)], drifts...)
}

// put puts events in their order, and their times with them.
func put(l []api.Event, x []int) ([]api.Event, []int) {
	order := make([]int, len(l))
	for i := range order {
		order[i] = i
	}
	slices.SortFunc(order, func(i, j int) int {
		return cmp.Or(cmp.Compare(l[i].Agent, l[j].Agent), cmp.Compare(l[i].Seq, l[j].Seq))
	})
	var events []api.Event
	var times []int
	for _, i := range order {
		events = append(events, l[i])
		times = append(times, x[i])
	}
	return events, times
}

// randomEvent returns a valid event of a fleet of fleetOf; there are so few links that many events have the same one.
func randomEvent(random *rand.Rand, agents int) api.Event {
	e := api.Event{Agent: random.Intn(agents), Kind: 1 + random.Intn(7), Trace: 17, Span: random.Intn(3), Bytes: random.Intn(1001)}
	switch e.Kind {
	case api.EBegin:
		e.Link = (e.Span+2+random.Intn(3))%4 - 1
		e.Op, e.Version, e.Person = random.Intn(3), random.Intn(10), random.Intn(21)-1
	case api.ESend, api.EReceive, api.ECancel:
		e.Link = random.Intn(2)
	case api.EAcquire, api.ERelease:
		e.Link, e.N = random.Intn(2), random.Intn(3)
	}
	return e
}

// randomEvents returns so many events of a trace with readings from at to at + spread, in any order.
func randomEvents(random *rand.Rand, f api.Fleet, count, at, spread int) []api.Event {
	var l []api.Event
	for range count {
		e := randomEvent(random, len(f.Drift))
		e.At = at + random.Intn(spread+1)
		e.Seq = 10 * random.Intn(90)
		for slices.ContainsFunc(l, func(o api.Event) bool { return o.Agent == e.Agent && o.Seq == e.Seq }) {
			e.Seq++
		}
		l = append(l, e)
	}
	l, _ = put(l, make([]int, count))
	return l
}

// randomClock returns a valid clock whose tick 500000 begins near the time 0.
func randomClock(random *rand.Rand, drift int) api.Clock {
	c := api.Clock{Drift: drift}
	for range 1 + random.Intn(24) {
		ticks := random.Intn(201) - 100
		c.Anchors = append(c.Anchors, api.Anchor{At: 500000 + ticks, Time: ticks*million + random.Intn(200000)})
	}
	return c
}

// story returns events that clocks of the fleet, or better ones, show at some times, with messages, grants and parents that agree with these times.
func story(random *rand.Rand, f api.Fleet, count, size int) ([]api.Event, []int, []api.Clock) {
	var clocks []api.Clock
	for _, drift := range f.Drift {
		clocks = append(clocks, randomClock(random, random.Intn(drift+1)))
	}
	times := make([]int, count)
	for i := range times {
		times[i] = random.Intn(size+1) - size/2
	}
	slices.Sort(times)
	var l []api.Event
	sent := map[int]int{}
	seqs := map[int]int{}
	held, grant := false, 5
	for i, t := range times {
		e := api.Event{Agent: random.Intn(len(f.Drift)), Kind: api.EEnd, Trace: 999, Span: i % 10, Bytes: i}
		switch random.Intn(4) {
		case 0:
			e.Kind, e.Link = api.ESend, i
			sent[i] = t
		case 1:
			for link, then := range sent {
				if t-then >= f.Latency && (e.Kind == api.EEnd || link < e.Link) {
					e.Kind, e.Link = api.EReceive, link
				}
			}
		case 2:
			e.Kind, e.N = api.EAcquire, grant
			if held {
				e.Kind = api.ERelease
				grant++
			}
			held = !held
		case 3:
			if i < 10 {
				e.Kind, e.Link = api.EBegin, i-1
			}
		}
		seqs[e.Agent] += 1 + random.Intn(3)
		e.Seq = seqs[e.Agent]
		e.At, _ = reading(clocks[e.Agent], t)
		l = append(l, e)
	}
	l, times = put(l, times)
	return l, times, clocks
}
