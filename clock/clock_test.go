package clock_test

import (
	"fmt"
	"math"
	"math/rand"
	"slices"
	"sort"
	"testing"

	"latecomer/api"
	"latecomer/bounds"
	"latecomer/clock"
)

// outside are numbers that no field of a fleet, an event or a clock may have.
func outside() []int {
	return []int{-2, -100, 1<<44 + 2, 1 << 60, math.MinInt, math.MinInt + 1, math.MaxInt, math.MaxInt - 1, 1<<32 + 1, -1<<32 + 1}
}

// two are the events of the examples.
func two() (api.Fleet, []api.Event) {
	return fleetOf(0, 0), []api.Event{{At: 5, Kind: api.EEnd}, {Seq: 1, At: 7, Kind: api.EEnd}}
}

// constraintsOf returns the constraints of events that have some.
func constraintsOf(t *testing.T, f api.Fleet, l []api.Event) []api.Constraint {
	t.Helper()
	got, err := clock.Constraints(f, l)
	if want := constraints(f, l); !slices.Equal(got, want) || err != api.OK {
		t.Fatalf("Constraints(%v, %v) = %v, %d; want %v", f, l, got, err, want)
	}
	return got
}

// checkAgrees checks what Agrees reports, and returns it.
func checkAgrees(t *testing.T, f api.Fleet, l []api.Event, x []int, agents int) bool {
	t.Helper()
	want := agrees(f, l, x, agents)
	if got := clock.Agrees(f, l, x, agents); got != want {
		t.Fatalf("Agrees(%v, %v, %v, %b) = %t", f, l, x, agents, got)
	}
	return want
}

// checkReading checks what Reading returns.
func checkReading(t *testing.T, c api.Clock, at int) {
	t.Helper()
	want, wantErr := reading(c, at)
	if got, err := clock.Reading(c, at); got != want || err != wantErr {
		t.Fatalf("Reading(%v, %d) = %d, %d; want %d, %d", c, at, got, err, want, wantErr)
	}
}

// checkFind checks what Find returns, and whether the clock shows the readings; it returns whether there is one.
func checkFind(t *testing.T, f api.Fleet, l []api.Event, x []int, agent int) bool {
	t.Helper()
	want, wantErr := find(f, l, x, agent)
	c, err := clock.Find(f, l, x, agent)
	if !sameClock(c, want) || err != wantErr {
		t.Fatalf("Find(%v, %v, %v, %d) = %v, %d; want %v, %d", f, l, x, agent, c, err, want, wantErr)
	}
	if err != api.OK {
		return false
	}
	if !clock.ValidClock(c) {
		t.Fatalf("Find(%v, %v, %v, %d) = %v is not valid", f, l, x, agent, c)
	}
	for i, e := range l {
		if e.Agent != agent {
			continue
		}
		if r, err := clock.Reading(c, x[i]); r != e.At || err != api.OK {
			t.Fatalf("%v shows %d at %d, not %d", c, r, x[i], e.At)
		}
	}
	return true
}

func TestExamples(t *testing.T) { // P8.1
	f, l := two()
	want := []api.Constraint{{From: 1, To: 0, Most: -1000001, Agents: 1}, {From: 0, To: 1, Most: 2999999, Agents: 1}}
	if got, err := clock.Constraints(f, l); !slices.Equal(got, want) || err != api.OK {
		t.Errorf("Constraints = %v, %d", got, err)
	}
	for _, x := range []struct {
		to, agents int
		want       bool
	}{{1000001, 1, true}, {1000000, 1, false}, {3000000, 1, false}, {2999999, 1, true}, {0, 0, true}, {0, 1, false}} {
		if got := clock.Agrees(f, l, []int{0, x.to}, x.agents); got != x.want {
			t.Errorf("Agrees with 0 and %d for %b is %t", x.to, x.agents, got)
		}
	}
	c := api.Clock{Anchors: []api.Anchor{{At: 6, Time: 1}}}
	for _, x := range [][2]int{{0, 5}, {1, 6}, {1000000, 6}, {1000001, 7}} {
		if r, err := clock.Reading(c, x[0]); r != x[1] || err != api.OK {
			t.Errorf("Reading at %d = %d, %d", x[0], r, err)
		}
	}
}

// eventFields returns the fields of an event.
func eventFields(e *api.Event) []*int {
	return []*int{&e.Agent, &e.Seq, &e.At, &e.Kind, &e.Trace, &e.Span, &e.Link, &e.N, &e.Op, &e.Version, &e.Person, &e.Bytes}
}

// ends are the numbers at which fields of events begin and cease to be valid.
func ends() []int {
	return append(outside(), -1, 0, 1, 2, 3, 4, 5, 6, 7, 8, 9, 10, 11, 12, 19, 20, 98, 99, 100, 999, 1000, 1001, 999999, 1000000, 1000001)
}

func TestEventFields(t *testing.T) { // P8.1: every two fields with all numbers of interest
	counts := map[bool]int{}
	for kind := 0; kind <= 8; kind++ {
		for _, span := range []int{0, 3} {
			base := api.Event{Kind: kind, Span: span}
			for first := range eventFields(&base) {
				for second := range first {
					for _, v := range ends() {
						for _, w := range ends() {
							e := base
							*eventFields(&e)[first] = v
							*eventFields(&e)[second] = w
							if got := clock.Event(e); got != isEvent(e) {
								t.Fatalf("Event(%+v) = %t", e, got)
							}
							counts[isEvent(e)]++
						}
					}
				}
			}
		}
	}
	if counts[true] < 10000 || counts[false] < 10000 {
		t.Errorf("so many are valid: %v", counts)
	}
}

func TestEventKinds(t *testing.T) { // P8.1: all fields that depend on the kind, together
	counts := map[int]int{}
	for kind := -1; kind <= 8; kind++ {
		for _, link := range []int{-2, -1, 0, 1, 9, 10, 99, 100} {
			for _, n := range []int{-1, 0, 99, 100} {
				for _, op := range []int{-1, 0, 11, 12} {
					for _, version := range []int{-1, 0, 9, 10} {
						for _, person := range []int{-2, -1, 0, 19, 20} {
							for _, span := range []int{-1, 0, 1, 9, 10} {
								e := api.Event{Agent: 5, Seq: 999, At: 1000000, Kind: kind, Trace: 999, Span: span, Link: link, N: n, Op: op, Version: version, Person: person, Bytes: 1000}
								if got := clock.Event(e); got != isEvent(e) {
									t.Fatalf("Event(%+v) = %t", e, got)
								}
								if isEvent(e) {
									counts[kind]++
								}
							}
						}
					}
				}
			}
		}
	}
	want := map[int]int{api.EBegin: 108, api.EEnd: 3, api.ESend: 15, api.EReceive: 15, api.EAcquire: 30, api.ERelease: 30, api.ECancel: 9}
	for kind := -1; kind <= 8; kind++ {
		if counts[kind] != want[kind] {
			t.Errorf("%d events of the kind %d are valid, not %d", counts[kind], kind, want[kind])
		}
	}
}

// fleets are fleets with elements at their limits and beyond, valid or not.
func fleets() []api.Fleet {
	var all []api.Fleet
	list := func(n, v int) []int { return slices.Repeat([]int{v}, n) }
	for agents := 0; agents <= 8; agents++ {
		for liars := -1; liars <= 4; liars++ {
			all = append(all, api.Fleet{Drift: list(agents, 1000), Latency: 1000000, Liars: liars, Services: list(1, 0), Teams: list(1, 3)})
		}
	}
	for services := 0; services <= 14; services++ {
		for teams := 0; teams <= 10; teams++ {
			for service := -1; service <= 10; service++ {
				all = append(all, api.Fleet{Drift: list(6, 0), Liars: 2, Services: list(services, service), Teams: list(teams, 0)})
			}
		}
	}
	for _, v := range append(outside(), -1, 0, 1, 2, 3, 4, 999, 1000, 1001, 999999, 1000000, 1000001) {
		for place := range 3 {
			three := func(rest, v int) []int {
				l := list(3, rest)
				l[place] = v
				return l
			}
			all = append(all,
				api.Fleet{Drift: three(7, v), Services: list(1, 0), Teams: list(1, 0)},
				api.Fleet{Drift: list(3, 7), Services: three(1, v), Teams: list(2, 0)},
				api.Fleet{Drift: list(3, 7), Services: list(2, 2), Teams: three(1, v)},
				api.Fleet{Drift: list(1+place, 7), Latency: v, Services: list(1, 0), Teams: list(1, 0)},
				api.Fleet{Drift: list(1+place, 7), Liars: v, Services: list(1, 0), Teams: list(1, 0)},
			)
		}
	}
	return all
}

func TestFleets(t *testing.T) { // P8.1
	counts := map[bool]int{}
	for _, f := range fleets() {
		want := isFleet(f)
		if clock.Valid(f) != want || clock.Events(f, nil) != want || clock.Agrees(f, nil, nil, 0) != want {
			t.Fatalf("Valid(%+v) = %t, Events %t, Agrees %t", f, clock.Valid(f), clock.Events(f, nil), clock.Agrees(f, nil, nil, 0))
		}
		l, err := clock.Constraints(f, nil)
		if wantErr := map[bool]api.Errno{true: api.OK, false: api.ErrClock}[want]; len(l) != 0 || err != wantErr {
			t.Fatalf("Constraints(%+v) = %v, %d", f, l, err)
		}
		counts[want]++
	}
	if counts[true] < 100 || counts[false] < 100 || clock.Valid(api.Fleet{}) {
		t.Errorf("so many are valid: %v", counts)
	}
}

// refuses checks that no function takes l as events of a trace for f.
func refuses(t *testing.T, f api.Fleet, l []api.Event) {
	t.Helper()
	if areEvents(f, l) || clock.Events(f, l) {
		t.Errorf("Events(%v, %v) = %t", f, l, clock.Events(f, l))
	}
	if got, err := clock.Constraints(f, l); len(got) != 0 || err != api.ErrClock {
		t.Errorf("Constraints(%v, %v) = %v, %d", f, l, got, err)
	}
	if x := make([]int, len(l)); clock.Agrees(f, l, x, 0) || clock.Agrees(f, l, x, 63) {
		t.Errorf("Agrees(%v, %v)", f, l)
	}
	for _, agent := range append(outside(), -1, 0, 1, 2, 3, 4, 5, 6) {
		if c, err := clock.Find(f, l, make([]int, len(l)), agent); !sameClock(c, api.Clock{}) || err != api.ErrClock {
			t.Errorf("Find(%v, %v, %d) = %v, %d", f, l, agent, c, err)
		}
	}
}

func TestEvents(t *testing.T) { // P8.1
	random := rand.New(rand.NewSource(1))
	for try := range 400 {
		f := randomFleet(random)
		l := randomEvents(random, f, try%25, 10, 30)
		if !areEvents(f, l) || !clock.Events(f, l) {
			t.Fatalf("Events(%v, %v) = false", f, l)
		}
		for i, e := range l {
			for _, other := range []api.Event{{}, l[random.Intn(len(l))], l[0], l[len(l)-1], randomEvent(random, 6)} {
				changed := slices.Clone(l)
				changed[i] = other
				if got := clock.Events(f, changed); got != areEvents(f, changed) {
					t.Fatalf("Events(%v, %v) = %t", f, changed, got)
				}
			}
			for field := range eventFields(&e) {
				changed := slices.Clone(l)
				old := *eventFields(&e)[field]
				for _, v := range append(outside(), -1, 0, 3, 11, old-1, old+1) {
					*eventFields(&changed[i])[field] = v
					if got := clock.Events(f, changed); got != areEvents(f, changed) {
						t.Fatalf("Events(%v, %v) = %t", f, changed, got)
					}
				}
			}
		}
	}
}

func TestWrongEvents(t *testing.T) { // P8.1
	f, l := two()
	at := func(agent, seq int) api.Event { return api.Event{Agent: agent, Seq: seq, Kind: api.EEnd} }
	many := make([]api.Event, 25)
	for i := range many {
		many[i] = at(0, i)
	}
	if !clock.Events(f, many[:24]) || !clock.Events(f, l) || !clock.Events(f, []api.Event{}) || !clock.Events(fleetOf(0, 0, 0), []api.Event{at(0, 7), at(1, 6)}) {
		t.Error("Events is false for events of a trace")
	}
	refuses(t, f, many)
	refuses(t, f, make([]api.Event, 1<<20))
	refuses(t, f, []api.Event{at(0, 1), at(0, 1)})
	refuses(t, f, []api.Event{at(0, 2), at(0, 1)})
	refuses(t, fleetOf(0, 0, 0), []api.Event{at(1, 1), at(0, 2)})
	refuses(t, f, []api.Event{at(1, 0)})
	refuses(t, f, []api.Event{{Kind: api.EEnd}, {Seq: 1, Kind: api.EEnd, Trace: 1}})
	refuses(t, f, []api.Event{{Kind: api.EBegin, Link: -1, Op: 3}})
	refuses(t, f, []api.Event{{}})
	for _, bad := range fleets() {
		if !isFleet(bad) {
			refuses(t, bad, l)
		}
	}
	if !clock.Events(f, []api.Event{{Kind: api.EBegin, Link: -1, Op: 2}}) {
		t.Error("the last operation is not one")
	}
}

func TestConstraintsOfTwo(t *testing.T) { // P8.1, P8.2: all pairs of events with few links, and all times at which anything changes
	var all []api.Event
	for _, e := range []api.Event{{Kind: api.EEnd}, {Kind: api.ECancel, Link: 1}} {
		all = append(all, e)
	}
	for link := range 2 {
		for kind := api.ESend; kind <= api.ERelease; kind++ {
			for n := range 3 {
				if kind >= api.EAcquire || n == 0 {
					all = append(all, api.Event{Kind: kind, Link: link, N: n})
				}
			}
		}
		all = append(all, api.Event{Kind: api.EBegin, Span: link, Link: 1 - link}, api.Event{Kind: api.EBegin, Span: link, Link: -1})
	}
	kinds := map[int]int{}
	for _, latency := range []int{0, 1, 1000000} {
		for _, agents := range [][2]int{{0, 0}, {1, 1}, {0, 1}} {
			f := fleetOf(latency, 1000, 0)
			for _, a := range all {
				for _, b := range all {
					a.Agent, b.Agent, b.Seq = agents[0], agents[1], 1
					a.At, b.At = 3, 4
					l := []api.Event{a, b}
					list := constraintsOf(t, f, l)
					kinds[len(list)]++
					for _, y := range []int{-1, 0, 1, latency - 1, latency, latency + 1, 1 - latency, -latency, -latency - 1, 1999999, 2000000, 2001999, 2002000} {
						for set := range 4 {
							if checkAgrees(t, f, l, []int{7, 7 + y}, set) != holds(list, []int{7, 7 + y}, set) {
								t.Fatalf("%v do not say whether %d agrees with %v", list, y, l)
							}
						}
					}
				}
			}
		}
	}
	for count := range 4 {
		if kinds[count] < 10 {
			t.Errorf("%d of these pairs have %d constraints", kinds[count], count)
		}
	}
}

func TestConstraintsOfReadings(t *testing.T) { // P8.1, P8.2, P8.4: all limits, with the times on both sides of them
	readings := []int{0, 1, 2, 3, 499999, 999998, 999999, 1000000}
	agreed := 0
	for _, drift := range []int{0, 1, 2, 500, 999, 1000} {
		f := fleetOf(0, 5, drift)
		for _, a := range readings {
			for _, b := range readings {
				l := []api.Event{{Agent: 1, Seq: 998, At: a, Kind: api.EEnd}, {Agent: 1, Seq: 999, At: b, Kind: api.EEnd}}
				list := constraintsOf(t, f, l)
				for _, y := range []int{-list[0].Most - 1, -list[0].Most, -list[0].Most + 1, list[1].Most - 1, list[1].Most, list[1].Most + 1, 0, -1, (b - a) * million} {
					x := []int{-5, y - 5}
					got := checkAgrees(t, f, l, x, 2)
					if got != holds(list, x, 2) || !checkAgrees(t, f, l, x, 1) || got != checkFind(t, f, l, x, 1) {
						t.Fatalf("%v do not say whether %v agrees with %v", list, x, l)
					}
					if got {
						agreed++
					}
				}
			}
		}
	}
	if agreed < 1000 {
		t.Errorf("%d of these agree", agreed)
	}
}

func TestConstraintsOfMany(t *testing.T) { // P8.1, P8.2
	random := rand.New(rand.NewSource(2))
	counts := map[bool]int{}
	for try := range 1500 {
		f := randomFleet(random)
		l := randomEvents(random, f, try%25, random.Intn(999990), 1+random.Intn(9))
		list := constraintsOf(t, f, l)
		for range 10 {
			x := make([]int, len(l))
			for i, e := range l {
				x[i] = e.At*million + random.Intn(3*million)
			}
			for range 8 {
				set := random.Intn(64)
				got := checkAgrees(t, f, l, x, set)
				if got != holds(list, x, set) {
					t.Fatalf("%v do not say whether %v agrees with %v for %b", list, x, l, set)
				}
				counts[got]++
			}
		}
	}
	if counts[true] < 1000 || counts[false] < 1000 {
		t.Errorf("so many agree: %v", counts)
	}
}

func TestMostConstraints(t *testing.T) { // P8.1: as many as possible are still valid, and so is each Most
	var l []api.Event
	for i := range 24 {
		l = append(l, api.Event{Seq: i, At: 1000000 * (i % 2), Kind: api.ESend + i%2, Link: 99})
	}
	f := fleetOf(1000000, 1000)
	list := constraintsOf(t, f, l)
	if len(list) != 24*23+12*12 || len(list) > api.MaxConstraints {
		t.Errorf("there are %d constraints", len(list))
	}
	for _, c := range list {
		if c.Most < -api.MaxBound || c.Most > api.MaxBound {
			t.Errorf("%v is not valid", c)
		}
	}
	if _, _, err := bounds.Close(24, list); err == api.ErrArg {
		t.Error("the constraints are not valid")
	}
}

func TestStoriesAgree(t *testing.T) { // P8.2, P8.3, P8.4: what clocks show, and times near it
	random := rand.New(rand.NewSource(3))
	counts := map[bool]int{}
	kinds := map[int]int{}
	for try := range 600 {
		f := randomFleet(random)
		l, x, clocks := story(random, f, try%25, []int{0, 5, million, 9 * million, 90 * million}[random.Intn(5)])
		for a, c := range clocks {
			for i, e := range l {
				if r, err := clock.Reading(c, x[i]); e.Agent == a && (r != e.At || err != api.OK) {
					t.Fatalf("%v shows %d at %d, not %d", c, r, x[i], e.At)
				}
			}
		}
		list := constraintsOf(t, f, l)
		if !checkAgrees(t, f, l, x, -1) || !holds(list, x, -1) {
			t.Fatalf("%v do not agree with %v, %v", x, f, l)
		}
		for agent := range f.Drift {
			has := slices.ContainsFunc(l, func(e api.Event) bool { return e.Agent == agent })
			if checkFind(t, f, l, x, agent) != has {
				t.Fatalf("Find(%v, %v, %v, %d)", f, l, x, agent)
			}
		}
		for _, e := range l {
			kinds[e.Kind]++
		}
		for _, c := range list {
			near := slices.Clone(x)
			near[c.To] = near[c.From] + c.Most + random.Intn(3) - 1
			got := checkAgrees(t, f, l, near, 63)
			if got != holds(list, near, 63) {
				t.Fatalf("%v do not say whether %v agrees with %v", list, near, l)
			}
			checkFind(t, f, l, near, random.Intn(len(f.Drift)))
			counts[got]++
		}
	}
	for _, kind := range []int{api.EBegin, api.EEnd, api.ESend, api.EReceive, api.EAcquire, api.ERelease} {
		if kinds[kind] < 300 {
			t.Errorf("there are %d events of the kind %d", kinds[kind], kind)
		}
	}
	if counts[true] < 1000 || counts[false] < 1000 {
		t.Errorf("so many agree: %v", counts)
	}
}

func TestExtremeTimes(t *testing.T) { // P8.2, P8.4: times at the ends of what the events of one agent admit
	random := rand.New(rand.NewSource(4))
	for range 150 {
		f := fleetOf(0, random.Intn(1001))
		l, _, _ := story(random, f, 2+random.Intn(23), 60*million)
		for i := range l {
			l[i] = api.Event{Seq: l[i].Seq, At: l[i].At, Kind: api.EEnd}
		}
		b, _, err := bounds.Close(len(l), constraintsOf(t, f, l))
		if err != api.OK {
			t.Fatalf("the constraints of %v contradict each other", l)
		}
		for range 20 {
			from, to := random.Intn(len(l)), random.Intn(len(l))
			low, high, _ := bounds.Range(b, from, to)
			for _, v := range []int{low, high} {
				x, _ := bounds.Point(b, from, to, v)
				if !checkAgrees(t, f, l, x, 1) || !checkFind(t, f, l, x, 0) {
					t.Fatalf("%v do not agree with %v, %v", x, f, l)
				}
			}
		}
	}
}

func TestBelievedAgents(t *testing.T) { // P8.1, P8.5: other bits play no part, and each agent more asks for more
	random := rand.New(rand.NewSource(5))
	lost := 0
	for try := range 120 {
		f := randomFleet(random)
		l, x, _ := story(random, f, 2+try%23, 20*million)
		for i := range x {
			if random.Intn(6) == 0 {
				x[i] += random.Intn(2*million) - million
			}
		}
		for set := range 64 {
			got := checkAgrees(t, f, l, x, set)
			for _, other := range []int{set | 64, set - 64, set | 1<<62, set | math.MinInt, set | 1<<40} {
				if checkAgrees(t, f, l, x, other) != got {
					t.Fatalf("Agrees(%v, %v, %v): %b is not as %b", f, l, x, other, set)
				}
			}
			for agent := range 6 {
				more := checkAgrees(t, f, l, x, set|1<<agent)
				if more && !got {
					t.Fatalf("Agrees(%v, %v, %v, %b), but not for %b", f, l, x, set|1<<agent, set)
				}
				if got && !more {
					lost++
				}
			}
		}
		if checkAgrees(t, f, l, x, -1) != checkAgrees(t, f, l, x, 63) || checkAgrees(t, f, l, x, math.MinInt) != checkAgrees(t, f, l, x, 0) || !checkAgrees(t, f, l, x, 0) {
			t.Fatalf("Agrees(%v, %v, %v)", f, l, x)
		}
	}
	if lost < 1000 {
		t.Errorf("an agent more changed %d results", lost)
	}
}

func TestFewerEventsAndLaterTimes(t *testing.T) { // P8.5
	random := rand.New(rand.NewSource(6))
	counts := map[bool]int{}
	for try := range 300 {
		f := randomFleet(random)
		l, x, _ := story(random, f, 1+try%24, 20*million)
		if try%2 == 0 {
			x[random.Intn(len(x))] += random.Intn(4*million) - 2*million
		}
		got := checkAgrees(t, f, l, x, 63)
		counts[got]++
		for i := range l {
			fewer, times := slices.Delete(slices.Clone(l), i, i+1), slices.Delete(slices.Clone(x), i, i+1)
			if less := checkAgrees(t, f, fewer, times, 63); got && !less {
				t.Fatalf("%v agree with %v, %v, but not without the one at %d", x, f, l, i)
			}
		}
		for _, by := range []int{1, -1, random.Intn(1 << 43), -random.Intn(1 << 43), greatest - slices.Max(x), -greatest - slices.Min(x)} {
			later := slices.Clone(x)
			for i := range later {
				later[i] += by
			}
			if checkAgrees(t, f, l, later, 63) != got {
				t.Fatalf("%v do not agree with %v, %v as well as %v", later, f, l, x)
			}
		}
	}
	if counts[true] < 50 || counts[false] < 50 {
		t.Errorf("so many agree: %v", counts)
	}
}

func TestWrongTimes(t *testing.T) { // P8.1
	f, l := two()
	l = append(l, api.Event{Agent: 1, Kind: api.EEnd})
	f = fleetOf(0, 0, 0, 0)
	for _, x := range [][]int{nil, {}, {0}, {0, 2000000}, {0, 2000000, 0, 0}, make([]int, 24), make([]int, 1<<16)} {
		checkAgrees(t, f, l, x, 0)
		checkFind(t, f, l, x, 0)
	}
	for i := range l {
		for _, v := range append(outside(), greatest+1, -greatest-1) {
			x := []int{0, 2000000, 0}
			if among(-greatest, v, greatest) {
				continue
			}
			x[i] = v
			if clock.Agrees(f, l, x, 0) || checkAgrees(t, f, l, x, -1) || checkFind(t, f, l, x, 0) || checkFind(t, f, l, x, 1) {
				t.Errorf("%v are times", x)
			}
		}
	}
	for _, x := range [][]int{{-greatest, -greatest + 2000000, greatest}, {greatest - 2000000, greatest, -greatest}} {
		if !checkAgrees(t, f, l, x, 3) {
			t.Errorf("%v are not times", x)
		}
	}
}

func TestFindOnlyLooksAtTheClock(t *testing.T) { // P8.1: messages, grants and parents play no part, nor do other agents
	f := fleetOf(1000000, 0, 0)
	of := func(seq, at, kind, span, link, n int) api.Event {
		return api.Event{Seq: seq, At: at, Kind: kind, Span: span, Link: link, N: n}
	}
	for _, pair := range [][2]api.Event{
		{of(0, 5, api.ESend, 0, 1, 0), of(1, 5, api.EReceive, 0, 1, 0)},
		{of(0, 5, api.EReceive, 0, 1, 0), of(1, 7, api.ESend, 0, 1, 0)},
		{of(0, 5, api.ERelease, 0, 1, 3), of(1, 7, api.EAcquire, 0, 1, 3)},
		{of(0, 5, api.EAcquire, 0, 1, 4), of(1, 7, api.ERelease, 0, 1, 3)},
		{of(0, 5, api.EBegin, 2, 1, 0), of(1, 7, api.EBegin, 1, -1, 0)},
	} {
		other := api.Event{Agent: 1, Seq: 4, At: 9, Kind: api.EEnd}
		another := api.Event{Agent: 1, Seq: 5, At: 1, Kind: api.EEnd}
		l := []api.Event{pair[0], pair[1], other, another}
		x := []int{10, 10 + (pair[1].At-5)*million, 0, 0}
		if clock.Agrees(f, l, x, 1) || !checkFind(t, f, l, x, 0) || checkFind(t, f, l, x, 1) {
			t.Errorf("Find(%v, %v)", l, x)
		}
		for _, agent := range append(outside(), -1, 2, 3, 5, 6) {
			if checkFind(t, f, l, x, agent) {
				t.Errorf("the agent %d has a clock", agent)
			}
		}
	}
}

func TestFindAtTheLimits(t *testing.T) { // P8.1, P8.4
	f := fleetOf(0, 0, 1000)
	for agent := range 2 {
		for _, at := range []int{0, 1, 999999, 1000000} {
			for _, time := range []int{-greatest, -greatest + 1, 0, greatest - 1, greatest} {
				l := []api.Event{{Agent: agent, At: at, Kind: api.EEnd}}
				x := []int{time}
				if !checkAgrees(t, f, l, x, 63) || checkFind(t, f, l, x, agent) != (time < greatest) || checkFind(t, f, l, x, 1-agent) {
					t.Errorf("Find(%v, %v)", l, x)
				}
			}
		}
	}
	var l []api.Event
	x := make([]int, 24)
	for i := range 24 {
		l = append(l, api.Event{Agent: 1, Seq: i, At: 999000 + i, Kind: api.EEnd})
		x[i] = i * 1000500
	}
	if !checkFind(t, f, l, x, 1) {
		t.Error("a clock of 24 events is not found")
	}
}

func TestValidClock(t *testing.T) { // P8.1
	counts := map[bool]int{}
	check := func(c api.Clock) {
		t.Helper()
		if got := clock.ValidClock(c); got != isClock(c) {
			t.Errorf("ValidClock(%v) = %t", c, got)
		}
		checkReading(t, c, 0)
		counts[isClock(c)]++
	}
	for _, drift := range append(outside(), -1, 0, 1, 999, 1000, 1001) {
		for count := 0; count <= 26; count++ {
			check(api.Clock{Drift: drift, Anchors: make([]api.Anchor, count)})
		}
	}
	for place := range 3 {
		for _, v := range append(outside(), -1, 0, 1, 1000000, 1000001, 1000002, greatest-1, greatest, greatest+1, -greatest+1, -greatest, -greatest-1) {
			for _, a := range []api.Anchor{{At: v}, {Time: v}, {At: v, Time: v}} {
				anchors := make([]api.Anchor, 3)
				anchors[place] = a
				check(api.Clock{Drift: 3, Anchors: anchors})
			}
		}
	}
	check(api.Clock{})
	check(api.Clock{Anchors: make([]api.Anchor, 1<<16)})
	if counts[true] < 100 || counts[false] < 100 {
		t.Errorf("so many are valid: %v", counts)
	}
}

// wildClock returns a valid clock with anchors at any times from -far to far.
func wildClock(random *rand.Rand, far int) api.Clock {
	c := api.Clock{Drift: []int{0, 1, 500, 1000}[random.Intn(4)]}
	for range 1 + random.Intn(24) {
		c.Anchors = append(c.Anchors, api.Anchor{At: random.Intn(1000002), Time: random.Intn(2*far+1) - far})
	}
	return c
}

func TestReading(t *testing.T) { // P8.1
	random := rand.New(rand.NewSource(7))
	counts := map[string]int{}
	for try := range 300 {
		c := randomClock(random, random.Intn(1001))
		if try%3 == 0 {
			c = wildClock(random, greatest)
		}
		times := []int{-greatest, -greatest - 1, greatest, greatest + 1, 0, math.MinInt, math.MaxInt}
		for _, a := range c.Anchors {
			times = append(times, a.Time, a.Time-1, a.Time+1)
			for range 5 {
				r := a.At + random.Intn(7) - 3
				times = append(times, begin(c, r), begin(c, r)-1, begin(c, r)+1)
				times = append(times, a.Time+random.Intn(9*million)-4*million)
			}
		}
		for range 10 {
			times = append(times, random.Intn(2*greatest+1)-greatest)
		}
		for _, at := range times {
			checkReading(t, c, at)
			r, err := reading(c, at)
			switch {
			case err != api.OK:
				counts["none"]++
			case r < 0:
				counts["negative"]++
			case r > 1000000:
				counts["great"]++
			default:
				counts["a reading"]++
			}
		}
	}
	for _, what := range []string{"none", "negative", "great", "a reading"} {
		if counts[what] < 1000 {
			t.Errorf("%d of these are %s", counts[what], what)
		}
	}
}

func TestReadingOfOneAnchor(t *testing.T) { // P8.1, P8.6: all ticks near the anchor, and those at the limits of times
	for _, drift := range []int{0, 1, 2, 999, 1000} {
		for _, a := range []api.Anchor{{At: 0, Time: 0}, {At: 1000001, Time: greatest}, {At: 0, Time: -greatest}, {At: 77, Time: -3}, {At: 1000001, Time: -greatest}, {At: 0, Time: greatest}} {
			c := api.Clock{Drift: drift, Anchors: []api.Anchor{a, a}}
			for _, at := range []int{a.Time, greatest, -greatest} {
				r, _ := reading(c, min(max(at, -greatest), greatest))
				for tick := r - 4; tick <= r+4; tick++ {
					for _, moment := range []int{begin(c, tick) - 1, begin(c, tick), begin(c, tick) + 1} {
						checkReading(t, c, moment)
					}
				}
			}
		}
	}
}

func TestTicks(t *testing.T) { // P8.6: what is found by the readings alone
	random := rand.New(rand.NewSource(8))
	read := func(c api.Clock, at int) int {
		r, err := clock.Reading(c, at)
		if err != api.OK {
			t.Fatalf("Reading(%v, %d): %d", c, at, err)
		}
		return r
	}
	lengths := map[int]int{}
	for try := range 2000 {
		c := randomClock(random, random.Intn(1001))
		if try%2 == 0 {
			c = wildClock(random, greatest)
		}
		t0 := c.Anchors[0].Time/2 + random.Intn(100*million) - 50*million
		var begins []int
		at, last := t0, read(c, t0)
		for range 60 {
			at += sort.Search(3*million, func(d int) bool { return read(c, at+d) > last })
			if r := read(c, at); r != last+1 {
				t.Fatalf("%v shows %d after %d at %d", c, r, last, at)
			}
			last++
			begins = append(begins, at)
		}
		for i := range begins[1:] {
			length := begins[i+1] - begins[i]
			if length < million-c.Drift || length > million+c.Drift {
				t.Fatalf("%v has a tick of %d", c, length)
			}
			switch {
			case length == million-c.Drift:
				lengths[-1]++
			case length == million+c.Drift:
				lengths[1]++
			default:
				lengths[0]++
			}
		}
		for range 50 {
			s, u := random.Intn(2*greatest+1)-greatest, random.Intn(2*greatest+1)-greatest
			if near := s + random.Intn(3*million); near <= greatest {
				u = near
			}
			if (s <= u) != (read(c, s) <= read(c, u)) && read(c, s) != read(c, u) {
				t.Fatalf("the readings of %v decrease between %d and %d", c, s, u)
			}
		}
	}
	if lengths[-1] < 1000 || lengths[0] < 300 || lengths[1] < 1000 {
		t.Errorf("so many ticks are shortest, longest, and between: %v", lengths)
	}
}

func TestShowingsOfAnyClockAgree(t *testing.T) { // P8.3, P8.4: any anchors, any drift up to that of the agent
	random := rand.New(rand.NewSource(9))
	shown := 0
	for range 4000 {
		c := wildClock(random, []int{1 << 20, 1 << 30, 1 << 38}[random.Intn(3)])
		var l []api.Event
		var x []int
		at := c.Anchors[random.Intn(len(c.Anchors))].Time
		for seq := range 24 {
			at += []int{0, 1, 999, million, random.Intn(9 * million), random.Intn(1 << 36)}[random.Intn(6)]
			r, err := clock.Reading(c, at)
			if err == api.OK && among(0, r, 1000000) {
				l = append(l, api.Event{Agent: 1, Seq: seq, At: r, Kind: api.ESend, Link: 3})
				x = append(x, at)
			}
		}
		if len(l) < 2 {
			continue
		}
		shown++
		f := fleetOf(1000000, 0, c.Drift+random.Intn(1001-c.Drift))
		if !checkAgrees(t, f, l, x, 2) || !checkFind(t, f, l, x, 1) {
			t.Fatalf("what %v shows, %v, does not agree with %v", c, l, x)
		}
	}
	if shown < 1000 {
		t.Errorf("%d clocks show something", shown)
	}
}

// spare returns a copy of l with spare capacity that is full of other elements.
func spare[T any](l []T, other T) []T {
	full := append(slices.Clone(l), other, other, other)
	return full[:len(l)]
}

func TestArgumentsStay(t *testing.T) { // P8.1
	random := rand.New(rand.NewSource(10))
	for try := range 100 {
		f := randomFleet(random)
		l, x, clocks := story(random, f, 1+try%24, 20*million)
		other := api.Event{Agent: 99, Seq: 99}
		g := api.Fleet{Drift: spare(f.Drift, 77), Latency: f.Latency, Liars: f.Liars, Services: spare(f.Services, 77), Teams: spare(f.Teams, 77)}
		events, times := spare(l, other), spare(x, 77)
		c := api.Clock{Drift: clocks[0].Drift, Anchors: spare(clocks[0].Anchors, api.Anchor{At: 77})}
		list, _ := clock.Constraints(g, events)
		found, err := clock.Find(g, events, times, l[0].Agent)
		if err != api.OK || !clock.Valid(g) || !clock.Events(g, events) || !clock.Agrees(g, events, times, 63) || !clock.ValidClock(c) {
			t.Fatalf("not valid: %v, %v, %v", g, events, times)
		}
		clock.Reading(c, 5)
		clock.Event(events[0])
		again, _ := clock.Constraints(g, events)
		for i := range list[:cap(list)] {
			list[:cap(list)][i] = api.Constraint{From: -7}
		}
		if want := constraints(f, l); !slices.Equal(again, want) {
			t.Fatal("a result shares memory with another one")
		}
		for i := range found.Anchors[:cap(found.Anchors)] {
			found.Anchors[:cap(found.Anchors)][i] = api.Anchor{At: -7}
		}
		if !checkFind(t, g, events, times, l[0].Agent) || !slices.Equal(events, l) || !slices.Equal(times, x) || !slices.Equal(c.Anchors, clocks[0].Anchors) {
			t.Fatal("an argument is changed")
		}
		if !slices.Equal(g.Drift, f.Drift) || !slices.Equal(g.Services, f.Services) || !slices.Equal(g.Teams, f.Teams) {
			t.Fatal("the fleet is changed")
		}
		for _, l := range [][]int{g.Drift, g.Services, g.Teams, times} {
			if l[:len(l)+1][len(l)] != 77 {
				t.Fatal("spare capacity is written to")
			}
		}
		if events[:len(events)+1][len(events)] != other || c.Anchors[:len(c.Anchors)+1][len(c.Anchors)].At != 77 {
			t.Fatal("spare capacity is written to")
		}
	}
}

func Example() {
	f := api.Fleet{Drift: []int{0}, Services: []int{0}, Teams: []int{0}}
	l := []api.Event{{Seq: 0, At: 5, Kind: api.ESend, Link: 3}, {Seq: 1, At: 7, Kind: api.EEnd}}
	list, _ := clock.Constraints(f, l)
	fmt.Println(list)
	x := []int{0, 1000001}
	fmt.Println(clock.Agrees(f, l, x, 1))
	c, _ := clock.Find(f, l, x, 0)
	fmt.Println(c.Anchors)
	fmt.Println(clock.Reading(c, 1000001))
	_, err := clock.Find(f, l, []int{0, 3000000}, 0)
	fmt.Println(err == api.ErrClock)
	// Output:
	// [{1 0 -1000001 1} {0 1 2999999 1}]
	// true
	// [{6 1} {8 1000002}]
	// 7 0
	// true
}
