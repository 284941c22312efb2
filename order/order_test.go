package order_test

import (
	"fmt"
	"math"
	"math/rand"
	"slices"
	"testing"

	"latecomer/api"
	"latecomer/belief"
	"latecomer/clock"
	"latecomer/order"
)

// three are the events of the examples.
func three() []api.Event {
	return []api.Event{{Seq: 0, At: 5, Kind: api.EEnd}, {Seq: 1, At: 7, Kind: api.EEnd}, {Seq: 2, At: 7, Kind: api.EEnd}}
}

// checkPair checks what Duration and Compare return.
func checkPair(t *testing.T, f api.Fleet, l []api.Event, k known, i, j int) {
	t.Helper()
	var wantLow, wantHigh, want int
	if k.err == api.OK {
		wantLow, wantHigh, want = k.low[i][j], k.high[i][j], k.relation(i, j)
	}
	if low, high, err := order.Duration(f, l, i, j); low != wantLow || high != wantHigh || err != k.err {
		t.Fatalf("Duration(%v, %v, %d, %d) = %d, %d, %d; want %d, %d, %d", f, l, i, j, low, high, err, wantLow, wantHigh, k.err)
	}
	if got, err := order.Compare(f, l, i, j); got != want || err != k.err {
		t.Fatalf("Compare(%v, %v, %d, %d) = %d, %d; want %d, %d", f, l, i, j, got, err, want, k.err)
	}
}

// sameMatrix reports whether a and b are equal.
func sameMatrix(a, b [][]int) bool { return slices.EqualFunc(a, b, slices.Equal[[]int]) }

// checkAll checks what Matrix and Sort return.
func checkAll(t *testing.T, f api.Fleet, l []api.Event, k known) {
	t.Helper()
	if got, err := order.Matrix(f, l); !sameMatrix(got, k.matrix()) || err != k.err {
		t.Fatalf("Matrix(%v, %v) = %v, %d; want %v, %d", f, l, got, err, k.matrix(), k.err)
	}
	if got, err := order.Sort(f, l); !slices.Equal(got, k.sort()) || err != k.err {
		t.Fatalf("Sort(%v, %v) = %v, %d; want %v, %d", f, l, got, err, k.sort(), k.err)
	}
}

// checkLasts checks what Lasts returns for indices, and returns it.
func checkLasts(t *testing.T, f api.Fleet, l []api.Event, k known, set []int) []int {
	t.Helper()
	var want []int
	if k.err == api.OK {
		want = k.lasts(set)
	}
	got, err := order.Lasts(f, l, set)
	if !slices.Equal(got, want) || err != k.err {
		t.Fatalf("Lasts(%v, %v, %v) = %v, %d; want %v, %d", f, l, set, got, err, want, k.err)
	}
	return got
}

// checkError checks that all functions return this error for all indices and sets of three, and nothing else.
func checkError(t *testing.T, f api.Fleet, l []api.Event, want api.Errno) {
	t.Helper()
	for i := range min(3, len(l)) {
		for j := range min(3, len(l)) {
			checkPair(t, f, l, known{err: want}, i, j)
		}
	}
	checkAll(t, f, l, known{err: want})
	for _, set := range [][]int{nil, {}, {0}, {1}, {0, 1}, {0, 2}, {0, 1, 2}} {
		if len(set) == 0 || set[len(set)-1] < len(l) {
			checkLasts(t, f, l, known{err: want}, set)
		}
	}
}

func TestExamples(t *testing.T) { // P11.1
	f, l := fleetOf(0, 0, 0), three()
	for _, c := range [][4]int{{0, 1, 1000001, 2999999}, {1, 2, 0, 999999}, {2, 1, -999999, 0}} {
		if low, high, err := order.Duration(f, l, c[0], c[1]); low != c[2] || high != c[3] || err != api.OK {
			t.Errorf("Duration from %d to %d = %d, %d, %d", c[0], c[1], low, high, err)
		}
	}
	for _, c := range [][3]int{{0, 1, api.OBefore}, {1, 2, api.ONotAfter}, {2, 0, api.OAfter}, {1, 1, api.OSame}, {2, 1, api.ONotBefore}} {
		if got, err := order.Compare(f, l, c[0], c[1]); got != c[2] || err != api.OK {
			t.Errorf("Compare of %d and %d = %d, %d", c[0], c[1], got, err)
		}
	}
	if got, err := order.Sort(f, l); !slices.Equal(got, []int{0, 1, 2}) || err != api.OK {
		t.Errorf("Sort = %v, %d", got, err)
	}
	for _, c := range []struct{ set, want []int }{{[]int{0, 1, 2}, []int{1, 2}}, {[]int{0, 1}, []int{1}}, {[]int{0}, []int{0}}, {nil, nil}} {
		if got, err := order.Lasts(f, l, c.set); !slices.Equal(got, c.want) || err != api.OK {
			t.Errorf("Lasts of %v = %v, %d", c.set, got, err)
		}
	}
	if low, high, err := order.Duration(fleetOf(0, 1, 0, 0), l, 0, 1); low != -none || high != none || err != api.OK {
		t.Errorf("Duration from 0 to 1, if one may lie = %d, %d, %d", low, high, err)
	}
	want := [][]int{{3, 1, 1}, {5, 3, 2}, {5, 4, 3}}
	if got, err := order.Matrix(f, l); !sameMatrix(got, want) || err != api.OK {
		t.Errorf("Matrix = %v, %d", got, err)
	}
}

func TestRelations(t *testing.T) { // P11.1: events of two agents on both sides of every limit
	begin := func(agent, seq, span, link int) api.Event {
		return api.Event{Agent: agent, Seq: seq, Kind: api.EBegin, Span: span, Link: link, Person: -1}
	}
	message := []api.Event{{Kind: api.ESend, Link: 1}, {Agent: 1, Kind: api.EReceive, Link: 1}}
	for _, c := range []struct {
		name            string
		latency         int
		l               []api.Event
		low, high, want int
	}{
		{"a message that takes no time", 0, message, 0, none, api.ONotAfter},
		{"a message that takes the least time", 1, message, 1, none, api.OBefore},
		{"a message that takes long", 1000000, message, 1000000, none, api.OBefore},
		{"a message back", 0, []api.Event{{Kind: api.EReceive, Link: 1}, {Agent: 1, Kind: api.ESend, Link: 1}}, -none, 0, api.ONotBefore},
		{"a message back that takes the least time", 1, []api.Event{{Kind: api.EReceive, Link: 1}, {Agent: 1, Kind: api.ESend, Link: 1}}, -none, -1, api.OAfter},
		{"other messages", 1, []api.Event{{Kind: api.EReceive, Link: 1}, {Agent: 1, Kind: api.ESend, Link: 2}}, -none, none, api.OOpen},
		{"a span and its child", 9, []api.Event{begin(0, 0, 1, -1), begin(1, 0, 2, 1)}, 0, none, api.ONotAfter},
		{"spans that are each other's children", 9, []api.Event{begin(0, 0, 1, 2), begin(1, 0, 2, 1)}, 0, 0, api.OSame},
		{"a clock that has not gone on", 0, []api.Event{{At: 7, Kind: api.EEnd}, {Seq: 1, At: 7, Kind: api.EEnd}}, 0, 999999, api.ONotAfter},
		{"a clock that has gone on", 0, []api.Event{{At: 7, Kind: api.EEnd}, {Seq: 1, At: 8, Kind: api.EEnd}}, 1, 1999999, api.OBefore},
		{"spans of an agent that are each other's children", 0, []api.Event{begin(0, 0, 1, 2), begin(0, 1, 2, 1)}, 0, 0, api.OSame},
	} {
		f := fleetOf(c.latency, 0, 0, 0)
		if low, high, err := order.Duration(f, c.l, 0, 1); low != c.low || high != c.high || err != api.OK {
			t.Errorf("%s: Duration = %d, %d, %d", c.name, low, high, err)
		}
		if got, err := order.Compare(f, c.l, 0, 1); got != c.want || err != api.OK {
			t.Errorf("%s: Compare = %d, %d", c.name, got, err)
		}
		checkAll(t, f, c.l, study(f, c.l))
	}
}

// kinds counts what the pairs and sets of a trace are like.
func (k known) kinds(counts map[string]int, set, lasts []int) {
	for i := range k.n {
		for j := range i {
			counts[fmt.Sprint("the relation ", k.relation(i, j))]++
		}
	}
	counts[fmt.Sprint("so many choices: ", min(len(k.choices), 4))]++
	if !k.contradictsNone() && k.err == api.OK {
		counts["not sorted"]++
	}
	counts[fmt.Sprint("so many lasts: ", min(len(lasts), 3))]++
	for _, i := range set {
		if k.err == api.OK && !slices.Contains(lasts, i) && k.eachIsLastOfTwo(set, i) {
			counts["last of each two, and not of all"]++
		}
	}
}

func TestAllFunctions(t *testing.T) { // P11.1
	random := rand.New(rand.NewSource(1))
	counts := map[string]int{}
	for try := range 2000 {
		f, l := tale(random, []int{2, 4, 7, 11, 16, 24}[try%6])
		k := study(f, l)
		checkAll(t, f, l, k)
		for range min(4, len(l)) {
			checkPair(t, f, l, k, random.Intn(len(l)), random.Intn(len(l)))
		}
		for range 4 {
			set := randomSet(random, len(l))
			k.kinds(counts, set, checkLasts(t, f, l, k, set))
		}
		if k.err == api.ErrBelief {
			counts["no choice"]++
		}
	}
	for _, what := range []string{"no choice", "not sorted", "the relation 1", "the relation 2", "the relation 3", "the relation 4", "the relation 5", "the relation 6", "so many choices: 1", "so many choices: 2", "so many choices: 3", "so many choices: 4", "so many lasts: 0", "so many lasts: 1", "so many lasts: 2", "so many lasts: 3"} {
		if counts[what] < 30 {
			t.Errorf("%s: %d times", what, counts[what])
		}
	}
}

func TestAllPairsAndSets(t *testing.T) { // P11.1: of short traces
	random := rand.New(rand.NewSource(2))
	for range 250 {
		f, l := tale(random, 5)
		k := study(f, l)
		for i := range l {
			for j := range l {
				checkPair(t, f, l, k, i, j)
			}
		}
		for bits := range 1 << len(l) {
			var set []int
			for i := range l {
				if has(bits, i) {
					set = append(set, i)
				}
			}
			checkLasts(t, f, l, k, set)
		}
	}
}

// longTrace returns 24 events of so many agents, as event says; the readings of each agent go on by this step, as far as they can.
func longTrace(agents, step int, event func(i int) api.Event) []api.Event {
	var l []api.Event
	for i := range 24 {
		e := event(i)
		e.Agent, e.Seq, e.At, e.Trace = i*agents/24, 976+i, min(i*agents%24*step, 1000000), 999
		l = append(l, e)
	}
	return l
}

func TestLongTraces(t *testing.T) { // P11.1: 24 events, and all that they may be related by
	drift := []int{1000, 0, 1000, 37, 1000, 0}
	var all []int
	for i := range 24 {
		all = append(all, i)
	}
	counts := map[api.Errno]int{}
	for _, event := range []func(i int) api.Event{
		func(i int) api.Event { return api.Event{Kind: api.EEnd} },
		func(i int) api.Event { return api.Event{Kind: api.ESend + i%2, Link: 99} },
		func(i int) api.Event { return api.Event{Kind: api.EAcquire + i%2, Link: 99, N: 99 - i%2} },
		func(i int) api.Event { return api.Event{Kind: api.EBegin, Span: i % 2, Link: 1 - i%2} },
		func(i int) api.Event { return api.Event{Kind: api.EBegin, Span: i % 9, Link: (i + 1) % 9} },
		func(i int) api.Event { return api.Event{Kind: api.EAcquire, Link: 3} },
	} {
		for _, agents := range []int{1, 2, 3, 6} {
			for _, step := range []int{0, 200000} {
				f := fleetOf(step*5, min(2, agents-1), drift[:agents]...)
				l := longTrace(agents, step, event)
				k := study(f, l)
				counts[k.err]++
				checkAll(t, f, l, k)
				checkPair(t, f, l, k, 0, 23)
				checkPair(t, f, l, k, 23, 12)
				checkLasts(t, f, l, k, all)
				checkLasts(t, f, l, k, all[3:])
			}
		}
	}
	if counts[api.OK] < 30 || counts[api.ErrBelief] < 10 || counts[api.ErrOrder] > 0 {
		t.Errorf("so many have these errors: %v", counts)
	}
}

func TestFarApart(t *testing.T) { // P11.1: readings at the limits
	l := []api.Event{{At: 0, Kind: api.EEnd}, {Seq: 999, At: 1000000, Kind: api.EEnd}}
	for _, c := range [][3]int{{0, 999999000001, 1000000999999}, {1000, 998999001000 + 1, 1001001001000 - 1}} {
		f := fleetOf(0, 0, c[0])
		if low, high, err := order.Duration(f, l, 0, 1); low != c[1] || high != c[2] || err != api.OK {
			t.Errorf("Duration with the drift %d = %d, %d, %d", c[0], low, high, err)
		}
		if low, high, err := order.Duration(f, l, 1, 0); low != -c[2] || high != -c[1] || err != api.OK {
			t.Errorf("Duration back with the drift %d = %d, %d, %d", c[0], low, high, err)
		}
	}
}

func TestNoEvents(t *testing.T) { // P11.1
	for agents := 1; agents <= 6; agents++ {
		for liars := range min(3, agents) {
			f := fleetOf(0, liars, make([]int, agents)...)
			for _, l := range [][]api.Event{nil, {}} {
				checkAll(t, f, l, known{})
				checkLasts(t, f, l, known{}, nil)
				checkLasts(t, f, l, known{}, []int{})
				checkWrongIndices(t, f, l, []int{0, 1, -1, 23, 24, math.MaxInt, math.MinInt})
			}
		}
	}
}

// checkWrongIndices checks that no function takes these numbers as indices, alone or with others.
func checkWrongIndices(t *testing.T, f api.Fleet, l []api.Event, wrong []int) {
	t.Helper()
	for _, w := range wrong {
		for _, pair := range [][2]int{{w, w}, {w, 0}, {0, w}, {w, len(l) - 1}, {len(l) - 1, w}, {w, w + 1}} {
			checkPair(t, f, l, known{err: api.ErrOrder}, pair[0], pair[1])
		}
		for _, set := range [][]int{{w}, {0, w}, {w, 0}, {0, 1, w}, {w, 1, 2}, {0, w, 2}, {w, w + 1}, {w - 1, w}} {
			checkLasts(t, f, l, known{err: api.ErrOrder}, set)
		}
	}
}

// contradictory returns events of three agents, of whom the agents of the set contradict themselves: their clocks go back.
func contradictory(set int) []api.Event {
	var l []api.Event
	for agent := range 3 {
		l = append(l, api.Event{Agent: agent, At: 7, Kind: api.EEnd}, api.Event{Agent: agent, Seq: 1, At: 8, Kind: api.EEnd})
		if has(set, agent) {
			l[2*agent+1].At = 6
		}
	}
	return l
}

func TestWrongIndices(t *testing.T) { // P11.1: before the error that there is no choice
	wrong := []int{-1, -2, 6, 7, 23, 24, 25, 64, 1 << 32, 1<<32 + 1, -1 << 32, math.MaxInt, math.MinInt}
	for set := range 8 {
		for liars := range 3 {
			checkWrongIndices(t, fleetOf(0, liars, 0, 0, 0), contradictory(set), wrong)
		}
	}
	for n := 1; n <= 24; n++ {
		l := make([]api.Event, n)
		for i := range l {
			l[i] = api.Event{Seq: i, Kind: api.EEnd}
		}
		checkWrongIndices(t, fleetOf(0, 0, 0), l, []int{-1, n, n + 1})
	}
}

func TestWrongSets(t *testing.T) { // P11.1: indices that do not ascend; before the error that there is no choice
	for lying := range 8 {
		f, l := fleetOf(0, 0, 0, 0, 0), contradictory(lying)
		for _, set := range [][]int{{1, 0}, {0, 0}, {0, 1, 1}, {0, 2, 1}, {1, 0, 2}, {5, 4}, {0, 1, 2, 3, 4, 5, 5}, {0, 1, 2, 3, 4, 5, 0}, {0, 1, 2, 3, 4, 5, 6}, make([]int, 7), make([]int, 1<<20)} {
			checkLasts(t, f, l, known{err: api.ErrOrder}, set)
		}
	}
}

func TestNoChoice(t *testing.T) { // P11.1: each set of agents that contradict themselves
	for set := range 8 {
		for liars := range 3 {
			f, l := fleetOf(0, liars, 0, 0, 0), contradictory(set)
			if agentsIn(set) > liars {
				checkError(t, f, l, api.ErrBelief)
				continue
			}
			checkAll(t, f, l, study(f, l))
			checkPair(t, f, l, study(f, l), 0, 5)
			checkLasts(t, f, l, study(f, l), []int{0, 2, 4, 5})
		}
	}
}

// wrongFleets are not valid; each has one agent, unless that is what is wrong.
func wrongFleets() []api.Fleet {
	var all []api.Fleet
	change := func(change func(f *api.Fleet)) {
		f := fleetOf(50, 0, 7)
		change(&f)
		all = append(all, f)
	}
	for _, liars := range []int{-1, 1, 2, 1 << 32, math.MinInt, math.MaxInt} {
		change(func(f *api.Fleet) { f.Liars = liars })
	}
	for _, agents := range []int{0, 7, 8, 64, 65, 100} {
		change(func(f *api.Fleet) { f.Drift = make([]int, agents) })
	}
	change(func(f *api.Fleet) { f.Drift[0] = 1001 })
	change(func(f *api.Fleet) { f.Drift[0] = -1 })
	change(func(f *api.Fleet) { f.Latency = -1 })
	change(func(f *api.Fleet) { f.Latency = 1000001 })
	change(func(f *api.Fleet) { f.Teams = nil })
	change(func(f *api.Fleet) { f.Teams[0] = 4 })
	change(func(f *api.Fleet) { f.Services = nil })
	change(func(f *api.Fleet) { f.Services[0] = 2 })
	return append(all, api.Fleet{})
}

func TestWrongFleets(t *testing.T) { // P11.1
	for _, f := range wrongFleets() {
		checkError(t, f, three(), api.ErrOrder)
		checkError(t, f, nil, api.ErrOrder)
		checkError(t, f, contradictory(7), api.ErrOrder)
	}
	checkAll(t, fleetOf(50, 0, 7), three(), study(fleetOf(50, 0, 7), three()))
}

func TestWrongEvents(t *testing.T) { // P11.1
	f := fleetOf(50, 1, 7, 7)
	for _, change := range []func(l []api.Event){
		func(l []api.Event) { l[1].Seq = 0 },
		func(l []api.Event) { l[1].Seq = 2 },
		func(l []api.Event) { l[2].Seq = 1000 },
		func(l []api.Event) { l[0].Agent = 1 },
		func(l []api.Event) { l[2].Agent = 2 },
		func(l []api.Event) { l[2].Agent = -1 },
		func(l []api.Event) { l[0].At = -1 },
		func(l []api.Event) { l[1].At = 1000001 },
		func(l []api.Event) { l[2].Kind = 0 },
		func(l []api.Event) { l[2].Kind = 8 },
		func(l []api.Event) { l[1].Trace = 1 },
		func(l []api.Event) { l[1].Span = 10 },
		func(l []api.Event) { l[1].Link = 1 },
		func(l []api.Event) { l[0].Bytes = 1001 },
		func(l []api.Event) { l[0] = api.Event{Kind: api.EBegin, Link: -1, Op: 3} },
		func(l []api.Event) { l[0] = api.Event{} },
	} {
		l := three()
		change(l)
		if clock.Events(f, l) {
			t.Fatalf("%v are events of a trace", l)
		}
		checkError(t, f, l, api.ErrOrder)
	}
	many := make([]api.Event, 25)
	for i := range many {
		many[i] = api.Event{Seq: i, At: 5, Kind: api.EEnd}
	}
	checkError(t, f, many, api.ErrOrder)
	checkError(t, f, make([]api.Event, 1<<18), api.ErrOrder)
	checkAll(t, f, many[:24], study(f, many[:24]))
}

// checkTruth checks that nothing that is certain contradicts the true times x. It returns of how many pairs of different events something is certain.
func checkTruth(t *testing.T, f api.Fleet, l []api.Event, x []int, random *rand.Rand) int {
	t.Helper()
	certain := 0
	m, err := order.Matrix(f, l)
	if err != api.OK {
		t.Fatalf("Matrix(%v, %v): %d", f, l, err)
	}
	for i := range l {
		for j := range l {
			d := x[j] - x[i]
			ok := map[int]bool{1: d > 0, 2: d >= 0, 3: d == 0, 4: d <= 0, 5: d < 0, 6: true}
			if !ok[m[i][j]] {
				t.Fatalf("Matrix(%v, %v) has %d for %d and %d, which are %d apart", f, l, m[i][j], i, j, d)
			}
			if i != j && m[i][j] != api.OOpen {
				certain++
			}
		}
		j := random.Intn(len(l))
		if low, high, err := order.Duration(f, l, i, j); x[j]-x[i] < low || x[j]-x[i] > high || err != api.OK {
			t.Fatalf("Duration(%v, %v, %d, %d) = %d, %d, %d; %d is true", f, l, i, j, low, high, err, x[j]-x[i])
		}
	}
	for range 5 {
		set := randomSet(random, len(l))
		lasts, err := order.Lasts(f, l, set)
		for _, k := range set {
			isLast := !slices.ContainsFunc(set, func(i int) bool { return x[i] > x[k] })
			if isLast && !slices.Contains(lasts, k) || err != api.OK {
				t.Fatalf("Lasts(%v, %v, %v) = %v, %d; %d is the last one", f, l, set, lasts, err, k)
			}
		}
	}
	return certain
}

func TestTruth(t *testing.T) { // P11.2
	random := rand.New(rand.NewSource(3))
	lies, certain := 0, 0
	for range 1000 {
		f, l, x, lying := story(random, 14)
		if !clock.Agrees(f, l, x, 1<<len(f.Drift)-1-lying) {
			t.Fatalf("%v do not agree with %v for %v, although only %b lie", x, l, f, lying)
		}
		pairs := checkTruth(t, f, l, x, random)
		if !clock.Agrees(f, l, x, -1) {
			lies++
			certain += pairs
		}
	}
	if lies < 100 || certain < 1000 {
		t.Errorf("%d times some lie; then something is certain of %d pairs", lies, certain)
	}
}

// checkAdmitted checks that there are admitted times with this difference.
func checkAdmitted(t *testing.T, f api.Fleet, l []api.Event, i, j, d int) {
	t.Helper()
	c, _ := clock.Constraints(f, l)
	x, choice, err := belief.Witness(f, len(l), c, i, j, d)
	if err != api.OK || x[j]-x[i] != d || agentsIn(choice) != len(f.Drift)-f.Liars || !holds(c, choice, x) {
		t.Fatalf("%v, %v: no times from %d to %d are %d apart: %v, %b, %d", f, l, i, j, d, x, choice, err)
	}
	const far = api.Beyond - 1<<43 // what is not bounded is moved to where times are
	for i := range x {
		if x[i] > far/2 {
			x[i] -= far
		}
	}
	if slices.Max(x) <= api.MaxTime && slices.Min(x) >= -api.MaxTime && !clock.Agrees(f, l, x, choice) {
		t.Fatalf("%v do not agree with %v for %v and %b", x, l, f, choice)
	}
}

func TestEndsAreAttained(t *testing.T) { // P11.3
	random := rand.New(rand.NewSource(4))
	counts := map[string]int{}
	for range 400 {
		f, l := tale(random, 12)
		for range len(l) {
			i, j := random.Intn(len(l)), random.Intn(len(l))
			low, high, err := order.Duration(f, l, i, j)
			if err != api.OK {
				continue
			}
			for _, end := range []int{low, high} {
				if end == none || end == -none {
					counts["not bounded"]++
					end /= 1 << 20
				}
				checkAdmitted(t, f, l, i, j, end)
				counts["ends"]++
			}
			if low < high {
				counts["different ends"]++
			}
		}
	}
	for _, what := range []string{"ends", "not bounded", "different ends"} {
		if counts[what] < 500 {
			t.Errorf("%s: %d times", what, counts[what])
		}
	}
}

// few returns a fleet, and few events whose least differences are so small that all orders of them are found among times from 0 to the last result.
func few(random *rand.Rand) (api.Fleet, []api.Event, int) {
	f := fleetOf(random.Intn(3), 0, make([]int, 1+random.Intn(4))...)
	f.Liars = random.Intn(min(3, len(f.Drift)))
	var l []api.Event
	at := make([]int, len(f.Drift))
	for i := range 2 + random.Intn(3) {
		e := randomEvent(random, random.Intn(len(f.Drift)), 2)
		if e.Kind == api.EBegin {
			e.Span = random.Intn(3)
			e.Link = (e.Span + 1 + random.Intn(2)) % 3
		}
		at[e.Agent] = min(1, at[e.Agent]+random.Intn(2))
		e.Seq, e.At = i, 50+at[e.Agent]
		if e.At > 50 && random.Intn(6) == 0 {
			e.At--
		}
		l = append(l, e)
	}
	l, _ = put(l, make([]int, len(l)))
	return f, l, (len(l) - 1) * max(1, f.Latency)
}

// next makes x the next list of numbers from 0 to most, and reports whether there is one.
func next(x []int, most int) bool {
	for i := range x {
		if x[i] < most {
			x[i]++
			return true
		}
		x[i] = 0
	}
	return false
}

// found is what is found among times: the least difference of each two, their orders (-1, 0 and 1), and the events that are last in sets.
type found struct {
	least  map[[2]int]int
	orders map[[3]int]bool
	lasts  map[[2]int]bool
	any    bool
}

// search tries all times from 0 to most, and all choices.
func search(f api.Fleet, l []api.Event, most int, sets [][]int) found {
	a := found{map[[2]int]int{}, map[[3]int]bool{}, map[[2]int]bool{}, false}
	x := make([]int, len(l))
	for more := true; more; more = next(x, most) {
		admitted := false
		for choice := range 1 << len(f.Drift) {
			admitted = admitted || agentsIn(choice) == len(f.Drift)-f.Liars && clock.Agrees(f, l, x, choice)
		}
		if !admitted {
			continue
		}
		a.any = true
		for i := range x {
			for j := range x {
				d := x[j] - x[i]
				if least, ok := a.least[[2]int{i, j}]; !ok || d < least {
					a.least[[2]int{i, j}] = d
				}
				a.orders[[3]int{i, j, max(-1, min(1, d))}] = true
			}
		}
		for s, set := range sets {
			for _, k := range set {
				if !slices.ContainsFunc(set, func(i int) bool { return x[i] > x[k] }) {
					a.lasts[[2]int{s, k}] = true
				}
			}
		}
	}
	return a
}

// relationOf returns the relation for which i is before j, at the same time, and after it, if that is found.
func relationOf(before, same, after bool) int {
	switch {
	case before && after:
		return api.OOpen
	case before && same:
		return api.ONotAfter
	case after && same:
		return api.ONotBefore
	case before:
		return api.OBefore
	case after:
		return api.OAfter
	}
	return api.OSame
}

func TestAllTimesOfFewEvents(t *testing.T) { // P11.1, P11.3, P11.6: relations, durations and possible lasts are what is found among all times
	random := rand.New(rand.NewSource(5))
	counts := map[int]int{}
	for range 400 {
		f, l, most := few(random)
		sets := [][]int{randomSet(random, len(l)), randomSet(random, len(l)), {0, 1}}
		a := search(f, l, most, sets)
		if !a.any {
			checkError(t, f, l, api.ErrBelief)
			counts[0]++
			continue
		}
		m, _ := order.Matrix(f, l)
		for i := range l {
			for j := range l {
				want := relationOf(a.orders[[3]int{i, j, 1}], a.orders[[3]int{i, j, 0}], a.orders[[3]int{i, j, -1}])
				if m[i][j] != want {
					t.Fatalf("Matrix(%v, %v) has %d for %d and %d, not %d", f, l, m[i][j], i, j, want)
				}
				counts[want]++
				low, _, err := order.Duration(f, l, i, j)
				if least := a.least[[2]int{i, j}]; low > least || low >= -most && low != least || err != api.OK {
					t.Fatalf("Duration(%v, %v, %d, %d) begins at %d, not %d: %d", f, l, i, j, low, least, err)
				}
			}
		}
		for s, set := range sets {
			want := slices.DeleteFunc(slices.Clone(set), func(k int) bool { return !a.lasts[[2]int{s, k}] })
			if got, err := order.Lasts(f, l, set); !slices.Equal(got, want) || err != api.OK {
				t.Fatalf("Lasts(%v, %v, %v) = %v, %d; want %v", f, l, set, got, err, want)
			}
		}
	}
	for what := range 7 {
		if counts[what] < 20 {
			t.Errorf("the relation %d (0: no times) is found %d times", what, counts[what])
		}
	}
}

// durations returns the durations of all pairs.
func durations(t *testing.T, f api.Fleet, l []api.Event) (low, high [][]int) {
	t.Helper()
	for i := range l {
		low, high = append(low, nil), append(high, nil)
		for j := range l {
			from, to, err := order.Duration(f, l, i, j)
			if err != api.OK {
				t.Fatalf("Duration(%v, %v, %d, %d): %d", f, l, i, j, err)
			}
			low[i], high[i] = append(low[i], from), append(high[i], to)
		}
	}
	return low, high
}

func TestPartialOrder(t *testing.T) { // P11.4
	random := rand.New(rand.NewSource(6))
	mirror := map[int]int{1: 5, 2: 4, 3: 3, 4: 2, 5: 1, 6: 6}
	notAfter := map[int]bool{api.OBefore: true, api.OSame: true, api.ONotAfter: true}
	counts := map[string]int{}
	for range 500 {
		f, l := tale(random, 10)
		m, err := order.Matrix(f, l)
		if err != api.OK {
			continue
		}
		low, high := durations(t, f, l)
		for i := range l {
			if m[i][i] != api.OSame || low[i][i] != 0 || high[i][i] != 0 {
				t.Fatalf("Matrix(%v, %v) has %d for %d and itself, %d to %d", f, l, m[i][i], i, low[i][i], high[i][i])
			}
			for j := range l {
				if m[j][i] != mirror[m[i][j]] || low[j][i] != -high[i][j] {
					t.Fatalf("Matrix(%v, %v) has %d and %d for %d and %d", f, l, m[i][j], m[j][i], i, j)
				}
				for k := range l {
					if m[i][j] == api.OBefore && m[j][k] == api.OBefore {
						counts["before"]++
						if m[i][k] != api.OBefore {
							t.Fatalf("Matrix(%v, %v): %d is before %d, and this before %d", f, l, i, j, k)
						}
					}
					if notAfter[m[i][j]] && notAfter[m[j][k]] {
						counts["not after"]++
						if !notAfter[m[i][k]] {
							t.Fatalf("Matrix(%v, %v): %d is not after %d, and this not after %d", f, l, i, j, k)
						}
					}
					if low[i][j] != -none && low[j][k] != -none && low[i][k] < low[i][j]+low[j][k] {
						t.Fatalf("Duration(%v, %v) from %d to %d, and to %d, do not add up", f, l, i, j, k)
					}
				}
			}
		}
	}
	if counts["before"] < 1000 || counts["not after"] < 1000 {
		t.Errorf("so often: %v", counts)
	}
}

func TestSort(t *testing.T) { // P11.5
	random := rand.New(rand.NewSource(7))
	counts := map[bool]int{}
	for range 2500 {
		f, l := tale(random, 14)
		m, err := order.Matrix(f, l)
		if err != api.OK {
			continue
		}
		got, err := order.Sort(f, l)
		inOrder := slices.Sorted(slices.Values(got))
		for i := range inOrder {
			if inOrder[i] != i {
				t.Fatalf("Sort(%v, %v) = %v", f, l, got)
			}
		}
		if len(got) != len(l) || err != api.OK {
			t.Fatalf("Sort(%v, %v) = %v, %d", f, l, got, err)
		}
		stay := true
		for j := range got {
			for i := range j {
				if m[got[j]][got[i]] == api.OBefore {
					t.Fatalf("Sort(%v, %v) = %v; %d is before %d", f, l, got, got[j], got[i])
				}
				stay = stay && m[i][j] != api.OAfter
			}
		}
		if stay && !slices.IsSorted(got) {
			t.Fatalf("Sort(%v, %v) = %v", f, l, got)
		}
		counts[stay]++
	}
	if counts[true] < 100 || counts[false] < 100 {
		t.Errorf("so many are listed in order: %v", counts)
	}
}

func TestSortOfMessages(t *testing.T) { // P11.5: messages from each agent to the one before it
	var l []api.Event
	for agent := range 6 {
		l = append(l, api.Event{Agent: agent, Kind: api.EReceive, Link: agent + 1}, api.Event{Agent: agent, Seq: 1, Kind: api.ESend, Link: agent})
	}
	want := []int{10, 11, 8, 9, 6, 7, 4, 5, 2, 3, 0, 1}
	if got, err := order.Sort(fleetOf(1, 0, make([]int, 6)...), l); !slices.Equal(got, want) || err != api.OK {
		t.Errorf("Sort = %v, %d", got, err)
	}
	l[4].Link = 9 // agent 2 receives another message
	want = []int{4, 5, 2, 3, 0, 1, 10, 11, 8, 9, 6, 7}
	if got, err := order.Sort(fleetOf(1, 0, make([]int, 6)...), l); !slices.Equal(got, want) || err != api.OK {
		t.Errorf("Sort = %v, %d", got, err)
	}
}

// checkLast checks what relations say about the possible lasts of a set.
func checkLast(t *testing.T, f api.Fleet, l []api.Event, m [][]int, set []int, counts map[string]int) {
	t.Helper()
	lasts, err := order.Lasts(f, l, set)
	if len(set) > 0 && len(lasts) == 0 || err != api.OK {
		t.Fatalf("Lasts(%v, %v, %v) = %v, %d", f, l, set, lasts, err)
	}
	for _, k := range set {
		got := slices.Contains(lasts, k)
		isBefore := slices.ContainsFunc(set, func(i int) bool { return m[k][i] == api.OBefore })
		isLast := !slices.ContainsFunc(set, func(i int) bool { return m[k][i] <= api.ONotAfter || m[k][i] == api.OOpen })
		if isBefore && got || isLast && !got {
			t.Fatalf("Lasts(%v, %v, %v) = %v; %v", f, l, set, lasts, m)
		}
		switch {
		case isBefore:
			counts["before another one"]++
		case isLast:
			counts["before no other one"]++
		default:
			counts["neither"]++
		}
	}
}

func TestLasts(t *testing.T) { // P11.6
	random := rand.New(rand.NewSource(8))
	counts := map[string]int{}
	for range 1000 {
		f, l := tale(random, 12)
		m, err := order.Matrix(f, l)
		if err != api.OK {
			continue
		}
		for range 3 {
			set := randomSet(random, len(l))
			checkLast(t, f, l, m, set, counts)
			lasts, _ := order.Lasts(f, l, set)
			smaller := slices.DeleteFunc(slices.Clone(set), func(int) bool { return random.Intn(3) == 0 })
			left, _ := order.Lasts(f, l, smaller)
			for _, k := range smaller {
				if slices.Contains(lasts, k) && !slices.Contains(left, k) {
					t.Fatalf("Lasts(%v, %v, %v) = %v; of %v %v", f, l, set, lasts, smaller, left)
				}
			}
			if len(left) > 0 && len(left) < len(lasts) {
				counts["fewer"]++
			}
		}
	}
	for _, what := range []string{"before another one", "before no other one", "neither", "fewer"} {
		if counts[what] < 100 {
			t.Errorf("%s: %d times", what, counts[what])
		}
	}
}

func TestLastOfEachTwo(t *testing.T) { // P11.1: event 0 may be later than 3 if agent 1 lies, and later than 6 if agent 2 does, but one of these two does not
	report := func(agent, seq, kind, link int) api.Event {
		return api.Event{Agent: agent, Seq: seq, At: seq, Kind: kind, Link: link}
	}
	l := []api.Event{
		report(0, 0, api.EEnd, 0), report(0, 1, api.ESend, 1), report(0, 2, api.ESend, 2),
		report(1, 0, api.EReceive, 1), report(1, 1, api.EReceive, 9), report(1, 2, api.ESend, 8),
		report(2, 0, api.EReceive, 2), report(2, 1, api.EReceive, 8), report(2, 2, api.ESend, 9),
	}
	f := fleetOf(0, 1, 0, 0, 0)
	for _, c := range []struct{ set, want []int }{{[]int{0, 3}, []int{0, 3}}, {[]int{0, 6}, []int{0, 6}}, {[]int{3, 6}, []int{3, 6}}, {[]int{0, 3, 6}, []int{3, 6}}} {
		if got, err := order.Lasts(f, l, c.set); !slices.Equal(got, c.want) || err != api.OK {
			t.Errorf("Lasts of %v = %v, %d", c.set, got, err)
		}
	}
	if got, err := order.Compare(f, l, 0, 3); got != api.OOpen || err != api.OK {
		t.Errorf("Compare = %d, %d", got, err)
	}
}

func TestLastsOfFeuds(t *testing.T) { // P11.1
	random := rand.New(rand.NewSource(11))
	counts := map[string]int{}
	f := fleetOf(1, 1, 0, 0, 0)
	for range 600 {
		l := feud(random, f, 8+random.Intn(9))
		k := study(f, l)
		for range 10 {
			set := randomSet(random, len(l))
			k.kinds(counts, set, checkLasts(t, f, l, k, set))
		}
	}
	if what := "last of each two, and not of all"; counts[what] < 30 {
		t.Errorf("%s: %d times", what, counts[what])
	}
}

func TestFewerLiars(t *testing.T) { // P11.7
	random := rand.New(rand.NewSource(9))
	stronger := map[int][]int{1: {1}, 2: {1, 2, 3}, 3: {3}, 4: {3, 4, 5}, 5: {5}, 6: {1, 2, 3, 4, 5, 6}}
	counts := map[string]int{}
	for range 900 {
		f, l := tale(random, 8)
		if f.Liars == 0 || len(l) == 0 {
			continue
		}
		g := f
		g.Liars = random.Intn(f.Liars)
		m, err := order.Matrix(f, l)
		strong, strongErr := order.Matrix(g, l)
		if strongErr != api.OK {
			continue
		}
		for i := range l {
			j := random.Intn(len(l))
			low, high, _ := order.Duration(f, l, i, j)
			from, to, _ := order.Duration(g, l, i, j)
			if !slices.Contains(stronger[m[i][j]], strong[i][j]) || from < low || to > high || err != api.OK {
				t.Fatalf("%v, %v: from %d to %d it takes %d to %d (%d), and %d to %d (%d) if %d lie", f, l, i, j, low, high, m[i][j], from, to, strong[i][j], g.Liars)
			}
			if m[i][j] != strong[i][j] {
				counts["stronger"]++
			}
		}
		set := randomSet(random, len(l))
		lasts, _ := order.Lasts(f, l, set)
		fewer, _ := order.Lasts(g, l, set)
		if slices.ContainsFunc(fewer, func(k int) bool { return !slices.Contains(lasts, k) }) {
			t.Fatalf("Lasts(%v, %v, %v) = %v; %v if %d lie", f, l, set, lasts, fewer, g.Liars)
		}
		if len(fewer) < len(lasts) {
			counts["fewer"]++
		}
	}
	if counts["stronger"] < 100 || counts["fewer"] < 50 {
		t.Errorf("so often: %v", counts)
	}
}

// spare returns a copy of l with spare capacity that is full of other elements.
func spare[T any](l []T, other T) []T {
	full := append(slices.Clone(l), other, other, other)
	return full[:len(l)]
}

// scribble changes all elements of l, and those in its spare capacity.
func scribble(l []int) {
	for i := range l[:cap(l)] {
		l[:cap(l)][i] = 77
	}
}

func TestNothingIsShared(t *testing.T) { // P11.1
	random := rand.New(rand.NewSource(10))
	other := api.Event{Agent: -7}
	for range 300 {
		g, m := tale(random, 12)
		subset := randomSet(random, len(m))
		k := study(g, m)
		f := g
		f.Drift, f.Services, f.Teams = spare(g.Drift, 77), spare(g.Services, 77), spare(g.Teams, 77)
		l, set := spare(m, other), spare(subset, 77)
		for range 2 { // the second time after all results were changed
			checkAll(t, f, l, k)
			all, _ := order.Matrix(f, l)
			for i := range all {
				scribble(all[i])
				if i > 0 && all[0][0] != 77 {
					t.Fatalf("rows of Matrix share memory: %v", all)
				}
			}
			sorted, _ := order.Sort(f, l)
			scribble(sorted)
			scribble(checkLasts(t, f, l, k, set))
		}
		if !slices.Equal(l, m) || !slices.Equal(set, subset) || !slices.Equal(f.Drift, g.Drift) || !slices.Equal(f.Services, g.Services) || !slices.Equal(f.Teams, g.Teams) {
			t.Fatalf("an argument is changed: %v, %v, %v", f, l, set)
		}
		if l[:len(l)+1][len(l)] != other || set[:len(set)+1][len(set)] != 77 || f.Drift[:len(f.Drift)+1][len(f.Drift)] != 77 || f.Services[:4][3] != 77 || f.Teams[:3][2] != 77 {
			t.Fatal("spare capacity is written to")
		}
	}
}

// Example shows what is certain about a message between two agents, and about what the second one reports then.
func Example() {
	f := api.Fleet{Drift: []int{0, 0}, Latency: 50, Services: []int{0}, Teams: []int{0}}
	l := []api.Event{{Agent: 0, At: 90, Kind: api.ESend, Link: 3}, {Agent: 0, Seq: 1, At: 95, Kind: api.EEnd}, {Agent: 1, At: 7, Kind: api.EReceive, Link: 3}, {Agent: 1, Seq: 1, At: 9, Kind: api.EEnd, Span: 1}}
	low, high, _ := order.Duration(f, l, 0, 3)
	fmt.Println(low, high == api.NoBound)
	before, _ := order.Compare(f, l, 0, 3)
	open, _ := order.Compare(f, l, 1, 3)
	fmt.Println(before == api.OBefore, open == api.OOpen)
	sorted, _ := order.Sort(f, l)
	lasts, _ := order.Lasts(f, l, []int{0, 1, 2, 3})
	fmt.Println(sorted, lasts)
	f.Liars = 1
	open, _ = order.Compare(f, l, 0, 3)
	fmt.Println(open == api.OOpen)
	// Output:
	// 1000051 true
	// true true
	// [0 1 2 3] [1 3]
	// true
}
