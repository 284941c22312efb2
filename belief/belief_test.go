package belief_test

import (
	"fmt"
	"math"
	"math/bits"
	"math/rand"
	"slices"
	"testing"

	"latecomer/api"
	"latecomer/belief"
	"latecomer/bounds"
	"latecomer/clock"
)

// three are the constraints of the examples.
func three() []api.Constraint {
	return []api.Constraint{constraint(0, 1, 5, 1), constraint(1, 0, -4, 2), constraint(1, 0, -9, 4)}
}

// checkChoices checks what Choices and Liars return, and returns it.
func checkChoices(t *testing.T, f api.Fleet, n int, l []api.Constraint) ([]int, int, api.Errno) {
	t.Helper()
	all, wantErr := possible(f, n, l)
	var want []int
	for _, b := range all {
		want = append(want, b.choice)
	}
	got, err := belief.Choices(f, n, l)
	if !slices.Equal(got, want) || err != wantErr {
		t.Fatalf("Choices(%v, %d, %v) = %v, %d; want %v, %d", f, n, l, got, err, want, wantErr)
	}
	wantSet, wantErr := liars(f, n, l)
	set, err := belief.Liars(f, n, l)
	if set != wantSet || err != wantErr {
		t.Fatalf("Liars(%v, %d, %v) = %b, %d; want %b, %d", f, n, l, set, err, wantSet, wantErr)
	}
	return got, set, err
}

// checkRange checks what Range returns, and returns it.
func checkRange(t *testing.T, f api.Fleet, n int, l []api.Constraint, from, to int) (int, int, api.Errno) {
	t.Helper()
	wantLow, wantHigh, wantErr := span(f, n, l, from, to)
	low, high, err := belief.Range(f, n, l, from, to)
	if low != wantLow || high != wantHigh || err != wantErr {
		t.Fatalf("Range(%v, %d, %v, %d, %d) = %d, %d, %d; want %d, %d, %d", f, n, l, from, to, low, high, err, wantLow, wantHigh, wantErr)
	}
	return low, high, err
}

// checkWitness checks what Witness returns, and returns it.
func checkWitness(t *testing.T, f api.Fleet, n int, l []api.Constraint, from, to, v int) ([]int, int, api.Errno) {
	t.Helper()
	want, wantChoice, wantErr := witness(f, n, l, from, to, v)
	x, choice, err := belief.Witness(f, n, l, from, to, v)
	if !slices.Equal(x, want) || choice != wantChoice || err != wantErr {
		t.Fatalf("Witness(%v, %d, %v, %d, %d, %d) = %v, %b, %d; want %v, %b, %d", f, n, l, from, to, v, x, choice, err, want, wantChoice, wantErr)
	}
	return x, choice, err
}

// checkError checks that all functions return this error, and nothing else.
func checkError(t *testing.T, f api.Fleet, n int, l []api.Constraint, want api.Errno) {
	t.Helper()
	if all, err := belief.Choices(f, n, l); len(all) != 0 || err != want {
		t.Errorf("Choices(%v, %d, %.20v) = %v, %d; want %d", f, n, l, all, err, want)
	}
	if set, err := belief.Liars(f, n, l); set != 0 || err != want {
		t.Errorf("Liars(%v, %d, %.20v) = %b, %d; want %d", f, n, l, set, err, want)
	}
	if low, high, err := belief.Range(f, n, l, 0, 0); low != 0 || high != 0 || err != want {
		t.Errorf("Range(%v, %d, %.20v) = %d, %d, %d; want %d", f, n, l, low, high, err, want)
	}
	if x, choice, err := belief.Witness(f, n, l, 0, 0, 0); len(x) != 0 || choice != 0 || err != want {
		t.Errorf("Witness(%v, %d, %.20v) = %v, %b, %d; want %d", f, n, l, x, choice, err, want)
	}
}

func TestExamples(t *testing.T) { // P10.1
	check := func(f api.Fleet, l []api.Constraint, choices []int, low, high, liars int) {
		t.Helper()
		if got, err := belief.Choices(f, 2, l); !slices.Equal(got, choices) || err != api.OK {
			t.Errorf("Choices = %v, %d", got, err)
		}
		if x, y, err := belief.Range(f, 2, l, 0, 1); x != low || y != high || err != api.OK {
			t.Errorf("Range = %d, %d, %d", x, y, err)
		}
		if got, err := belief.Liars(f, 2, l); got != liars || err != api.OK {
			t.Errorf("Liars = %b, %d", got, err)
		}
	}
	check(fleetOf(3, 1), three(), []int{3, 6}, 4, none, 0)
	four := append(three(), constraint(0, 1, 6, 2))
	check(fleetOf(3, 1), four, []int{3}, 4, 5, 4)
	checkError(t, fleetOf(3, 0), 2, three(), api.ErrBelief)
	checkError(t, fleetOf(3, 0), 2, four, api.ErrBelief)
}

func TestWitnessOfTheExample(t *testing.T) { // P10.1, P10.3: there is a gap between what the two choices admit
	for _, c := range []struct {
		v, choice int
		err       api.Errno
	}{{3, 0, api.ErrBelief}, {4, 3, api.OK}, {5, 3, api.OK}, {6, 0, api.ErrBelief}, {8, 0, api.ErrBelief}, {9, 6, api.OK}, {10, 6, api.OK}, {end, 6, api.OK}, {end + 1, 0, api.ErrBelief}, {none, 0, api.ErrBelief}, {math.MaxInt, 0, api.ErrBelief}, {math.MinInt, 0, api.ErrBelief}} {
		var want []int
		if c.err == api.OK {
			want = []int{0, c.v}
		}
		if x, choice, err := belief.Witness(fleetOf(3, 1), 2, three(), 0, 1, c.v); !slices.Equal(x, want) || choice != c.choice || err != c.err {
			t.Errorf("Witness of %d = %v, %b, %d", c.v, x, choice, err)
		}
	}
}

func TestPartOfSmallSets(t *testing.T) { // P10.1: all of them
	var l []api.Constraint
	for set := range 128 {
		l = append(l, constraint(set, -set, 7-set, set)) // valid or not
	}
	for mask := range 128 {
		if got := belief.Part(l, mask); !slices.Equal(got, part(l, mask)) || len(got) != 1<<bits.OnesCount(uint(mask)) {
			t.Fatalf("Part(%b) = %v", mask, got)
		}
	}
}

func TestPartOfAnyNumbers(t *testing.T) { // P10.1
	random := rand.New(rand.NewSource(1))
	numbers := []int{0, 1, 63, 64, -1, -2, -64, math.MaxInt, math.MinInt, math.MinInt + 1, math.MaxInt - 1, 1 << 62, 1 << 32, -1 << 32, 1<<32 + 1}
	for range 40 {
		numbers = append(numbers, int(random.Uint64()), int(random.Uint64()&random.Uint64()&random.Uint64()), int(random.Uint64()|random.Uint64()|random.Uint64()))
	}
	var l []api.Constraint
	for i, agents := range numbers {
		l = append(l, constraint(numbers[(i+3)%len(numbers)], agents, numbers[(i+5)%len(numbers)], agents))
	}
	sizes := map[int]bool{}
	for _, mask := range numbers {
		got := belief.Part(l, mask)
		if !slices.Equal(got, part(l, mask)) {
			t.Fatalf("Part(%v, %b) = %v", l, mask, got)
		}
		sizes[len(got)] = true
	}
	if len(sizes) < 10 || !sizes[len(l)] {
		t.Errorf("the parts have so many elements: %v", sizes)
	}
	many := slices.Repeat(l, 100)
	if got := belief.Part(many, -2); !slices.Equal(got, part(many, -2)) {
		t.Errorf("Part of %d constraints has %d elements", len(many), len(got))
	}
	if got := belief.Part(nil, -1); len(got) != 0 {
		t.Errorf("Part of none = %v", got)
	}
}

func TestAllFunctionsOfStories(t *testing.T) { // P10.1
	random := rand.New(rand.NewSource(2))
	counts := map[string]int{}
	for try := range 1400 {
		f, n, _, _, l := story(random, 24)
		if try%12 > 0 {
			f, n, l = quarrel(random, 2+try%5)
		}
		all, set, err := checkChoices(t, f, n, l)
		for range 2 {
			from, to := random.Intn(n), random.Intn(n)
			low, high, err := checkRange(t, f, n, l, from, to)
			for _, v := range []int{low - 1, low, low + 1, low + 2, 0, high - 2, high - 1, high, high + 1, random.Intn(20) - 10, end, -end, end + 1, -end - 1} {
				_, choice, witnessErr := checkWitness(t, f, n, l, from, to, v)
				switch {
				case err == api.ErrBelief:
					counts["no choice"]++
				case v < low || v > high || v < -end || v > end:
					counts["outside"]++
				case witnessErr != api.OK:
					counts["in a gap"]++
				case choice != all[0]:
					counts["of a later choice"]++
				default:
					counts["of the first choice"]++
				}
			}
		}
		counts[fmt.Sprintf("%d choices", min(len(all), 4))]++
		counts[fmt.Sprintf("%d liars", bits.OnesCount(uint(set)))]++
		if err == api.OK && len(all) < len(choices(len(f.Drift), f.Liars)) {
			counts["choices are not possible"]++
		}
	}
	for _, what := range []string{"no choice", "outside", "in a gap", "of a later choice", "of the first choice", "0 choices", "1 choices", "2 choices", "3 choices", "4 choices", "0 liars", "1 liars", "choices are not possible"} {
		if counts[what] < 20 {
			t.Errorf("%d of these are %s", counts[what], what)
		}
	}
}

func TestChoicesOfEveryFleet(t *testing.T) { // P10.1: without constraints, and with one on each set of agents that contradicts itself
	for agents := 1; agents <= 6; agents++ {
		for most := 0; most <= min(2, agents-1); most++ {
			f := fleetOf(agents, most)
			want := choices(agents, most)
			if got, set, err := checkChoices(t, f, 1, nil); !slices.Equal(got, want) || set != 0 || err != api.OK {
				t.Errorf("Choices of %d agents with %d liars = %v, %d", agents, most, got, err)
			}
			for contradictory := range 1 << agents {
				l := []api.Constraint{constraint(0, 1, 2, contradictory), constraint(1, 0, -3, contradictory)}
				left := slices.DeleteFunc(slices.Clone(want), func(set int) bool { return contradictory&set == contradictory })
				if got, _, err := checkChoices(t, f, 2, l); !slices.Equal(got, left) || (err == api.OK) != (len(left) > 0) {
					t.Errorf("Choices of %d agents with %d liars without %b = %v, %d", agents, most, contradictory, got, err)
				}
			}
		}
	}
}

func TestAllSmallQuarrels(t *testing.T) { // P10.1, P10.6: each two agents may contradict each other
	for agents := 1; agents <= 4; agents++ {
		var pairs [][2]int
		for a := range agents {
			for b := range a {
				pairs = append(pairs, [2]int{a, b})
			}
		}
		for quarrels := range 1 << len(pairs) {
			var l []api.Constraint
			for i, p := range pairs {
				if has(quarrels, i) { // each pair on two variables of its own
					l = append(l, constraint(2*i, 2*i+1, 5, 1<<p[0]), constraint(2*i+1, 2*i, -6, 1<<p[1]))
				}
			}
			for most := 0; most <= min(2, agents-1); most++ {
				f := fleetOf(agents, most)
				checkChoices(t, f, 12, l)
				checkLiars(t, f, 12, l)
			}
		}
	}
}

// wrongFleets are not valid; each has three agents, unless that is what is wrong.
func wrongFleets() []api.Fleet {
	var all []api.Fleet
	change := func(change func(f *api.Fleet)) {
		f := fleetOf(3, 1)
		change(&f)
		all = append(all, f)
	}
	for _, liars := range []int{-1, 3, 4, 1 << 32, math.MinInt, math.MaxInt} {
		change(func(f *api.Fleet) { f.Liars = liars })
	}
	for _, agents := range []int{0, 1, 7, 8, 20, 64, 65, 100} {
		change(func(f *api.Fleet) { f.Drift = make([]int, agents) })
	}
	change(func(f *api.Fleet) { f.Drift, f.Liars = make([]int, 2), 2 })
	change(func(f *api.Fleet) { f.Drift[2] = 1001 })
	change(func(f *api.Fleet) { f.Drift[0] = -1 })
	change(func(f *api.Fleet) { f.Latency = -1 })
	change(func(f *api.Fleet) { f.Latency = 1000001 })
	change(func(f *api.Fleet) { f.Teams = nil })
	change(func(f *api.Fleet) { f.Teams = []int{4} })
	change(func(f *api.Fleet) { f.Services = nil })
	change(func(f *api.Fleet) { f.Services = []int{1} })
	return append(all, api.Fleet{})
}

func TestWrongFleets(t *testing.T) { // P10.1
	for _, f := range wrongFleets() {
		checkError(t, f, 2, nil, api.ErrArg)
		checkError(t, f, 2, three(), api.ErrArg)
		checkError(t, f, 0, nil, api.ErrArg)
	}
}

// wrongConstraints are not valid for 3 agents and 4 variables.
func wrongConstraints() []api.Constraint {
	var all []api.Constraint
	for _, v := range []int{-1, 4, 5, 24, 25, 1 << 32, math.MaxInt, math.MinInt} {
		all = append(all, constraint(v, 0, 0, 1), constraint(0, v, 0, 1), constraint(v, v, 0, 1))
	}
	for _, most := range []int{1<<50 + 1, -1<<50 - 1, none, -none, math.MaxInt, math.MinInt} {
		all = append(all, constraint(0, 1, most, 1))
	}
	for _, agents := range []int{8, 9, 15, 16, 32, 63, 64, 65, -1, -8, 1 << 32, 1 << 62, math.MaxInt, math.MinInt, math.MinInt + 7} {
		all = append(all, constraint(0, 1, 0, agents))
	}
	return append(all, constraint(0, 0, 5, 1), constraint(3, 3, -5, 7))
}

func TestWrongConstraints(t *testing.T) { // P10.1: also where no choice believes them, and before the error that there is no choice
	contradictory := []api.Constraint{constraint(0, 1, 1, 0), constraint(1, 0, -2, 0)}
	for _, c := range wrongConstraints() {
		for liars := range 3 {
			f := fleetOf(3, liars)
			if areValid(f, 4, []api.Constraint{c}) {
				t.Fatalf("%v is valid", c)
			}
			checkError(t, f, 4, []api.Constraint{c}, api.ErrArg)
			for place := range 3 {
				checkError(t, f, 4, slices.Insert(contradictory[:2:2], place, c), api.ErrArg)
				checkError(t, f, 4, slices.Insert(slices.Repeat([]api.Constraint{constraint(2, 3, 1, 7)}, 2), place, c), api.ErrArg)
			}
			if c.Agents >= 0 && c.Agents < 8 {
				c.Agents = 7
				checkError(t, f, 4, []api.Constraint{c}, api.ErrArg)
			}
		}
	}
	for liars := range 3 {
		checkError(t, fleetOf(3, liars), 4, contradictory, api.ErrBelief)
	}
}

func TestAgentsOfTheFleet(t *testing.T) { // P10.1: each set of agents, in each fleet
	for agents := 1; agents <= 6; agents++ {
		for set := -70; set <= 140; set++ {
			_, err := belief.Choices(fleetOf(agents, 0), 2, []api.Constraint{constraint(0, 1, 0, set)})
			want := api.ErrArg
			if set >= 0 && set < 1<<agents {
				want = api.OK
			}
			if err != want {
				t.Errorf("Choices of %d agents with %b: %d", agents, set, err)
			}
		}
	}
}

func TestNumbersOfVariables(t *testing.T) { // P10.1
	f := fleetOf(3, 1)
	for _, n := range []int{0, -1, 25, 26, 63, 64, 1 << 32, 1<<32 + 2, math.MinInt, math.MaxInt} {
		checkError(t, f, n, nil, api.ErrArg)
		checkError(t, f, n, three(), api.ErrArg)
		checkError(t, f, n, []api.Constraint{constraint(0, 1, 1, 0), constraint(1, 0, -2, 0)}, api.ErrArg)
	}
	for n := 1; n <= 24; n++ {
		if all, _, _ := checkChoices(t, f, n, nil); len(all) != 3 {
			t.Errorf("%d variables have the choices %v", n, all)
		}
	}
	checkError(t, f, 1, three(), api.ErrArg)
	checkChoices(t, f, 2, three())
}

func TestWrongVariables(t *testing.T) { // P10.1: before the error that there is no choice
	f := fleetOf(3, 1)
	contradictory := []api.Constraint{constraint(0, 1, 1, 0), constraint(1, 0, -2, 0)}
	for _, wrong := range []int{-1, 2, 3, 24, 25, 1 << 32, 1<<32 + 1, math.MinInt, math.MaxInt} {
		for _, l := range [][]api.Constraint{nil, three(), contradictory} {
			for _, pair := range [][2]int{{wrong, 0}, {0, wrong}, {wrong, wrong}, {1, wrong}, {wrong, 1}} {
				from, to := pair[0], pair[1]
				if low, high, err := belief.Range(f, 2, l, from, to); low != 0 || high != 0 || err != api.ErrArg {
					t.Errorf("Range(%d, %d) = %d, %d, %d", from, to, low, high, err)
				}
				for _, v := range []int{0, 4, none, math.MinInt} {
					if x, choice, err := belief.Witness(f, 2, l, from, to, v); len(x) != 0 || choice != 0 || err != api.ErrArg {
						t.Errorf("Witness(%d, %d, %d) = %v, %b, %d", from, to, v, x, choice, err)
					}
				}
			}
		}
	}
}

func TestManyConstraints(t *testing.T) { // P10.1
	f := fleetOf(6, 2)
	l := slices.Repeat([]api.Constraint{constraint(4, 7, 3, 1)}, 2000)
	l[1999] = constraint(7, 4, -3, 2)
	if low, high, err := checkRange(t, f, 24, l, 4, 7); low != -none || high != none || err != api.OK {
		t.Errorf("Range of 2000 = %d, %d, %d", low, high, err)
	}
	l[1998] = constraint(7, 4, -4, 1<<5)
	if all, _, _ := checkChoices(t, f, 24, l); len(all) != 15-6 { // the choices with both 0 and 5 are not possible
		t.Errorf("Choices of 2000 = %v", all)
	}
	checkError(t, f, 24, append(l, l[0]), api.ErrArg)
	checkError(t, f, 24, make([]api.Constraint, 1<<16), api.ErrArg)
	checkError(t, f, 24, slices.Repeat([]api.Constraint{constraint(4, 7, 3, 63)}, 2001), api.ErrArg)
}

func TestFarDifferences(t *testing.T) { // P10.1, P10.3: as far as constraints reach, and as far as values do
	f := fleetOf(3, 1)
	var l []api.Constraint
	for i := range 23 {
		l = append(l, constraint(i, i+1, 1<<50, 1), constraint(i+1, i, 1<<50, 2))
	}
	const far = 23 << 50
	for _, c := range []struct{ from, to, v, choice int }{
		{0, 23, far, 3}, {0, 23, -far, 3}, {23, 0, far, 3}, {0, 23, far + 1, 6}, {0, 23, -far - 1, 5}, {23, 0, far + 1, 5}, {0, 23, end, 6}, {0, 23, -end, 5}, {0, 23, end + 1, 0}, {0, 23, -end - 1, 0}, {7, 7, 0, 3}, {7, 7, 1, 0},
	} {
		x, choice, err := checkWitness(t, f, 24, l, c.from, c.to, c.v)
		if choice != c.choice || (err == api.OK) != (c.choice != 0) || err == api.OK && (x[c.to]-x[c.from] != c.v || !holds(part(l, choice), x)) {
			t.Errorf("Witness(%d, %d, %d) = %v, %b, %d", c.from, c.to, c.v, x, choice, err)
		}
	}
	if low, high, _ := checkRange(t, f, 24, l, 0, 23); low != -none || high != none {
		t.Errorf("Range = %d, %d", low, high)
	}
	if low, high, _ := checkRange(t, fleetOf(3, 0), 24, l, 0, 23); low != -far || high != far {
		t.Errorf("Range of those who do not lie = %d, %d", low, high)
	}
	if low, high, _ := checkRange(t, f, 24, l, 7, 7); low != 0 || high != 0 {
		t.Errorf("Range of one variable = %d, %d", low, high)
	}
}

func TestFarRanges(t *testing.T) { // P10.1: differences that are beyond the bound of a single constraint, whoever lies
	for n := 2; n <= 24; n++ {
		var l []api.Constraint
		for i := range n - 1 {
			l = append(l, constraint(i, i+1, 1<<50, 0), constraint(i+1, i, -1<<50, 1), constraint(i+1, i, -1<<50, 6))
		}
		far := (n - 1) << 50
		for _, c := range []struct{ from, to, low, high int }{{0, n - 1, far, far}, {n - 1, 0, -far, -far}} {
			if low, high, err := checkRange(t, fleetOf(3, 1), n, l, c.from, c.to); low != c.low || high != c.high || err != api.OK {
				t.Errorf("Range(%d, %d) = %d, %d, %d", c.from, c.to, low, high, err)
			}
		}
	}
}

// checkTruth checks that the results admit the assignment x, for whose constraints the agents lying are not answerable.
func checkTruth(t *testing.T, f api.Fleet, n int, l []api.Constraint, x []int, lying int) {
	t.Helper()
	all, err := belief.Choices(f, n, l)
	if err != api.OK || len(all) == 0 || !slices.ContainsFunc(all, func(set int) bool { return set&lying == 0 }) {
		t.Fatalf("Choices(%v, %d, %v) = %v, %d; these lie: %b", f, n, l, all, err, lying)
	}
	if set, err := belief.Liars(f, n, l); set&^lying != 0 || err != api.OK {
		t.Fatalf("Liars(%v, %d, %v) = %b, %d; these lie: %b", f, n, l, set, err, lying)
	}
	for from := range n {
		for to := from % 3; to < n; to += 3 {
			low, high, err := belief.Range(f, n, l, from, to)
			if d := x[to] - x[from]; d < low || d > high || err != api.OK {
				t.Fatalf("Range(%v, %d, %v, %d, %d) = %d, %d, %d; %d is true", f, n, l, from, to, low, high, err, d)
			}
		}
	}
}

func TestTruth(t *testing.T) { // P10.2
	random := rand.New(rand.NewSource(3))
	found := 0
	for range 1200 {
		f, n, x, lying, l := story(random, 8)
		for i := range l {
			if l[i].Agents&lying != 0 && random.Intn(6) == 0 { // as wrong as can be
				l[i].Most = (random.Intn(2)*2 - 1) << 50
			}
		}
		checkTruth(t, f, n, l, x, lying)
		if set, _ := belief.Liars(f, n, l); set != 0 {
			found++
		}
	}
	if found < 50 {
		t.Errorf("there are liars %d times", found)
	}
}

// trace returns events that agents report whose clocks run at the rate of time, each with some offset, and the times of the events; the agents lying report any readings and any links.
func trace(random *rand.Rand, agents, lying int) ([]api.Event, []int) {
	var l []api.Event
	var x []int
	now := make([]int, agents)
	for agent := range agents {
		offset := random.Intn(300 * api.Million)
		for seq := range 3 {
			now[agent] += random.Intn(9 * api.Million)
			e := api.Event{Agent: agent, Seq: seq, At: (now[agent] + offset) / api.Million, Kind: api.ESend, Trace: 7, Link: 3*agent + seq}
			if seq == 1 && agent > 0 { // it receives what the agent before it has sent first
				e.Kind, e.Link = api.EReceive, 3*agent-3
				now[agent] = max(now[agent], x[3*agent-3]+50)
				e.At = (now[agent] + offset) / api.Million
			}
			if has(lying, agent) {
				e.At = random.Intn(400)
			}
			l, x = append(l, e), append(x, now[agent])
		}
	}
	return l, x
}

func TestTruthOfClocks(t *testing.T) { // P10.2: what lying clocks show
	random := rand.New(rand.NewSource(4))
	found := 0
	for range 300 {
		agents := 2 + random.Intn(5)
		f := fleetOf(agents, 1+random.Intn(min(2, agents-1)))
		lying := someLiars(random, agents, f.Liars)
		events, x := trace(random, agents, lying)
		l, err := clock.Constraints(f, events)
		if honest := 1<<agents - 1 - lying; err != api.OK || !clock.Agrees(f, events, x, honest) {
			t.Fatalf("the times %v do not agree with %v: %d", x, events, err)
		}
		checkTruth(t, f, len(events), l, x, lying)
		if set, _ := belief.Liars(f, len(events), l); set != 0 {
			found++
		}
	}
	if found < 20 {
		t.Errorf("there are liars %d times", found)
	}
}

// checkEnds checks that both ends of a range are attained, as far as they are bounded, and nothing outside of it.
func checkEnds(t *testing.T, f api.Fleet, n int, l []api.Constraint, from, to int) {
	t.Helper()
	low, high, err := belief.Range(f, n, l, from, to)
	if err != api.OK {
		t.Fatalf("Range(%v, %d, %v, %d, %d): %d", f, n, l, from, to, err)
	}
	for _, v := range []int{max(low, -end), min(high, end)} {
		x, choice, err := belief.Witness(f, n, l, from, to, v)
		if err != api.OK || len(x) != n || x[from] != 0 || x[to] != v || !holds(part(l, choice), x) || !bounds.Holds(belief.Part(l, choice), x) {
			t.Fatalf("Witness(%v, %d, %v, %d, %d, %d) = %v, %b, %d", f, n, l, from, to, v, x, choice, err)
		}
		if !slices.Contains(choices(len(f.Drift), f.Liars), choice) {
			t.Fatalf("Witness(%v, %d, %v, %d, %d, %d) believes %b", f, n, l, from, to, v, choice)
		}
	}
	for _, v := range []int{low - 1, high + 1, low - 1000, high + 1000, -end - 1, end + 1} {
		if x, choice, err := belief.Witness(f, n, l, from, to, v); len(x) != 0 || choice != 0 || err != api.ErrBelief {
			t.Fatalf("Witness(%v, %d, %v, %d, %d, %d) = %v, %b, %d", f, n, l, from, to, v, x, choice, err)
		}
	}
}

func TestEndsAreAttained(t *testing.T) { // P10.3
	random := rand.New(rand.NewSource(5))
	bounded := 0
	for range 500 {
		f, n, _, _, l := story(random, 10)
		for range 5 {
			from, to := random.Intn(n), random.Intn(n)
			checkEnds(t, f, n, l, from, to)
			if low, high, _ := belief.Range(f, n, l, from, to); from != to && (low > -none || high < none) {
				bounded++
			}
		}
	}
	if bounded < 500 {
		t.Errorf("%d ranges are bounded", bounded)
	}
}

// admitted returns which differences are admitted by assignments of three variables with small values, for each pair of variables.
func admitted(f api.Fleet, l []api.Constraint) map[[3]int]bool {
	all := map[[3]int]bool{}
	for _, set := range choices(len(f.Drift), f.Liars) {
		believed := part(l, set)
		for a := -12; a <= 12; a++ {
			for b := -12; b <= 12; b++ {
				x := []int{0, a, b}
				if !holds(believed, x) {
					continue
				}
				for i := range 9 {
					all[[3]int{i / 3, i % 3, x[i%3] - x[i/3]}] = true
				}
			}
		}
	}
	return all
}

func TestRangesAreExact(t *testing.T) { // P10.3: all assignments of three variables are tried
	random := rand.New(rand.NewSource(6))
	counts := map[bool]int{}
	for range 400 {
		agents := 1 + random.Intn(4)
		f := fleetOf(agents, random.Intn(min(3, agents)))
		l := reports(random, agents, 3, random.Intn(9), 1<<agents-1, make([]int, 3), 1)
		all := admitted(f, l)
		if _, err := belief.Choices(f, 3, l); (err == api.OK) != (len(all) > 0) {
			t.Fatalf("Choices(%v, %v): %d; so many differences are admitted: %d", f, l, err, len(all))
		}
		for i := range 9 {
			from, to := i/3, i%3
			low, high, err := belief.Range(f, 3, l, from, to)
			for v := -6; v <= 6; v++ {
				want := all[[3]int{from, to, v}]
				x, choice, witnessErr := belief.Witness(f, 3, l, from, to, v)
				if (witnessErr == api.OK) != want || want && (v < low || v > high || err != api.OK || x[to]-x[from] != v || !holds(part(l, choice), x)) {
					t.Fatalf("Witness(%v, %v, %d, %d, %d) = %v, %b, %d", f, l, from, to, v, x, choice, witnessErr)
				}
				if end := v == low || v == high; end && err == api.OK && !want {
					t.Fatalf("Range(%v, %v, %d, %d) = %d, %d; %d is not admitted", f, l, from, to, low, high, v)
				}
				counts[want]++
			}
		}
	}
	if counts[true] < 2000 || counts[false] < 2000 {
		t.Errorf("so many are admitted: %v", counts)
	}
}

func TestNobodyLies(t *testing.T) { // P10.4
	random := rand.New(rand.NewSource(7))
	counts := map[bool]int{}
	for range 600 {
		f, n, l := quarrel(random, 8)
		f.Liars = 0
		b, _, closeErr := bounds.Close(n, l)
		counts[closeErr == api.OK]++
		if closeErr != api.OK {
			checkError(t, f, n, l, api.ErrBelief)
			continue
		}
		everyone := 1<<len(f.Drift) - 1
		if all, err := belief.Choices(f, n, l); !slices.Equal(all, []int{everyone}) || err != api.OK {
			t.Fatalf("Choices(%v, %d, %v) = %v, %d", f, n, l, all, err)
		}
		if set, err := belief.Liars(f, n, l); set != 0 || err != api.OK {
			t.Fatalf("Liars(%v, %d, %v) = %b, %d", f, n, l, set, err)
		}
		for from := range n {
			for to := range n {
				wantLow, wantHigh, _ := bounds.Range(b, from, to)
				if low, high, err := belief.Range(f, n, l, from, to); low != wantLow || high != wantHigh || err != api.OK {
					t.Fatalf("Range(%v, %d, %v, %d, %d) = %d, %d, %d; want %d, %d", f, n, l, from, to, low, high, err, wantLow, wantHigh)
				}
			}
		}
	}
	if counts[true] < 100 || counts[false] < 100 {
		t.Errorf("so many are not contradictory: %v", counts)
	}
}

// checkNarrower checks that the ranges of l for f contain those of m for g, and reports whether one of them is narrower.
func checkNarrower(t *testing.T, n int, f api.Fleet, l []api.Constraint, g api.Fleet, m []api.Constraint) bool {
	t.Helper()
	narrower := false
	for from := range n {
		for to := range n {
			low, high, err := belief.Range(f, n, l, from, to)
			x, y, narrowErr := belief.Range(g, n, m, from, to)
			if narrowErr == api.OK && (err != api.OK || x < low || y > high) {
				t.Fatalf("Range(%v, %d, %v, %d, %d) = %d, %d, %d; Range(%v, %v) = %d, %d", f, n, l, from, to, low, high, err, g, m, x, y)
			}
			narrower = narrower || narrowErr == api.OK && (x > low || y < high)
		}
	}
	return narrower
}

func TestFurtherConstraints(t *testing.T) { // P10.5
	random := rand.New(rand.NewSource(8))
	counts := map[string]int{}
	for range 700 {
		f, n, l := quarrel(random, 6)
		before, _ := belief.Choices(f, n, l)
		further := reports(random, len(f.Drift), n, 1, 1<<len(f.Drift)-1, make([]int, n), 2)
		more := slices.Insert(slices.Clone(l), random.Intn(len(l)+1), further...)
		after, _ := belief.Choices(f, n, more)
		if slices.ContainsFunc(after, func(set int) bool { return !slices.Contains(before, set) }) {
			t.Fatalf("%v: %v has the choices %v, and %v %v", f, l, before, more, after)
		}
		if checkNarrower(t, n, f, l, f, more) {
			counts["narrower"]++
		}
		if len(after) < len(before) {
			counts["fewer choices"]++
		}
	}
	if counts["narrower"] < 100 || counts["fewer choices"] < 100 {
		t.Errorf("so often: %v", counts)
	}
}

func TestFurtherLiars(t *testing.T) { // P10.5
	random := rand.New(rand.NewSource(9))
	narrower := 0
	for range 700 {
		f, n, l := quarrel(random, 6)
		for liars := range min(2, len(f.Drift)-1) {
			g := f
			f.Liars, g.Liars = liars+1, liars
			if checkNarrower(t, n, f, l, g, l) {
				narrower++
			}
		}
	}
	if narrower < 200 {
		t.Errorf("%d times a range is narrower", narrower)
	}
}

// checkLiars checks that all large sets of agents with one of Liars have contradictory constraints. It returns how many such sets there are.
func checkLiars(t *testing.T, f api.Fleet, n int, l []api.Constraint) int {
	t.Helper()
	set, _ := belief.Liars(f, n, l)
	sets := 0
	for group := range 1 << len(f.Drift) {
		if group&set == 0 || bits.OnesCount(uint(group)) < len(f.Drift)-f.Liars {
			continue
		}
		sets++
		if _, _, err := bounds.Close(n, part(l, group)); err != api.ErrBounds {
			t.Fatalf("Liars(%v, %d, %v) = %b; %b do not contradict each other", f, n, l, set, group)
		}
	}
	return sets
}

func TestLiars(t *testing.T) { // P10.6
	random := rand.New(rand.NewSource(10))
	sets := 0
	for range 1500 {
		f, n, l := quarrel(random, 6)
		sets += checkLiars(t, f, n, l)
	}
	if sets < 500 {
		t.Errorf("there are %d sets of agents with a liar", sets)
	}
}

// spare returns a copy of l with spare capacity that is full of other elements.
func spare[T any](l []T, other T) []T {
	full := append(slices.Clone(l), other, other, other)
	return full[:len(l)]
}

// scribble changes all elements of l, and those in its spare capacity.
func scribble[T any](l []T, other T) {
	for i := range l[:cap(l)] {
		l[:cap(l)][i] = other
	}
}

func TestNothingIsShared(t *testing.T) { // P10.1
	random := rand.New(rand.NewSource(11))
	other := constraint(-7, -7, -7, -7)
	for range 200 {
		g, n, _, _, m := story(random, 10)
		f := g
		f.Drift, f.Services, f.Teams = spare(g.Drift, 77), spare(g.Services, 77), spare(g.Teams, 77)
		l := spare(m, other)
		for range 2 { // the second time after all results were changed
			all, _, _ := checkChoices(t, f, n, l)
			scribble(all, 77)
			for _, mask := range []int{0, 1, 2, 63, -1} {
				chosen := belief.Part(l, mask)
				if !slices.Equal(chosen, part(m, mask)) {
					t.Fatalf("Part(%v, %b) = %v", m, mask, chosen)
				}
				scribble(chosen, other)
			}
			from, to := random.Intn(n), random.Intn(n)
			low, _, _ := checkRange(t, f, n, l, from, to)
			for range 2 {
				x, _, _ := checkWitness(t, f, n, l, from, to, max(low, -end))
				scribble(x, 77)
			}
		}
		if !slices.Equal(l, m) || !slices.Equal(f.Drift, g.Drift) || !slices.Equal(f.Services, g.Services) || !slices.Equal(f.Teams, g.Teams) {
			t.Fatalf("an argument is changed: %v, %v", f, l)
		}
		if l[:len(l)+1][len(l)] != other || f.Drift[:len(f.Drift)+1][len(f.Drift)] != 77 || f.Services[:2][1] != 77 || f.Teams[:2][1] != 77 {
			t.Fatal("spare capacity is written to")
		}
	}
}

// Example shows what three agents say about two times, of whom one may lie: agents 0 and 2 contradict each other.
func Example() {
	f := api.Fleet{Drift: []int{0, 0, 0}, Liars: 1, Services: []int{0}, Teams: []int{0}}
	l := []api.Constraint{{From: 0, To: 1, Most: 5, Agents: 1}, {From: 1, To: 0, Most: -4, Agents: 2}, {From: 1, To: 0, Most: -9, Agents: 4}}
	all, _ := belief.Choices(f, 2, l)
	low, high, _ := belief.Range(f, 2, l, 0, 1)
	fmt.Println(all, low, high == api.NoBound)
	x, choice, _ := belief.Witness(f, 2, l, 0, 1, 9)
	fmt.Println(x, choice, len(belief.Part(l, choice)))
	l = append(l, api.Constraint{From: 0, To: 1, Most: 6, Agents: 2})
	low, high, _ = belief.Range(f, 2, l, 0, 1)
	liars, _ := belief.Liars(f, 2, l)
	fmt.Println(low, high, liars)
	// Output:
	// [3 6] 4 true
	// [0 9] 6 2
	// 4 5 4
}
