package bounds_test

import (
	"fmt"
	"math"
	"math/rand"
	"slices"
	"testing"

	"latecomer/api"
	"latecomer/bounds"
)

// three are the constraints of the examples.
func three() []api.Constraint {
	return []api.Constraint{constraint(0, 1, 5), constraint(1, 2, 3), constraint(2, 0, -6)}
}

// closed returns the bounds of constraints that are not contradictory.
func closed(t *testing.T, n int, l []api.Constraint) api.Bounds {
	t.Helper()
	b, cycle, err := bounds.Close(n, l)
	if err != api.OK || len(cycle) != 0 || b.N != n {
		t.Fatalf("Close(%d, %v) = %v, %v, %d", n, l, b, cycle, err)
	}
	return b
}

// checkRange checks what Range returns.
func checkRange(t *testing.T, b api.Bounds, from, to, low, high int, want api.Errno) {
	t.Helper()
	if x, y, err := bounds.Range(b, from, to); x != low || y != high || err != want {
		t.Errorf("Range(%v, %d, %d) = %d, %d, %d; want %d, %d, %d", b, from, to, x, y, err, low, high, want)
	}
}

// checkPoint checks what Point returns.
func checkPoint(t *testing.T, b api.Bounds, from, to, v int) {
	t.Helper()
	want, wantErr := point(b, from, to, v)
	x, err := bounds.Point(b, from, to, v)
	if !slices.Equal(x, want) || err != wantErr {
		t.Fatalf("Point(%v, %d, %d, %d) = %v, %d; want %v, %d", b, from, to, v, x, err, want, wantErr)
	}
}

// checkAdd checks what Add returns, and returns its bounds.
func checkAdd(t *testing.T, b api.Bounds, c api.Constraint) (api.Bounds, bool) {
	t.Helper()
	want, wantOK, wantErr := add(b, c)
	result, ok, err := bounds.Add(b, c)
	if !same(result, want) || ok != wantOK || err != wantErr {
		t.Fatalf("Add(%v, %v) = %v, %t, %d; want %v, %t, %d", b, c, result, ok, err, want, wantOK, wantErr)
	}
	return result, ok
}

// checkClose checks what Close returns; it tries cycles of at most so many indices.
func checkClose(t *testing.T, n int, l []api.Constraint, longest int) bool {
	t.Helper()
	all, ok := sums(n, l)
	if ok {
		if b := closed(t, n, l); !same(b, boundsOf(n, all)) || !bounds.Valid(b) {
			t.Fatalf("Close(%d, %v) = %v; want %v", n, l, b, boundsOf(n, all))
		}
		return true
	}
	want := firstCycle(l, longest)
	if b, cycle, err := bounds.Close(n, l); !isZero(b) || !slices.Equal(cycle, want) || err != api.ErrBounds {
		t.Fatalf("Close(%d, %v) = %v, %v, %d; want %v and ErrBounds", n, l, b, cycle, err, want)
	}
	return false
}

func TestExamples(t *testing.T) { // P7.1
	b := closed(t, 3, three())
	checkRange(t, b, 0, 1, 3, 5, api.OK)
	checkRange(t, b, 0, 2, 6, 8, api.OK)
	checkRange(t, b, 1, 2, 1, 3, api.OK)
	if x, err := bounds.Point(b, 0, 2, 7); !slices.Equal(x, []int{0, 5, 7}) || err != api.OK {
		t.Errorf("Point with 7 = %v, %d", x, err)
	}
	b, cycle, err := bounds.Close(3, append(three(), constraint(1, 0, -6)))
	if !isZero(b) || !slices.Equal(cycle, []int{0, 3}) || err != api.ErrBounds {
		t.Errorf("Close of four = %v, %v, %d", b, cycle, err)
	}
	checkRange(t, closed(t, 3, three()[:2]), 0, 2, -1<<60, 8, api.OK)
}

func TestValidOfAllSmallBounds(t *testing.T) { // P7.1
	counts := map[bool]int{}
	for _, b := range append(allBounds(3, []int{-2, -1, 0, 1, 3, none}), allBounds(2, []int{-1 << 55, 1<<55 - 1, 1 << 55, 1<<55 + 1, 0, none})...) {
		if got := bounds.Valid(b); got != isValid(b) {
			t.Fatalf("Valid(%v) = %t", b, got)
		}
		counts[isValid(b)]++
	}
	if counts[true] < 1000 || counts[false] < 1000 {
		t.Errorf("so many are valid: %v", counts)
	}
}

func TestValidOfChangedBounds(t *testing.T) { // P7.1
	random := rand.New(rand.NewSource(1))
	changed := []int{none, none - 1, none + 1, -none, 0, 1, -1, 1 << 55, 1<<55 + 1, -1 << 55, -1<<55 - 1, math.MaxInt, math.MinInt, math.MaxInt - 1, math.MinInt + 1, 1 << 62, -1 << 62}
	counts := map[bool]int{}
	for try := range 3000 {
		n := 2 + try%23
		b := closed(t, n, consistent(random, n, random.Intn(4*n), 1<<random.Intn(50), 1<<random.Intn(40)))
		i, j := random.Intn(n), random.Intn(n)
		old := b.Most[i][j]
		for _, most := range append(changed, old, old-1, old+1, old-2, old+2) {
			b.Most[i][j] = most
			if got := bounds.Valid(b); got != isValid(b) {
				t.Fatalf("Valid(%v) = %t", b, got)
			}
			counts[isValid(b)]++
		}
	}
	if counts[true] < 1000 || counts[false] < 1000 {
		t.Errorf("so many are valid: %v", counts)
	}
}

// wrongBounds are not valid, for all sorts of reasons.
func wrongBounds() []api.Bounds {
	of := func(n int, rows ...[]int) api.Bounds { return api.Bounds{N: n, Most: rows} }
	large := api.Bounds{N: 25}
	for range 25 {
		large.Most = append(large.Most, make([]int, 25))
	}
	return []api.Bounds{
		{}, of(0), of(1), of(-1), of(math.MinInt), of(math.MaxInt), of(0, []int{0}), of(-1, []int{0}), of(2, []int{0}), of(1, []int{0}, []int{0}), of(1, []int{}), of(1, nil), of(1, []int{0, 0}),
		of(2, []int{0, 0}), of(2, []int{0, 0}, []int{0}), of(2, []int{0}, []int{0, 0}), of(2, []int{0, 0}, nil), of(2, []int{0, 0}, []int{0, 0, 0}), of(2, []int{0, 0}, []int{0, 0}, []int{0, 0}),
		of(1, []int{1}), of(1, []int{-1}), of(1, []int{none}), of(2, []int{0, 0}, []int{0, 1}), of(2, []int{none, 0}, []int{0, 0}), of(2, []int{0, 1}, []int{-2, 0}), of(2, []int{0, 1<<55 + 1}, []int{0, 0}),
		of(2, []int{0, none + 1}, []int{0, 0}), of(2, []int{0, none}, []int{-none, 0}), of(2, []int{0, none}, []int{math.MinInt, 0}), of(2, []int{0, none}, []int{-1<<55 - 1, 0}), of(2, []int{0, math.MaxInt}, []int{0, 0}),
		of(3, []int{0, 1, none}, []int{none, 0, 1}, []int{none, none, 0}), of(3, []int{0, 1, 3}, []int{none, 0, 1}, []int{none, none, 0}), large,
	}
}

func TestWrongBounds(t *testing.T) { // P7.1
	for i, b := range wrongBounds() {
		if isValid(b) || bounds.Valid(b) {
			t.Errorf("the wrong bounds %d are valid", i)
		}
		for from := -1; from <= 2; from++ {
			for to := -1; to <= 2; to++ {
				checkRange(t, b, from, to, 0, 0, api.ErrArg)
				checkPoint(t, b, from, to, 0)
				checkAdd(t, b, constraint(from, to, 0))
			}
		}
	}
	if b := (api.Bounds{N: 1, Most: [][]int{{0}}}); !bounds.Valid(b) {
		t.Error("the only bounds of one variable are not valid")
	}
}

func TestSame(t *testing.T) { // P7.1
	list := append(wrongBounds(), closed(t, 3, three()), closed(t, 3, three()[:2]), closed(t, 3, nil), closed(t, 24, nil), api.Bounds{N: 3, Most: [][]int{{0, 5, 8}, {-3, 0, 3, 0}, {-6, -1, 0}}})
	for i, a := range list {
		for j, b := range list {
			if got := bounds.Same(a, b); got != same(a, b) {
				t.Errorf("Same(%v, %v) = %t", a, b, got)
			}
			if i == j && !bounds.Same(a, copyOf(b)) {
				t.Errorf("a copy of %v is not the same", a)
			}
		}
	}
	for _, b := range list {
		for i, row := range b.Most {
			for j := range row {
				c := copyOf(b)
				c.Most[i][j]++
				if bounds.Same(b, c) || bounds.Same(c, b) {
					t.Fatalf("%v is the same as %v", b, c)
				}
			}
		}
	}
	empty := api.Bounds{N: 2, Most: [][]int{{}, nil}}
	if !bounds.Same(api.Bounds{}, api.Bounds{Most: [][]int{}}) || !bounds.Same(empty, api.Bounds{N: 2, Most: [][]int{nil, {}}}) || bounds.Same(empty, api.Bounds{N: 2}) {
		t.Error("no elements are not the same as none")
	}
}

func TestCloseOfFewVariables(t *testing.T) { // P7.1
	random := rand.New(rand.NewSource(2))
	counts := map[int]int{}
	for try := range 10000 {
		n := 2 + try%5
		l := circular(random, n, random.Intn(2*n))
		checkClose(t, n, l, n)
		_, cycle, _ := bounds.Close(n, l)
		counts[len(cycle)]++
	}
	for _, length := range []int{0, 2, 3, 4, 5, 6} {
		if counts[length] < 30 {
			t.Errorf("%d of these have a first cycle of %d", counts[length], length)
		}
	}
	if closed := closed(t, 1, nil); !slices.Equal(closed.Most[0], []int{0}) {
		t.Errorf("Close(1) = %v", closed)
	}
}

func TestCloseOfTwoVariables(t *testing.T) { // P7.1: all lists of up to 3 constraints
	lists := [][]api.Constraint{nil}
	for first := 0; len(lists[first]) < 3; first++ {
		for from := range 2 {
			for most := -2; most <= 2; most++ {
				lists = append(lists, append(slices.Clone(lists[first]), constraint(from, 1-from, most)))
			}
		}
	}
	for _, l := range lists {
		checkClose(t, 2, l, 2)
	}
}

func TestCloseOfManyVariables(t *testing.T) { // P7.1
	random := rand.New(rand.NewSource(3))
	for try := range 300 {
		n := 7 + try%18
		l := consistent(random, n, random.Intn(12*n), 1<<random.Intn(50), 1<<random.Intn(45))
		if !checkClose(t, n, l, 0) {
			t.Fatalf("%v are contradictory", l)
		}
		checkClose(t, n, constraints(random, n, random.Intn(6*n), -2, 20), 24)
	}
}

// ring returns constraints that lead from the variable 0 through n of them and back, with the sum 1 less than 0, in some order, and the only cycle with a negative sum. Behind them, the same ones stand again, and others that no such cycle has.
func ring(random *rand.Rand, n, size int) ([]api.Constraint, []int) {
	var x [24]int
	for i := range x {
		x[i] = random.Intn(size)
	}
	l := make([]api.Constraint, n)
	order := random.Perm(n)
	through := random.Perm(24)[:n]
	for k, i := range order {
		from, to := through[k], through[(k+1)%n]
		l[i] = constraint(from, to, x[to]-x[from])
	}
	l[random.Intn(n)].Most--
	smallest := slices.Index(order, 0)
	cycle := append(slices.Clone(order[smallest:]), order[:smallest]...)
	l = append(l, l...)
	for _, c := range constraints(random, 24, 500, 1, 9) { // 1 is as much as the ring lacks
		c.Most += x[c.To] - x[c.From]
		l = append(l, c)
	}
	return l, cycle
}

func TestCloseFindsLongCycles(t *testing.T) { // P7.1, P7.3
	random := rand.New(rand.NewSource(4))
	for n := 2; n <= 24; n++ {
		for range 30 {
			l, want := ring(random, n, 1<<random.Intn(49)+1)
			if b, cycle, err := bounds.Close(24, l); !isZero(b) || !slices.Equal(cycle, want) || err != api.ErrBounds {
				t.Fatalf("Close(24, %v) = %v, %v, %d; want %v and ErrBounds", l, b, cycle, err, want)
			}
			if !bounds.Cycle(l, want) {
				t.Fatalf("Cycle(%v, %v) = false", l, want)
			}
			l[want[len(want)-1]].Most++
			l[want[len(want)-1]+n].Most++
			closed(t, 24, l)
		}
	}
}

func TestCloseAtTheLimits(t *testing.T) { // P7.1
	const most = 1 << 50
	var up, down, all []api.Constraint
	for i := range 23 {
		up = append(up, constraint(i, i+1, most))
		down = append(down, constraint(i, i+1, -most))
	}
	for i := range 24 {
		for j := range 24 {
			if i != j {
				all = append(all, constraint(i, j, -most))
			}
		}
	}
	for _, l := range [][]api.Constraint{up, down} {
		b := closed(t, 24, l)
		if b.Most[0][23] != 23*l[0].Most || b.Most[5][12] != 7*l[0].Most || b.Most[1][0] != none || !bounds.Valid(b) {
			t.Errorf("Close of the chain of %v = %v", l[0], b)
		}
	}
	checkClose(t, 24, append(down, constraint(23, 0, most)), 24)
	checkClose(t, 24, append([]api.Constraint{constraint(23, 0, -most)}, down...), 24)
	checkClose(t, 24, all, 2)
	checkClose(t, 24, append(slices.Clone(up), all...), 2)
	full := slices.Repeat([]api.Constraint{constraint(4, 7, 3)}, 2000)
	full[1999] = constraint(7, 4, -3)
	checkClose(t, 24, full, 2)
	full[1998] = constraint(7, 4, -4)
	checkClose(t, 24, full, 2)
	full[1997] = api.Constraint{From: 1, To: 2, Most: -most, Agents: 63}
	checkClose(t, 24, full, 2)
}

// wrongConstraints are not valid for 24 variables.
func wrongConstraints() []api.Constraint {
	var list []api.Constraint
	for _, i := range []int{-1, 24, 25, -24, 1 << 32, math.MaxInt, math.MinInt} {
		list = append(list, constraint(i, 0, 0), constraint(0, i, 0), constraint(i, i, 0), constraint(i, 23, 1), constraint(23, i, -1))
	}
	for i := range 24 {
		list = append(list, constraint(i, i, 0), constraint(i, i, 5))
	}
	for _, most := range []int{1<<50 + 1, -1<<50 - 1, none, -none, math.MaxInt, math.MinInt, 1 << 62, -1 << 62} {
		list = append(list, constraint(0, 1, most), constraint(1, 0, most))
	}
	for _, agents := range []int{-1, 64, 65, 127, 1 << 32, math.MaxInt, math.MinInt} {
		list = append(list, api.Constraint{From: 0, To: 1, Agents: agents})
	}
	return list
}

// refuses checks that no function takes l for n variables.
func refuses(t *testing.T, n int, l []api.Constraint) {
	t.Helper()
	if b, cycle, err := bounds.Close(n, l); !isZero(b) || len(cycle) != 0 || err != api.ErrArg {
		t.Errorf("Close(%d, %v) = %v, %v, %d; want ErrArg", n, l, b, cycle, err)
	}
	if n < 0 || n > 1<<16 {
		return
	}
	if bounds.Holds(l, make([]int, n)) {
		t.Errorf("Holds(%v) is true for %d zeros", l, n)
	}
}

func TestWrongConstraints(t *testing.T) { // P7.1
	contradiction := []api.Constraint{constraint(0, 1, 0), constraint(1, 0, -1)}
	for _, n := range []int{0, -1, -24, 25, 26, 1 << 16, 1 << 32, math.MaxInt, math.MinInt} {
		refuses(t, n, nil)
		refuses(t, n, contradiction)
	}
	for _, c := range wrongConstraints() {
		for n := 1; n <= 24; n++ {
			refuses(t, n, []api.Constraint{c})
		}
		refuses(t, 24, append([]api.Constraint{c}, contradiction...))
		refuses(t, 24, append(slices.Clone(contradiction), c))
		if bounds.Cycle(append(slices.Clone(contradiction), c), []int{0, 1}) || bounds.Cycle(append([]api.Constraint{c}, contradiction...), []int{1, 2}) {
			t.Errorf("with %v, there is a cycle", c)
		}
		checkAdd(t, closed(t, 24, nil), c)
		checkAdd(t, closed(t, 1, nil), c)
	}
	for n := 1; n <= 23; n++ {
		refuses(t, n, []api.Constraint{constraint(n, 0, 0)})
		refuses(t, n, []api.Constraint{constraint(0, n, 0)})
		closed(t, n+1, []api.Constraint{constraint(0, n, 0)})
		closed(t, n+1, []api.Constraint{{From: n, To: 0, Most: -1 << 50, Agents: 63}})
		checkAdd(t, closed(t, n, nil), constraint(n, 0, 0))
		checkAdd(t, closed(t, n, nil), constraint(0, n, 0))
		checkAdd(t, closed(t, n+1, nil), constraint(0, n, 0))
	}
	many := slices.Repeat([]api.Constraint{constraint(0, 1, 5)}, 2001)
	many[0], many[1] = contradiction[0], contradiction[1]
	refuses(t, 24, many)
	refuses(t, 2, many)
}

func TestAddToAllSmallBounds(t *testing.T) { // P7.1
	counts := map[bool]int{}
	for _, b := range allBounds(3, []int{-1, 0, 1, 2, none}) {
		if !isValid(b) {
			continue
		}
		for from := -1; from <= 3; from++ {
			for to := -1; to <= 3; to++ {
				for most := -3; most <= 3; most++ {
					result, ok := checkAdd(t, b, constraint(from, to, most))
					if ok && !bounds.Valid(result) {
						t.Fatalf("Add(%v, %d, %d, %d) = %v is not valid", b, from, to, most, result)
					}
					counts[ok]++
				}
			}
		}
	}
	if counts[true] < 1000 || counts[false] < 1000 {
		t.Errorf("so many could be added: %v", counts)
	}
}

// extremes are valid bounds with elements at the limits of closed ones.
func extremes() []api.Bounds {
	var list []api.Bounds
	const end = 1 << 55
	for _, b := range allBounds(3, []int{-end, -end + 1, 0, end - 1, end, none}) {
		if isValid(b) {
			list = append(list, b)
		}
	}
	return list
}

func TestAddAtTheLimits(t *testing.T) { // P7.1
	counts := map[string]int{}
	for _, b := range extremes() {
		for from := range 3 {
			for to := range 3 {
				for _, most := range []int{-1 << 50, -1<<50 - 1, -1, 0, 1, 1<<50 - 1, 1 << 50, 1<<50 + 1, none} {
					c := api.Constraint{From: from, To: to, Most: most, Agents: 1 + from}
					_, ok := checkAdd(t, b, c)
					switch {
					case !isConstraint(3, c):
						counts["not valid"]++
					case ok:
						counts["added"]++
					case b.Most[to][from] != none && b.Most[to][from]+most < 0:
						counts["contradictory"]++
					default:
						counts["out of range"]++
					}
				}
			}
		}
	}
	for _, what := range []string{"not valid", "added", "contradictory", "out of range"} {
		if counts[what] < 100 {
			t.Errorf("%d were %s", counts[what], what)
		}
	}
}

func TestAddToManyVariables(t *testing.T) { // P7.1
	random := rand.New(rand.NewSource(5))
	for try := range 2000 {
		n := 2 + try%23
		size := 1 << random.Intn(49)
		b := closed(t, n, consistent(random, n, random.Intn(4*n), size, 1<<random.Intn(40)))
		for _, c := range constraints(random, n, 10, -size, size) {
			checkAdd(t, b, c)
		}
	}
}

func TestRange(t *testing.T) { // P7.1
	random := rand.New(rand.NewSource(6))
	list := append(extremes(), closed(t, 1, nil), closed(t, 24, nil))
	for try := range 100 {
		n := 2 + try%23
		list = append(list, closed(t, n, consistent(random, n, random.Intn(4*n), 1<<random.Intn(49), 1<<random.Intn(40))))
	}
	for _, b := range list {
		for from := -1; from <= b.N; from++ {
			for to := -1; to <= b.N; to++ {
				low, high, err := span(b, from, to)
				checkRange(t, b, from, to, low, high, err)
			}
			for _, to := range []int{math.MinInt, math.MaxInt, 24, 1 << 32} {
				checkRange(t, b, from, to, 0, 0, api.ErrArg)
				checkRange(t, b, to, from, 0, 0, api.ErrArg)
			}
		}
	}
}

func TestPointOfAllSmallBounds(t *testing.T) { // P7.1
	for i, b := range allBounds(3, []int{-1, 0, 2, none}) {
		if i%10 > 0 && !isValid(b) {
			continue
		}
		for from := -1; from <= 3; from++ {
			for to := -1; to <= 3; to++ {
				for v := -3; v <= 3; v++ {
					checkPoint(t, b, from, to, v)
				}
			}
		}
	}
}

func TestPointAtTheLimits(t *testing.T) { // P7.1
	const end = 1 << 55
	for _, b := range append(extremes(), closed(t, 1, nil), closed(t, 24, nil)) {
		for from := range b.N {
			for to := range b.N {
				low, high, _ := bounds.Range(b, from, to)
				for _, v := range []int{low - 1, low, low + 1, -end - 1, -end, -end + 1, -1, 0, 1, high - 1, high, high + 1, end - 1, end, end + 1, none, -none, math.MaxInt, math.MinInt} {
					checkPoint(t, b, from, to, v)
				}
			}
		}
	}
}

func TestPointOfManyVariables(t *testing.T) { // P7.1, P7.2
	random := rand.New(rand.NewSource(7))
	for try := range 300 {
		n := 2 + try%23
		size := 1 << random.Intn(49)
		l := consistent(random, n, random.Intn(3*n), size, 1<<random.Intn(40))
		b := closed(t, n, l)
		for range 6 {
			from, to := random.Intn(n), random.Intn(n)
			low, high, _ := bounds.Range(b, from, to)
			for _, v := range []int{low, high, random.Intn(2*size) - size, -1 << 55, 1 << 55} {
				checkPoint(t, b, from, to, v)
				x, err := bounds.Point(b, from, to, v)
				if within := v >= low && v <= high && v >= -1<<55 && v <= 1<<55; within != (err == api.OK) {
					t.Fatalf("Point(%v, %d, %d, %d): %d", b, from, to, v, err)
				}
				if err == api.OK && (x[from] != 0 || x[to] != v || !holds(l, x) || !bounds.Holds(l, x)) {
					t.Fatalf("Point(%v, %d, %d, %d) = %v does not hold for %v", b, from, to, v, x, l)
				}
			}
		}
	}
}

// assignments returns all assignments of n variables with values from -size to size, of which the first one is 0.
func assignments(n, size int) [][]int {
	all := [][]int{{0}}
	for range n - 1 {
		var more [][]int
		for _, x := range all {
			for v := -size; v <= size; v++ {
				more = append(more, append(slices.Clone(x), v))
			}
		}
		all = more
	}
	return all
}

// isWithin reports whether each difference of two elements of x is within the range of these variables.
func isWithin(t *testing.T, b api.Bounds, x []int) bool {
	t.Helper()
	for from := range x {
		for to := range x {
			low, high, err := bounds.Range(b, from, to)
			if err != api.OK {
				t.Fatalf("Range(%v, %d, %d): %d", b, from, to, err)
			}
			if d := x[to] - x[from]; d < low || d > high {
				return false
			}
		}
	}
	return true
}

func TestRangesAreExact(t *testing.T) { // P7.2, P7.3: all assignments of three variables are tried
	random := rand.New(rand.NewSource(8))
	const most, size = 3, 6 // sums of two constraints are at most 6, so if there is an assignment, one of these is
	all := assignments(3, size)
	contradictions := 0
	for range 800 {
		l := constraints(random, 3, random.Intn(8), -most, most)
		b, cycle, err := bounds.Close(3, l)
		held := 0
		for _, x := range all {
			if holds(l, x) != bounds.Holds(l, x) {
				t.Fatalf("Holds(%v, %v) = %t", l, x, bounds.Holds(l, x))
			}
			if holds(l, x) {
				held++
			}
			if err == api.OK && holds(l, x) != isWithin(t, b, x) {
				t.Fatalf("%v: holds for %v: %t, but not within the ranges of %v", x, l, holds(l, x), b)
			}
		}
		if (held > 0) != (err == api.OK) || (len(cycle) == 0) != (err == api.OK) {
			t.Fatalf("Close(3, %v) = %v, %v, %d; %d assignments hold", l, b, cycle, err, held)
		}
		if err != api.OK {
			contradictions++
		}
	}
	if contradictions < 100 || contradictions > 700 {
		t.Errorf("%d of these are contradictory", contradictions)
	}
}

func TestWholeRangesAreAttained(t *testing.T) { // P7.2: all values of ranges are tried
	random := rand.New(rand.NewSource(9))
	for try := range 120 {
		n := 2 + try%6
		l := consistent(random, n, random.Intn(3*n), 8, 5)
		b := closed(t, n, l)
		for from := range n {
			for to := range n {
				low, high, _ := bounds.Range(b, from, to)
				for v := -40; v <= 40; v++ {
					x, err := bounds.Point(b, from, to, v)
					if (err == api.OK) != (v >= low && v <= high) {
						t.Fatalf("Point(%v, %d, %d, %d): %d", b, from, to, v, err)
					}
					if err == api.OK && (x[to]-x[from] != v || !holds(l, x)) {
						t.Fatalf("Point(%v, %d, %d, %d) = %v does not hold for %v", b, from, to, v, x, l)
					}
				}
			}
		}
	}
}

// choose returns the elements of l with these indices.
func choose(l []api.Constraint, indices []int) []api.Constraint {
	var chosen []api.Constraint
	for _, i := range indices {
		chosen = append(chosen, l[i])
	}
	return chosen
}

// isContradictory reports whether Close finds a contradiction.
func isContradictory(t *testing.T, n int, l []api.Constraint) bool {
	t.Helper()
	_, cycle, err := bounds.Close(n, l)
	if err != api.OK && err != api.ErrBounds || (len(cycle) > 0) != (err == api.ErrBounds) {
		t.Fatalf("Close(%d, %v): %v, %d", n, l, cycle, err)
	}
	return err == api.ErrBounds
}

func TestContradictionsAreSmallest(t *testing.T) { // P7.3
	random := rand.New(rand.NewSource(10))
	counts := map[int]int{}
	for try := range 3000 {
		n := 2 + try%5
		l := circular(random, n, random.Intn(5))
		_, cycle, _ := bounds.Close(n, l)
		counts[len(cycle)]++
		if len(cycle) == 0 {
			continue
		}
		if !bounds.Cycle(l, cycle) || !isCycle(l, cycle) || !isContradictory(t, n, choose(l, cycle)) {
			t.Fatalf("%v: %v is no contradiction", l, cycle)
		}
		for k := range cycle {
			if isContradictory(t, n, choose(l, slices.Delete(slices.Clone(cycle), k, k+1))) {
				t.Fatalf("%v: %v is a contradiction without its element %d", l, cycle, k)
			}
		}
		for set := range 1 << len(l) {
			var part []api.Constraint
			for i, c := range l {
				if set>>i&1 == 1 {
					part = append(part, c)
				}
			}
			if len(part) < len(cycle) && isContradictory(t, n, part) {
				t.Fatalf("%v: %v are fewer than %v", l, part, cycle)
			}
		}
	}
	for _, length := range []int{0, 2, 3, 4, 5} {
		if counts[length] < 30 {
			t.Errorf("%d of these have a first cycle of %d", counts[length], length)
		}
	}
}

// addAll adds the constraints in this order, and returns false if there is a contradiction.
func addAll(t *testing.T, n int, l []api.Constraint) (api.Bounds, bool) {
	t.Helper()
	b := closed(t, n, nil)
	for _, c := range l {
		next, ok, err := bounds.Add(b, c)
		if err != api.OK || ok && !bounds.Valid(next) || !ok && !isZero(next) {
			t.Fatalf("Add(%v, %v) = %v, %t, %d", b, c, next, ok, err)
		}
		if !ok {
			return next, false
		}
		b = next
	}
	return b, true
}

func TestIncrements(t *testing.T) { // P7.4
	random := rand.New(rand.NewSource(11))
	counts := map[bool]int{}
	check := func(n int, l []api.Constraint) {
		t.Helper()
		want, _, err := bounds.Close(n, l)
		for range 4 {
			random.Shuffle(len(l), func(i, j int) { l[i], l[j] = l[j], l[i] })
			if b, ok := addAll(t, n, l); ok != (err == api.OK) || !bounds.Same(b, want) {
				t.Fatalf("%v, one after the other: %v, %t; want %v", l, b, ok, want)
			}
		}
		counts[err == api.OK]++
	}
	for try := range 1000 {
		n := 2 + try%6
		check(n, circular(random, n, random.Intn(2*n)))
		check(n, consistent(random, n, random.Intn(4*n), 20, 5))
	}
	for try := range 40 {
		n := 8 + try%17
		check(n, consistent(random, n, random.Intn(6*n), 1<<49, 1<<random.Intn(49)))
		l, _ := ring(random, n, 1<<30)
		check(24, l[:n+try])
	}
	var chain []api.Constraint
	for i := range 23 {
		chain = append(chain, constraint(i, i+1, -1<<50), constraint(i+1, i, 1<<50))
	}
	check(24, chain)
	check(24, append(chain, constraint(23, 0, 1<<50)))
	if counts[true] < 200 || counts[false] < 200 {
		t.Errorf("so many are not contradictory: %v", counts)
	}
}

func TestFurtherConstraints(t *testing.T) { // P7.5
	random := rand.New(rand.NewSource(12))
	for try := range 500 {
		n := 2 + try%23
		l := consistent(random, n, random.Intn(4*n), 1<<random.Intn(49), 1<<random.Intn(40))
		b := closed(t, n, l)
		for _, c := range constraints(random, n, 5, -1<<random.Intn(50), 1<<random.Intn(50)) {
			low, high, _ := bounds.Range(b, c.From, c.To)
			added, ok, err := bounds.Add(b, c)
			again, _, againErr := bounds.Close(n, append(slices.Clone(l), c))
			if err != api.OK || ok != (c.Most >= low) || ok != (againErr == api.OK) || !bounds.Same(added, again) {
				t.Fatalf("%v with %v: %v, %t, and %v, %d", l, c, added, ok, again, againErr)
			}
			if ok && c.Most >= high != bounds.Same(added, b) {
				t.Fatalf("Add(%v, %v) = %v, and the greatest difference is %d", b, c, added, high)
			}
			if ok {
				checkNarrower(t, b, added)
			}
		}
	}
}

// checkNarrower checks that no range of narrow is wider than that of wide.
func checkNarrower(t *testing.T, wide, narrow api.Bounds) {
	t.Helper()
	for from := range wide.N {
		for to := range wide.N {
			if narrow.Most[from][to] > wide.Most[from][to] {
				t.Fatalf("the range of %d and %d is wider in %v than in %v", from, to, narrow, wide)
			}
		}
	}
	low, high, _ := bounds.Range(wide, 0, wide.N-1)
	if x, y, err := bounds.Range(narrow, 0, wide.N-1); x < low || y > high || err != api.OK {
		t.Fatalf("a range of %v is from %d to %d, not from %d to %d", narrow, x, y, low, high)
	}
}

func TestRenumbering(t *testing.T) { // P7.6
	random := rand.New(rand.NewSource(13))
	counts := map[bool]int{}
	for try := range 500 {
		n := 2 + try%23
		l := constraints(random, n, random.Intn(3*n), -6, 20)
		number := random.Perm(n)
		var renumbered []api.Constraint
		for _, c := range l {
			renumbered = append(renumbered, api.Constraint{From: number[c.From], To: number[c.To], Most: c.Most, Agents: c.Agents})
		}
		a, cycle, err := bounds.Close(n, l)
		b, other, otherErr := bounds.Close(n, renumbered)
		if err != otherErr || !slices.Equal(cycle, other) {
			t.Fatalf("%v: %v, %d; %v: %v, %d", l, cycle, err, renumbered, other, otherErr)
		}
		counts[err == api.OK]++
		for i, list := range a.Most {
			for j, most := range list {
				if b.Most[number[i]][number[j]] != most {
					t.Fatalf("Close(%d, %v) = %v; Close(%d, %v) = %v", n, l, a, n, renumbered, b)
				}
			}
		}
	}
	if counts[true] < 50 || counts[false] < 50 {
		t.Errorf("so many are not contradictory: %v", counts)
	}
}

func TestShiftedAssignments(t *testing.T) { // P7.6
	random := rand.New(rand.NewSource(14))
	counts := map[bool]int{}
	for try := range 3000 {
		n := 1 + try%24
		x := make([]int, n)
		for i := range x {
			x[i] = random.Intn(20)
		}
		var l []api.Constraint
		if n > 1 {
			l = constraints(random, n, random.Intn(8), 0, 20)
		}
		for _, more := range []int{0, 1, -1, 7, 1 << 50, -1 << 59, 1<<60 - 20, -1 << 60} {
			shifted := slices.Clone(x)
			for i := range shifted {
				shifted[i] += more
			}
			if bounds.Holds(l, shifted) != holds(l, x) {
				t.Fatalf("Holds(%v, %v) = %t", l, shifted, !holds(l, x))
			}
		}
		counts[holds(l, x)]++
	}
	if counts[true] < 500 || counts[false] < 500 {
		t.Errorf("so many hold: %v", counts)
	}
}

func TestHolds(t *testing.T) { // P7.1
	const end = 1 << 60
	for _, c := range []struct {
		l    []api.Constraint
		x    []int
		want bool
	}{
		{nil, nil, false}, {nil, []int{}, false}, {nil, []int{0}, true}, {nil, make([]int, 24), true}, {nil, make([]int, 25), false}, {nil, make([]int, 1<<16), false},
		{nil, []int{end, -end}, true}, {nil, []int{end + 1, 0}, false}, {nil, []int{0, end + 1}, false}, {nil, []int{-end - 1}, false}, {nil, []int{0, math.MinInt}, false}, {nil, []int{math.MaxInt, 0, 0}, false},
		{three(), []int{0, 5, 7}, true}, {three(), []int{0, 5, 8}, true}, {three(), []int{0, 5, 9}, false}, {three(), []int{0, 5, 6}, true}, {three(), []int{0, 3, 5}, false}, {three(), []int{0, 6, 7}, false}, {three(), []int{0, 5}, false}, {three(), []int{0, 5, 7, -end}, true},
		{[]api.Constraint{constraint(0, 1, 1<<50)}, []int{-end, end}, false}, {[]api.Constraint{constraint(1, 0, -1<<50)}, []int{-end, end}, true}, {[]api.Constraint{constraint(1, 0, -1<<50)}, []int{end, -end}, false},
		{[]api.Constraint{constraint(0, 1, 1<<50)}, []int{-1 << 50, 0}, true}, {[]api.Constraint{constraint(0, 1, 1<<50)}, []int{-1 << 50, 1}, false}, {[]api.Constraint{constraint(0, 1, -1<<50)}, []int{0, -1 << 50}, true}, {[]api.Constraint{constraint(0, 1, -1<<50)}, []int{0, 1 - 1<<50}, false},
	} {
		if got := bounds.Holds(c.l, c.x); got != c.want {
			t.Errorf("Holds(%v, %.30v) = %t", c.l, c.x, got)
		}
	}
	full := slices.Repeat([]api.Constraint{constraint(0, 1, 5)}, 2000)
	if !bounds.Holds(full, []int{0, 5}) || bounds.Holds(full, []int{0, 6}) || bounds.Holds(append(full, full[0]), []int{0, 5}) {
		t.Error("Holds is wrong for 2000 constraints, or for one more")
	}
}

func TestCycleOfAllShortLists(t *testing.T) { // P7.1
	random := rand.New(rand.NewSource(15))
	lists := [][]int{nil}
	for first := 0; len(lists[first]) < 4; first++ {
		for i := -1; i <= 5; i++ {
			lists = append(lists, append(slices.Clone(lists[first]), i))
		}
	}
	accepted := 0
	for range 150 {
		l := circular(random, 2+random.Intn(3), random.Intn(3))
		for _, c := range lists {
			if got := bounds.Cycle(l, c); got != isCycle(l, c) {
				t.Fatalf("Cycle(%v, %v) = %t", l, c, got)
			} else if got {
				accepted++
			}
		}
	}
	if accepted < 150 {
		t.Errorf("%d lists are cycles", accepted)
	}
}

func TestCycleOfLongLists(t *testing.T) { // P7.1
	random := rand.New(rand.NewSource(16))
	for n := 2; n <= 24; n++ {
		l, cycle := ring(random, n, 1000)
		for range n { // wherever it begins
			cycle = append(cycle[1:], cycle[0])
			if !bounds.Cycle(l, cycle) {
				t.Fatalf("Cycle(%v, %v) = false", l, cycle)
			}
			if bounds.Cycle(l, cycle[1:]) || bounds.Cycle(l, append(slices.Clone(cycle), cycle[0])) || bounds.Cycle(l, append(slices.Clone(cycle), cycle...)) {
				t.Fatalf("Cycle(%v, %v) is true with other lengths, too", l, cycle)
			}
			for _, i := range []int{-1, len(l), len(l) + 1, 1 << 32, math.MaxInt, math.MinInt, cycle[n-1]} {
				if wrong := append([]int{i}, cycle[1:]...); n > 2 && bounds.Cycle(l, wrong) {
					t.Fatalf("Cycle(%v, %v) = true", l, wrong)
				}
			}
		}
		for i := range l {
			l[i].Most++ // so the sum is at least 1
		}
		if bounds.Cycle(l, cycle) {
			t.Fatalf("Cycle(%v, %v) = true", l, cycle)
		}
	}
	zero := []api.Constraint{constraint(0, 1, 1<<50), constraint(1, 0, -1<<50)}
	if bounds.Cycle(zero, []int{0, 1}) || bounds.Cycle(zero, slices.Repeat([]int{0, 1}, 1<<16)) || bounds.Cycle(nil, nil) || bounds.Cycle(zero, nil) || bounds.Cycle(nil, []int{0}) {
		t.Error("there is a cycle whose sum is 0, or which is none")
	}
	eight := []api.Constraint{constraint(0, 1, -1), constraint(1, 0, -1), constraint(0, 2, -1), constraint(2, 0, -1)}
	if bounds.Cycle(eight, []int{0, 1, 2, 3}) || bounds.Cycle(eight, []int{1, 2, 3, 0}) || !bounds.Cycle(eight, []int{2, 3}) {
		t.Error("there is a cycle that goes through a variable twice")
	}
	full := append(slices.Repeat([]api.Constraint{constraint(0, 1, 5)}, 1999), constraint(1, 0, -6))
	if !bounds.Cycle(full, []int{1999, 1998}) || bounds.Cycle(append(full, full[0]), []int{1999, 1998}) {
		t.Error("Cycle is wrong for 2000 constraints, or for one more")
	}
}

// scribble changes all elements of l, and those in its spare capacity.
func scribble(l []int) {
	for i := range l[:cap(l)] {
		l[:cap(l)][i] = -77
	}
}

func TestResultsShareNothing(t *testing.T) { // P7.1
	random := rand.New(rand.NewSource(17))
	for n := 2; n <= 24; n++ {
		l := consistent(random, n, 3*n, 50, 9)
		b := closed(t, n, l)
		c := constraint(0, 1, min(b.Most[0][1], 1<<50))
		before := copyOf(b)
		after, _ := checkAdd(t, b, c)
		after = copyOf(after)
		for i := range n {
			again := closed(t, n, l)
			scribble(again.Most[i])
			again.Most[i] = before.Most[i]
			added, _, _ := bounds.Add(b, c)
			scribble(added.Most[i])
			added.Most[i] = after.Most[i]
			if !same(again, before) || !same(added, after) || !same(b, before) {
				t.Fatalf("the row %d shares memory with others", i)
			}
		}
		for range 2 {
			x, err := bounds.Point(b, 0, 1, min(b.Most[0][1], 1<<55))
			if want, _ := point(before, 0, 1, min(before.Most[0][1], 1<<55)); !slices.Equal(x, want) || err != api.OK || !same(b, before) {
				t.Fatalf("Point(%v) = %v, %d", b, x, err)
			}
			scribble(x)
		}
	}
}

func TestArgumentsAreUnchanged(t *testing.T) { // P7.1
	random := rand.New(rand.NewSource(18))
	for try := range 300 {
		n := 2 + try%23
		l := circular(random, n, random.Intn(3*n))
		given := slices.Clone(l)
		b, cycle, _ := bounds.Close(n, l)
		bounds.Cycle(l, cycle)
		if isZero(b) {
			b = closed(t, n, l[:1])
		}
		want := copyOf(b)
		bounds.Add(b, l[0])
		bounds.Range(b, 0, 1)
		bounds.Point(b, 0, 1, 0)
		bounds.Valid(b)
		bounds.Same(b, want)
		x := make([]int, n)
		bounds.Holds(l, x)
		if !slices.Equal(l, given) || !same(b, want) || !slices.Equal(x, make([]int, n)) {
			t.Fatalf("%v is %v, %v is %v", given, l, want, b)
		}
	}
}

// Example shows how far the times of three events can be apart, and which constraints contradict each other.
func Example() {
	l := []api.Constraint{{From: 0, To: 1, Most: 5}, {From: 1, To: 2, Most: 3}, {From: 2, To: 0, Most: -6}}
	b, _, _ := bounds.Close(3, l)
	low, high, _ := bounds.Range(b, 0, 2)
	x, _ := bounds.Point(b, 0, 2, 7)
	fmt.Println(low, high, x, bounds.Holds(l, x))
	c := api.Constraint{From: 1, To: 0, Most: -6}
	_, ok, _ := bounds.Add(b, c)
	_, cycle, err := bounds.Close(3, append(l, c))
	fmt.Println(ok, cycle, err == api.ErrBounds)
	// Output:
	// 6 8 [0 5 7] true
	// false [0 3] true
}
