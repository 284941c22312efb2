package seed_test

import (
	"crypto/sha256"
	"encoding/binary"
	"fmt"
	"math"
	"math/rand"
	"slices"
	"strings"
	"testing"

	"latecomer/api"
	"latecomer/seed"
)

// most is a bound for which almost half of all raw numbers are not reduced, which is the greatest part that is possible.
const most = 1<<61 + 1

// leb encodes n, which is not negative, as chapter 1 defines it.
func leb(n int) string {
	return string(binary.AppendUvarint(nil, uint64(n)<<1))
}

// rawNumber returns the raw number as the chapter defines it.
func rawNumber(name string, i, j int) int {
	sum := sha256.Sum256([]byte(leb(len(name)) + name + leb(i) + leb(j)))
	n := 0
	for bit := range 62 {
		n = 2*n + int(sum[bit/8]>>(7-bit%8)&1)
	}
	return n
}

// limit returns the greatest multiple of below that is at most 2^62.
func limit(below int) int { return (1 << 62) / below * below }

// drawn returns the number that is drawn, and with which try.
func drawn(name string, i, below int) (int, int) {
	for j := range 64 {
		if raw := rawNumber(name, i, j); raw < limit(below) {
			return raw % below, j
		}
	}
	panic("no try is reduced")
}

// shuffled returns the order of n numbers, as the chapter defines it.
func shuffled(name string, n int) []int {
	var l []int
	for i := range n {
		l = append(l, i)
	}
	for k := n - 1; k >= 1; k-- {
		d, _ := drawn(name, k, k+1)
		element := l[k]
		l[k] = l[d]
		l[d] = element
	}
	return l
}

// chosen returns the index that is chosen, and whether there is one: it counts one number after the other, so that weights have to be small.
func chosen(weights []int, d int) (int, bool) {
	var indices []int // which index each number below the sum chooses
	for i, weight := range weights {
		for range weight {
			indices = append(indices, i)
		}
	}
	if d < 0 || d >= len(indices) {
		return 0, false
	}
	return indices[d], true
}

// names are valid names, of all lengths, and of bytes that are no text.
func names() []string {
	list := []string{"x", "X", "y", "\x00", "\xff", "0", " ", "größer", "\x80\x01", "x\x00", "x\x02", "x\x02\x00", strings.Repeat("\xff", 40), strings.Repeat("ö", 20)}
	for n := 1; n <= 40; n++ {
		list = append(list, strings.Repeat("a", n))
	}
	return list
}

// wrongNames are strings that are no names.
func wrongNames() []string {
	return []string{"", strings.Repeat("a", 41), strings.Repeat("ö", 21), strings.Repeat("a", 64), strings.Repeat("\x00", 65536), strings.Repeat("a", 1<<20)}
}

// indices are valid ones: those on both sides of each change of the length of their encoding, and the ends.
func indices() []int {
	list := []int{0, 1, 2, 3, 150, 1000, math.MaxInt32, api.MaxInt - 1, api.MaxInt}
	for bits := range 62 {
		list = append(list, 1<<bits-1, 1<<bits)
	}
	return list
}

var wrongIndices = []int{-1, -2, -64, math.MinInt32, -api.MaxInt, math.MinInt, api.MaxInt + 1, api.MaxInt + 2, math.MaxInt}

// bounds are valid ones: small ones, those near powers of two and near parts of 2^62, and some at random.
func bounds() []int {
	var list []int
	for n := 1; n <= 300; n++ {
		list = append(list, n, (1<<62)/(n+1), (1<<62)/(n+1)+1)
	}
	for bits := 8; bits < 62; bits++ {
		list = append(list, 1<<bits-1, 1<<bits, 1<<bits+1)
	}
	random := rand.New(rand.NewSource(1))
	for range 500 {
		list = append(list, 1+int(random.Uint64()>>(2+random.Intn(60))))
	}
	return append(list, 1000003, most-2, most-1, most, most+1, api.MaxInt-1, api.MaxInt)
}

var wrongBounds = []int{0, -1, -2, -1000, -api.MaxInt, math.MinInt, math.MinInt + 1, api.MaxInt + 1, api.MaxInt + 2, math.MaxInt}

func TestExamples(t *testing.T) { // P6.1
	if n, ok := seed.Reduce(17, 5); n != 2 || !ok {
		t.Errorf("Reduce(17, 5) = %d, %t", n, ok)
	}
	if n, ok := seed.Reduce(4611686018427387903, 3); n != 0 || ok {
		t.Errorf("Reduce(4611686018427387903, 3) = %d, %t", n, ok)
	}
	if n, err := seed.Draw("x", 0, 1); n != 0 || err != api.OK {
		t.Errorf("Draw(x, 0, 1) = %d, %d", n, err)
	}
	if n, err := seed.Draw("x", 0, 0); n != 0 || err != api.ErrSeed {
		t.Errorf("Draw(x, 0, 0) = %d, %d", n, err)
	}
	if l, err := seed.Shuffle("x", 1); !slices.Equal(l, []int{0}) || err != api.OK {
		t.Errorf("Shuffle(x, 1) = %v, %d", l, err)
	}
	if l, err := seed.Sample("x", 3, 4); len(l) != 0 || err != api.ErrSeed {
		t.Errorf("Sample(x, 3, 4) = %v, %d", l, err)
	}
	for _, c := range []struct {
		d, want int
		err     api.Errno
	}{{1, 0, api.OK}, {2, 2, api.OK}, {5, 0, api.ErrSeed}} {
		if i, err := seed.Choose([]int{2, 0, 3}, c.d); i != c.want || err != c.err {
			t.Errorf("Choose(2 0 3, %d) = %d, %d", c.d, i, err)
		}
	}
}

func TestRaw(t *testing.T) { // P6.1
	for _, name := range names() {
		for _, i := range indices() {
			for _, j := range []int{0, 1, 2, 62, 63} {
				want := rawNumber(name, i, j)
				if n, err := seed.Raw(name, i, j); n != want || err != api.OK || n < 0 || n > 4611686018427387903 {
					t.Fatalf("Raw(%q, %d, %d) = %d, %d; want %d", name, i, j, n, err, want)
				}
			}
		}
	}
	for j := range 64 {
		if n, err := seed.Raw("x", 7, j); n != rawNumber("x", 7, j) || err != api.OK {
			t.Fatalf("Raw(x, 7, %d) = %d, %d", j, n, err)
		}
	}
}

// refusesRaw checks that Raw refuses these arguments.
func refusesRaw(t *testing.T, name string, i, j int) {
	t.Helper()
	if n, err := seed.Raw(name, i, j); n != 0 || err != api.ErrSeed {
		t.Errorf("Raw(%.50q, %d, %d) = %d, %d; want ErrSeed", name, i, j, n, err)
	}
}

func TestRawRefuses(t *testing.T) { // P6.1
	for _, name := range wrongNames() {
		refusesRaw(t, name, 0, 0)
		refusesRaw(t, name, 5, 63)
		refusesRaw(t, name, -1, 64)
	}
	for _, i := range wrongIndices {
		refusesRaw(t, "x", i, 0)
		refusesRaw(t, "x", i, 63)
		refusesRaw(t, "x", i, -1)
	}
	for _, j := range []int{-1, -2, 64, 65, 1 << 32, math.MinInt, math.MaxInt} {
		refusesRaw(t, "x", 0, j)
		refusesRaw(t, "x", api.MaxInt, j)
	}
}

func TestReduce(t *testing.T) { // P6.1, P6.2
	for _, below := range bounds() {
		l := limit(below)
		for _, raw := range []int{0, 1, 2, below - 1, below, below + 1, l - below - 1, l - below, l - 2, l - 1, l, l + 1, 1 << 61, 1<<62 - 1, 1 << 62, 1<<62 + 1, math.MaxInt, -1, -below, 1 - l, -l, math.MinInt} {
			want, reduced := 0, raw >= 0 && raw < l
			if reduced {
				want = raw - raw/below*below
			}
			if n, ok := seed.Reduce(raw, below); n != want || ok != reduced {
				t.Fatalf("Reduce(%d, %d) = %d, %t; want %d, %t", raw, below, n, ok, want, reduced)
			}
		}
	}
}

func TestReduceRefuses(t *testing.T) { // P6.1
	for _, below := range wrongBounds {
		for _, raw := range []int{0, 1, -1, 17, below, below - 1, 1<<62 - 1, 1 << 62, math.MaxInt, math.MinInt} {
			if n, ok := seed.Reduce(raw, below); n != 0 || ok {
				t.Errorf("Reduce(%d, %d) = %d, %t", raw, below, n, ok)
			}
		}
	}
}

// firstRefused returns the smallest raw number that is not reduced, by halving; it is 2^62 if all are.
func firstRefused(below int) int {
	low, high := 0, 1<<62
	for low < high {
		middle := low + (high-low)/2
		if _, ok := seed.Reduce(middle, below); ok {
			low = middle + 1
		} else {
			high = middle
		}
	}
	return low
}

func TestFairness(t *testing.T) { // P6.2
	random := rand.New(rand.NewSource(2))
	for _, below := range bounds() {
		end := firstRefused(below)
		if end%below != 0 || end <= 1<<61 || end > 1<<62 {
			t.Fatalf("for %d, the raw numbers below %d are reduced", below, end)
		}
		for range 50 { // so each block of as many raw numbers as the bound says has each result once
			start := random.Intn(end/below) * below
			rest := random.Intn(below)
			if n, ok := seed.Reduce(start+rest, below); n != rest || !ok {
				t.Fatalf("Reduce(%d, %d) = %d, %t; want %d", start+rest, below, n, ok, rest)
			}
			behind := end + random.Intn(1<<62-end+1)
			if n, ok := seed.Reduce(behind, below); n != 0 || ok {
				t.Fatalf("Reduce(%d, %d) = %d, %t, but %d is not reduced", behind, below, n, ok, end)
			}
		}
	}
}

func TestFairnessOfSmallBounds(t *testing.T) { // P6.2: blocks are counted one raw number after the other
	for below := 1; below <= 200; below++ {
		for _, start := range []int{0, below, 5 * below, limit(below) - below} {
			counts := make([]int, below)
			for raw := start; raw < start+below; raw++ {
				if n, ok := seed.Reduce(raw, below); ok {
					counts[n]++
				}
			}
			if slices.Min(counts) != 1 || slices.Max(counts) != 1 {
				t.Fatalf("below %d, from %d on: %v", below, start, counts)
			}
		}
	}
}

// checkDraw checks what is drawn, twice, and returns the try.
func checkDraw(t *testing.T, name string, i, below int) int {
	t.Helper()
	want, try := drawn(name, i, below)
	for range 2 {
		if n, err := seed.Draw(name, i, below); n != want || err != api.OK || n < 0 || n >= below {
			t.Fatalf("Draw(%q, %d, %d) = %d, %d; want %d, of try %d", name, i, below, n, err, want, try)
		}
	}
	return try
}

func TestDraw(t *testing.T) { // P6.1, P6.3
	for _, name := range names() {
		for _, i := range indices() {
			for _, below := range []int{1, 2, 6, 1000, most} {
				checkDraw(t, name, i, below)
			}
		}
	}
	for i, below := range bounds() {
		checkDraw(t, "seed", i, below)
	}
}

func TestDrawTriesAgain(t *testing.T) { // P6.1, P6.3
	var counts [64]int
	for i := range 20000 {
		counts[checkDraw(t, "x", i, most)]++
	}
	for try := range 10 {
		if counts[try] == 0 {
			t.Errorf("no number was drawn with try %d", try)
		}
	}
	// A search found these indices, for which far more tries are refused than for others.
	for i, try := range map[int]int{4773442: 23, 11323000: 26, 338350084: 30, 3931497690: 31} {
		if got := checkDraw(t, "x", i, most); got != try {
			t.Errorf("Draw(x, %d) takes try %d, not %d", i, got, try)
		}
	}
}

func TestDrawIsFair(t *testing.T) { // P6.2, P6.3: by chance, counts are far nearer to what is expected
	for _, below := range []int{2, 3, 6, 10} {
		counts := make([]int, below)
		for i := range 1000 * below {
			n, _ := seed.Draw("dice", i, below)
			counts[n]++
		}
		if slices.Min(counts) < 850 || slices.Max(counts) > 1150 {
			t.Errorf("%d numbers below %d are drawn so often: %v", 1000*below, below, counts)
		}
	}
}

func TestDrawRefuses(t *testing.T) { // P6.1
	refused := func(name string, i, below int) {
		t.Helper()
		if n, err := seed.Draw(name, i, below); n != 0 || err != api.ErrSeed {
			t.Errorf("Draw(%.50q, %d, %d) = %d, %d; want ErrSeed", name, i, below, n, err)
		}
	}
	for _, name := range wrongNames() {
		refused(name, 0, 1)
		refused(name, 3, 1000)
		refused(name, -1, 0)
	}
	for _, i := range wrongIndices {
		refused("x", i, 1)
		refused("x", i, 6)
		refused("x", i, -1)
	}
	for _, below := range wrongBounds {
		refused("x", 0, below)
		refused("x", api.MaxInt, below)
	}
}

func TestShuffle(t *testing.T) { // P6.1
	for n := range 1001 {
		if l, err := seed.Shuffle("x", n); !slices.Equal(l, shuffled("x", n)) || err != api.OK {
			t.Fatalf("Shuffle(x, %d) = %v, %d", n, l, err)
		}
	}
	for _, name := range names() {
		for _, n := range []int{0, 1, 2, 3, 17} {
			if l, err := seed.Shuffle(name, n); !slices.Equal(l, shuffled(name, n)) || err != api.OK {
				t.Fatalf("Shuffle(%q, %d) = %v, %d", name, n, l, err)
			}
		}
	}
}

// drawsOf returns what was drawn for each index, as the permutation tells it: at each step it is where the element was that the step has put to the index.
func drawsOf(permutation []int) []int {
	n := len(permutation)
	draws := make([]int, n)
	l := make([]int, n)
	for i := range l {
		l[i] = i
	}
	for k := n - 1; k >= 1; k-- {
		d := slices.Index(l, permutation[k])
		draws[k] = d
		l[k], l[d] = l[d], l[k]
	}
	return draws
}

func TestShuffleTellsItsDraws(t *testing.T) { // P6.4
	for i, name := range names() {
		for _, n := range []int{2, 3, 10, 20 * i} {
			l, err := seed.Shuffle(name, n)
			sorted := slices.Sorted(slices.Values(l))
			for i, element := range sorted {
				if element != i || len(sorted) != n || err != api.OK {
					t.Fatalf("Shuffle(%q, %d) = %v, %d is no permutation", name, n, l, err)
				}
			}
			for k, d := range drawsOf(l) {
				if want, _ := seed.Draw(name, k, k+1); d != want {
					t.Fatalf("Shuffle(%q, %d) has drawn %d for %d, and not %d", name, n, d, k, want)
				}
			}
		}
	}
}

func TestShuffleReachesAllPermutations(t *testing.T) { // P6.4
	const n, count = 5, 120
	permutations := map[string]string{} // by what was drawn
	draws := map[string]string{}        // by the permutation
	for i := range 2000 {
		name := fmt.Sprint("all ", i)
		l, _ := seed.Shuffle(name, n)
		var d []int
		for k := range n - 1 {
			number, _ := seed.Draw(name, k+1, k+2)
			d = append(d, number)
		}
		permutation, all := fmt.Sprint(l), fmt.Sprint(d)
		if other, known := permutations[all]; known && other != permutation {
			t.Fatalf("the draws %s make both %s and %s", all, permutation, other)
		}
		if other, known := draws[permutation]; known && other != all {
			t.Fatalf("both %s and %s make %s", all, other, permutation)
		}
		permutations[all], draws[permutation] = permutation, all
	}
	if len(permutations) != count || len(draws) != count {
		t.Errorf("%d different draws make %d permutations", len(permutations), len(draws))
	}
}

func TestSample(t *testing.T) { // P6.1, P6.4
	for _, n := range []int{0, 1, 2, 3, 12, 40} {
		for _, name := range names() {
			whole := shuffled(name, n)
			for k := range n + 1 {
				if l, err := seed.Sample(name, n, k); !slices.Equal(l, whole[:k]) || err != api.OK {
					t.Fatalf("Sample(%q, %d, %d) = %v, %d; want %v", name, n, k, l, err, whole[:k])
				}
			}
		}
	}
	whole := shuffled("x", 1000)
	for _, k := range []int{0, 1, 500, 999, 1000} {
		if l, err := seed.Sample("x", 1000, k); !slices.Equal(l, whole[:k]) || err != api.OK {
			t.Fatalf("Sample(x, 1000, %d) = %v, %d", k, l, err)
		}
	}
}

func TestSampleGrows(t *testing.T) { // P6.4
	for _, name := range []string{"x", "day 7", "\xff"} {
		var before []int
		for k := range 101 {
			l, err := seed.Sample(name, 100, k)
			if err != api.OK || len(l) != k || !slices.Equal(l[:len(before)], before) {
				t.Fatalf("Sample(%q, 100, %d) = %v, %d; a shorter one is %v", name, k, l, err, before)
			}
			if k > 0 && (slices.Contains(before, l[k-1]) || l[k-1] < 0 || l[k-1] >= 100) {
				t.Fatalf("Sample(%q, 100, %d) = %v has no new number", name, k, l)
			}
			before = l
		}
	}
}

func TestShuffleAndSampleRefuse(t *testing.T) { // P6.1
	refused := func(name string, n, k int) {
		t.Helper()
		if l, err := seed.Sample(name, n, k); len(l) != 0 || err != api.ErrSeed {
			t.Errorf("Sample(%.50q, %d, %d) = %v, %d; want ErrSeed", name, n, k, l, err)
		}
	}
	for _, name := range wrongNames() {
		for _, n := range []int{0, 1, 2, 1000} { // also where nothing is drawn
			refused(name, n, 0)
			refused(name, n, n)
			if l, err := seed.Shuffle(name, n); len(l) != 0 || err != api.ErrSeed {
				t.Errorf("Shuffle(%.50q, %d) = %v, %d; want ErrSeed", name, n, l, err)
			}
		}
	}
	for _, n := range []int{-1, -2, -1000, 1001, 1002, 1 << 40, math.MaxInt, math.MinInt} {
		refused("x", n, 0)
		refused("x", n, 1)
		refused("x", n, n)
		if l, err := seed.Shuffle("x", n); len(l) != 0 || err != api.ErrSeed {
			t.Errorf("Shuffle(x, %d) = %v, %d; want ErrSeed", n, l, err)
		}
	}
	for _, n := range []int{0, 1, 2, 3, 999, 1000} {
		for _, k := range []int{-1, -2, -n - 1, n + 1, n + 2, 1001, math.MaxInt, math.MinInt} {
			refused("x", n, k)
		}
	}
}

// scribble changes all elements of l, and those in its spare capacity.
func scribble(l []int) {
	for i := range l[:cap(l)] {
		l[:cap(l)][i] = -1
	}
}

func TestResultsShareNothing(t *testing.T) { // P6.1
	for _, n := range []int{1, 2, 10, 1000} {
		whole, _ := seed.Shuffle("x", n)
		part, _ := seed.Sample("x", n, n/2+1)
		scribble(part)
		if !slices.Equal(whole, shuffled("x", n)) {
			t.Fatalf("Shuffle(x, %d) changes with a sample", n)
		}
		scribble(whole)
		if l, err := seed.Shuffle("x", n); !slices.Equal(l, shuffled("x", n)) || err != api.OK {
			t.Fatalf("after a change of its result, Shuffle(x, %d) = %v, %d", n, l, err)
		}
	}
}

func TestChoose(t *testing.T) { // P6.1
	random := rand.New(rand.NewSource(3))
	for i := range 3000 {
		weights := make([]int, random.Intn(1+i%201))
		for i := range weights {
			weights[i] = max(0, random.Intn(12)-4)
		}
		given := slices.Clone(weights)
		for range 20 {
			d := random.Intn(4*len(weights)+3) - 1
			want, ok := chosen(weights, d)
			index, err := seed.Choose(weights, d)
			if index != want || (err == api.OK) != ok || err != api.OK && err != api.ErrSeed {
				t.Fatalf("Choose(%v, %d) = %d, %d; want %d", weights, d, index, err, want)
			}
		}
		if !slices.Equal(weights, given) {
			t.Fatalf("Choose has changed %v to %v", given, weights)
		}
	}
}

func TestChooseCounts(t *testing.T) { // P6.5
	for _, weights := range [][]int{{1}, {2, 0, 3}, {0, 0, 1}, {1, 0, 0}, {0, 7, 0, 5, 0}, {1000, 1, 1000}, {3, 1, 4, 1, 5, 9, 2, 6}, slices.Repeat([]int{1}, 200), slices.Repeat([]int{0, 5}, 100)} {
		counts := make([]int, len(weights))
		sum := 0
		for _, weight := range weights {
			sum += weight
		}
		for d := range sum {
			i, err := seed.Choose(weights, d)
			if err != api.OK {
				t.Fatalf("Choose(%v, %d): error %d", weights, d, err)
			}
			counts[i]++
		}
		if !slices.Equal(counts, weights) {
			t.Errorf("%v are chosen so often: %v", weights, counts)
		}
	}
}

func TestChooseLargeWeights(t *testing.T) { // P6.1, P6.5
	const large = 1 << 50
	weights := slices.Repeat([]int{large}, 200)
	for i := range weights {
		for _, d := range []int{i * large, i*large + 1, i*large + large/2, i*large + large - 1} {
			if index, err := seed.Choose(weights, d); index != i || err != api.OK {
				t.Fatalf("Choose(200 times 2^50, %d) = %d, %d; want %d", d, index, err, i)
			}
		}
	}
	for _, d := range []int{200 * large, 200*large + 1, math.MaxInt, -1, math.MinInt} {
		if index, err := seed.Choose(weights, d); index != 0 || err != api.ErrSeed {
			t.Errorf("Choose(200 times 2^50, %d) = %d, %d; want ErrSeed", d, index, err)
		}
	}
}

func TestChooseRefuses(t *testing.T) { // P6.1
	for i, weights := range [][]int{
		nil, {}, {0}, {0, 0, 0}, {-1}, {5, -1}, {-1, 5}, {1<<50 + 1}, {5, 1<<50 + 1}, {1<<50 + 1, 5}, {5, 5, math.MinInt}, {5, math.MaxInt}, {math.MaxInt, 5}, {math.MaxInt, math.MaxInt, 5},
		{1 << 62, 1 << 62, 1 << 62, 1 << 62, 5}, {10, -5, 10}, slices.Repeat([]int{5}, 201), slices.Repeat([]int{0}, 201), slices.Repeat([]int{1}, 1<<16),
	} {
		for _, d := range []int{0, 1, 4, -1, 100000, 1 << 50, math.MaxInt, math.MinInt} {
			if index, err := seed.Choose(weights, d); index != 0 || err != api.ErrSeed {
				t.Errorf("weights %d: Choose of %d = %d, %d; want ErrSeed", i, d, index, err)
			}
		}
	}
	for _, d := range []int{-1, -2, math.MinInt, 5, 6, math.MaxInt} {
		if index, err := seed.Choose([]int{2, 0, 3}, d); index != 0 || err != api.ErrSeed {
			t.Errorf("Choose(2 0 3, %d) = %d, %d; want ErrSeed", d, index, err)
		}
	}
}

// Example shows that a name stands for its draws, whoever asks for them, and how a draw chooses by weights.
func Example() {
	name := "day 7"
	die, _ := seed.Draw(name, 0, 6)
	order, _ := seed.Shuffle(name, 5)
	two, _ := seed.Sample(name, 5, 2)
	weights := []int{50, 30, 20}
	d, _ := seed.Draw(name, 1, 100)
	chosen, _ := seed.Choose(weights, d)
	_, err := seed.Draw("", 0, 6)
	fmt.Println(die, order, two, d, chosen, err == api.ErrSeed)
	// Output: 0 [4 1 0 2 3] [4 1] 69 1 true
}
