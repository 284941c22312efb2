package rational_test

import (
	"fmt"
	"math"
	"math/big"
	"math/rand"
	"regexp"
	"slices"
	"strings"
	"testing"
	"unsafe"

	"latecomer/api"
	"latecomer/rational"
)

// shape is the definition of an integer, but for the number of its digits.
var shape = regexp.MustCompile(`^(0|-?[1-9][0-9]*)$`)

// beyond is the least number with too many digits.
var beyond = power(api.MaxDigits)

// invalid are strings that are no valid integers; the last ones have too many digits.
var invalid = []string{
	"", "-", "-0", "00", "007", "+1", "--1", "1-", " 1", "1 ", "a", "0x10", "1.0", "1/2", "1/1", "/", "²", "1\x00", "\xff",
	beyond.String(), "-" + beyond.String(), strings.Repeat("9", 2*api.MaxDigits), strings.Repeat("1", 1<<20),
}

// operations have the function of the calculator that each is compared with.
var operations = []struct {
	name string
	f    func(api.Ratio, api.Ratio) (api.Ratio, api.Errno)
	want func(c *calculator, a, b *big.Rat) *big.Rat
}{
	{"Add", rational.Add, (*calculator).add},
	{"Sub", rational.Sub, (*calculator).sub},
	{"Mul", rational.Mul, (*calculator).mul},
	{"Div", rational.Div, (*calculator).div},
}

// roundings have what each adds to a quotient with a remainder.
var roundings = []struct {
	name string
	f    func(api.Ratio, int) (api.Ratio, api.Errno)
	more int64
}{
	{"Down", rational.Down, 0},
	{"Up", rational.Up, 1},
}

// calculator calculates as the chapter defines it, and notices what is too large, or divided by 0.
type calculator struct{ refused bool }

func (c *calculator) kept(n *big.Int) *big.Int {
	c.refused = c.refused || !fits(n)
	return n
}

func (c *calculator) product(a, b *big.Int) *big.Int { return c.kept(new(big.Int).Mul(a, b)) }

func (c *calculator) reduced(n, d *big.Int) *big.Rat {
	if d.Sign() == 0 {
		c.refused = true
		return new(big.Rat)
	}
	return new(big.Rat).SetFrac(n, d)
}

func (c *calculator) add(a, b *big.Rat) *big.Rat {
	n := new(big.Int).Add(c.product(a.Num(), b.Denom()), c.product(b.Num(), a.Denom()))
	return c.reduced(c.kept(n), c.product(a.Denom(), b.Denom()))
}

func (c *calculator) sub(a, b *big.Rat) *big.Rat {
	n := new(big.Int).Sub(c.product(a.Num(), b.Denom()), c.product(b.Num(), a.Denom()))
	return c.reduced(c.kept(n), c.product(a.Denom(), b.Denom()))
}

func (c *calculator) mul(a, b *big.Rat) *big.Rat {
	return c.reduced(c.product(a.Num(), b.Num()), c.product(a.Denom(), b.Denom()))
}

func (c *calculator) div(a, b *big.Rat) *big.Rat {
	return c.reduced(c.product(a.Num(), b.Denom()), c.product(a.Denom(), b.Num()))
}

// round rounds r down if more is 0, and up if it is 1.
func (c *calculator) round(r *big.Rat, places int, more int64) *big.Rat {
	t := power(places)
	n, rest := new(big.Int).DivMod(c.product(r.Num(), t), r.Denom(), new(big.Int))
	if rest.Sign() != 0 {
		n.Add(n, big.NewInt(more))
	}
	return c.reduced(c.kept(n), t)
}

func power(n int) *big.Int { return new(big.Int).Exp(big.NewInt(10), big.NewInt(int64(n)), nil) }

func number(s string) *big.Int {
	n, ok := new(big.Int).SetString(s, 10)
	if !ok {
		panic(s)
	}
	return n
}

// fits reports whether n has not too many digits.
func fits(n *big.Int) bool { return n.CmpAbs(beyond) < 0 }

// ratio returns the fraction n / d, which need not be valid.
func ratio(n, d string) api.Ratio { return api.Ratio{Num: n, Den: d} }

// fractionOf returns the only valid fraction with this value.
func fractionOf(r *big.Rat) api.Ratio { return ratio(r.Num().String(), r.Denom().String()) }

// valueOf returns the value of the fraction r, whose Num and Den are integers.
func valueOf(r api.Ratio) *big.Rat { return new(big.Rat).SetFrac(number(r.Num), number(r.Den)) }

// isInteger reports whether s is a valid integer.
func isInteger(s string) bool {
	return shape.MatchString(s) && len(strings.TrimPrefix(s, "-")) <= api.MaxDigits
}

// isValid reports whether r is a valid fraction: it is the one that math/big makes of it.
func isValid(r api.Ratio) bool {
	return isInteger(r.Num) && isInteger(r.Den) && r.Den != "0" && r == fractionOf(valueOf(r))
}

// checkResult checks what a function returns for what the calculator c has calculated.
func checkResult(t *testing.T, call string, got api.Ratio, err api.Errno, want *big.Rat, c *calculator) {
	t.Helper()
	if c.refused {
		if got != (api.Ratio{}) || err != api.ErrRational {
			t.Fatalf("%s = %v, %d; want ErrRational", call, got, err)
		}
		return
	}
	if got != fractionOf(want) || err != api.OK || !rational.Valid(got) {
		t.Fatalf("%s = %v, %d; want %s", call, got, err, want)
	}
}

// someInteger returns a number with at most so many digits.
func someInteger(random *rand.Rand, most int) *big.Int {
	n := new(big.Int).Rand(random, power(1+random.Intn(most)))
	switch random.Intn(6) {
	case 0, 1:
		return n.Neg(n)
	case 2:
		return power(random.Intn(most))
	}
	return n
}

// someFraction returns a fraction whose Num and Den have at most so many digits.
func someFraction(random *rand.Rand, most int) *big.Rat {
	d := someInteger(random, most)
	if d.Sign() == 0 || random.Intn(8) == 0 {
		d.SetInt64(1)
	}
	return new(big.Rat).SetFrac(someInteger(random, most), d)
}

// edges are fractions on both sides of what is too large, and simple ones; all are valid.
func edges() []*big.Rat {
	nines := new(big.Int).Sub(beyond, big.NewInt(1))
	var parts []*big.Int
	for _, n := range []int64{0, 1, 2, 3, 4, 7, 10, 12} {
		parts = append(parts, big.NewInt(n))
	}
	for _, n := range []int{66, 99, 100, 101, 170, 199} {
		parts = append(parts, power(n), new(big.Int).Sub(power(n), big.NewInt(1)))
	}
	parts = append(parts, nines, new(big.Int).Sub(nines, big.NewInt(1)), new(big.Int).Rsh(nines, 1), new(big.Int).Div(nines, big.NewInt(3)))
	var list []*big.Rat
	for i, n := range parts {
		for j, d := range parts {
			if d.Sign() != 0 && (i < 3 || j < 3 || (i+j)%4 == 0) {
				r := new(big.Rat).SetFrac(n, d)
				list = append(list, r, new(big.Rat).Neg(r))
			}
		}
	}
	return list
}

// pairs calls f with many pairs of edges, and with other pairs of all sizes.
func pairs(f func(a, b *big.Rat)) {
	list := edges()
	for i, a := range list {
		for j := i % 61; j < len(list); j += 61 {
			f(a, list[j])
		}
		f(a, a)
		f(a, new(big.Rat).Neg(a))
		f(a, new(big.Rat))
	}
	random := rand.New(rand.NewSource(1))
	for i := range 600 {
		most := 1 + i%api.MaxDigits
		a, b := someFraction(random, most), someFraction(random, api.MaxDigits-most+1)
		f(a, b)
		f(b, a)
		f(a, someFraction(random, most))
		f(a, new(big.Rat).SetFrac(b.Num(), a.Denom())) // fractions whose denominators have common divisors
	}
}

func TestExamples(t *testing.T) { // P4.1
	type result struct {
		r   api.Ratio
		err api.Errno
	}
	of := func(r api.Ratio, err api.Errno) result { return result{r, err} }
	refused := result{err: api.ErrRational}
	large := power(150).String()
	for i, c := range []struct{ got, want result }{
		{of(rational.Of(6, -4)), result{r: ratio("-3", "2")}},
		{of(rational.Of(0, -5)), result{r: ratio("0", "1")}},
		{of(rational.Of(1, 0)), refused},
		{of(rational.Add(ratio("1", "2"), ratio("1", "3"))), result{r: ratio("5", "6")}},
		{of(rational.Sub(ratio("1", "2"), ratio("1", "2"))), result{r: ratio("0", "1")}},
		{of(rational.Mul(ratio("-2", "3"), ratio("3", "4"))), result{r: ratio("-1", "2")}},
		{of(rational.Div(ratio("1", "2"), ratio("-1", "4"))), result{r: ratio("-2", "1")}},
		{of(rational.Div(ratio("1", "1"), ratio("0", "1"))), refused},
		{of(rational.Down(ratio("1", "3"), 2)), result{r: ratio("33", "100")}},
		{of(rational.Up(ratio("1", "3"), 2)), result{r: ratio("17", "50")}},
		{of(rational.Down(ratio("-1", "3"), 2)), result{r: ratio("-17", "50")}},
		{of(rational.Up(ratio("7", "1"), 3)), result{r: ratio("7", "1")}},
		{of(rational.Parse("-3/2")), result{r: ratio("-3", "2")}},
		{of(rational.Parse("3/-2")), refused},
		{of(rational.Parse("6/4")), refused},
		{of(rational.Parse("3/1")), refused},
		{of(rational.Parse("+3")), refused},
		{of(rational.Mul(ratio(large, "1"), ratio(large, "1"))), refused},
	} {
		if c.got != c.want {
			t.Errorf("example %d = %v, want %v", i, c.got, c.want)
		}
	}
	if got := rational.Compare(ratio("1", "3"), ratio("33333", "100000")); got != 1 {
		t.Errorf("Compare(1/3, 33333/100000) = %d", got)
	}
	if got := rational.Compare(ratio("-1", "2"), ratio("-1", "3")); got != -1 {
		t.Errorf("Compare(-1/2, -1/3) = %d", got)
	}
}

// invalidFractions are of every kind that is not valid: with no integers, with a Den that is not positive, or not in lowest terms.
func invalidFractions() []api.Ratio {
	list := []api.Ratio{
		{}, ratio("1", ""), ratio("", "1"), ratio("0", "0"), ratio("1", "0"), ratio("-1", "0"), ratio("0", "2"), ratio("0", "-1"),
		ratio("1", "-1"), ratio("1", "-2"), ratio("-1", "-2"), ratio("2", "4"), ratio("-2", "4"), ratio("6", "4"), ratio("3", "3"), ratio("10", "5"),
		ratio(power(199).String(), power(198).String()), ratio(power(199).String(), "2"), ratio("3", strings.Repeat("9", 200)), ratio("1", "-"+power(199).String()),
	}
	for _, s := range invalid {
		list = append(list, ratio(s, "1"), ratio("1", s), ratio("0", s), ratio(s, s), ratio(s, "0"))
	}
	return list
}

func TestValid(t *testing.T) { // P4.1, P4.2
	for _, r := range invalidFractions() {
		if rational.Valid(r) {
			t.Errorf("Valid(%.300q) = true", r)
		}
	}
	for n := -40; n <= 40; n++ {
		for d := -40; d <= 40; d++ {
			r := ratio(fmt.Sprint(n), fmt.Sprint(d))
			if rational.Valid(r) != isValid(r) {
				t.Errorf("Valid(%v) = %v", r, !isValid(r))
			}
		}
	}
	for _, r := range edges() {
		if !rational.Valid(fractionOf(r)) {
			t.Errorf("Valid(%v) = false", r)
		}
		twice := ratio(new(big.Int).Lsh(r.Num(), 1).String(), new(big.Int).Lsh(r.Denom(), 1).String())
		opposite := ratio(r.Num().String(), new(big.Int).Neg(r.Denom()).String())
		if rational.Valid(twice) || rational.Valid(opposite) {
			t.Errorf("Valid is true of %v or of %v", twice, opposite)
		}
	}
}

func checkMake(t *testing.T, num, den *big.Int) {
	t.Helper()
	c := &calculator{}
	want := c.reduced(c.kept(num), c.kept(den))
	got, err := rational.Make(num.String(), den.String())
	checkResult(t, fmt.Sprintf("Make(%s, %s)", num, den), got, err, want, c)
}

func TestMake(t *testing.T) { // P4.1, P4.2
	for n := int64(-40); n <= 40; n++ {
		for d := int64(-40); d <= 40; d++ {
			checkMake(t, big.NewInt(n), big.NewInt(d))
		}
	}
	random := rand.New(rand.NewSource(2))
	for range 1500 {
		checkMake(t, someInteger(random, api.MaxDigits), someInteger(random, api.MaxDigits))
		common := someInteger(random, 150)
		checkMake(t, new(big.Int).Mul(common, someInteger(random, 60)), new(big.Int).Mul(common, someInteger(random, 50)))
	}
	nines := strings.Repeat("9", api.MaxDigits)
	for _, s := range []string{nines, "-" + nines} { // the longest integers, of both signs
		for _, other := range []string{nines, "-" + nines, "0", "1", "-1", "3", "-3"} {
			checkMake(t, number(s), number(other))
			checkMake(t, number(other), number(s))
		}
	}
}

func TestMakeRefuses(t *testing.T) { // P4.1
	for _, s := range invalid {
		for _, args := range [][2]string{{s, "1"}, {"1", s}, {s, "-1"}, {"-1", s}, {s, "0"}, {"0", s}, {s, s}} {
			if got, err := rational.Make(args[0], args[1]); got != (api.Ratio{}) || err != api.ErrRational {
				t.Errorf("Make(%.300q, %.300q) = %v, %d", args[0], args[1], got, err)
			}
		}
	}
}

func TestOf(t *testing.T) { // P4.1
	list := []int{0, 1, -1, 2, -2, 6, -6, 35, math.MaxInt, math.MaxInt - 1, math.MinInt, math.MinInt + 1, math.MinInt / 2}
	random := rand.New(rand.NewSource(3))
	for range 60 {
		list = append(list, int(random.Uint64())>>random.Intn(64))
	}
	for _, n := range list {
		for _, d := range list {
			c := &calculator{}
			want := c.reduced(big.NewInt(int64(n)), big.NewInt(int64(d)))
			got, err := rational.Of(n, d)
			checkResult(t, fmt.Sprintf("Of(%d, %d)", n, d), got, err, want, c)
		}
	}
}

func TestOperations(t *testing.T) { // P4.1, P4.2
	counts := map[bool]int{}
	pairs(func(a, b *big.Rat) {
		for _, op := range operations {
			c := &calculator{}
			want := op.want(c, a, b)
			got, err := op.f(fractionOf(a), fractionOf(b))
			checkResult(t, fmt.Sprintf("%s(%s, %s)", op.name, a, b), got, err, want, c)
			counts[c.refused]++
		}
	})
	if min(counts[true], counts[false]) < 5000 {
		t.Errorf("%d results were too large, %d not", counts[true], counts[false])
	}
}

func TestSmallOperations(t *testing.T) { // P4.1, P4.2
	var list []*big.Rat
	for n := int64(-7); n <= 7; n++ {
		for d := int64(1); d <= 6; d++ {
			list = append(list, big.NewRat(n, d))
		}
	}
	for _, a := range list {
		for _, b := range list {
			for _, op := range operations {
				c := &calculator{}
				want := op.want(c, a, b)
				got, err := op.f(fractionOf(a), fractionOf(b))
				checkResult(t, fmt.Sprintf("%s(%s, %s)", op.name, a, b), got, err, want, c)
			}
			if got := rational.Compare(fractionOf(a), fractionOf(b)); got != a.Cmp(b) {
				t.Fatalf("Compare(%s, %s) = %d", a, b, got)
			}
		}
	}
}

// TestTooLarge has operations of which only the integers that are named are too large, or just not, even if the result would be short.
func TestTooLarge(t *testing.T) { // P4.1
	ten := func(n int) string { return power(n).String() }
	whole := func(s string) api.Ratio { return ratio(s, "1") }
	part := func(s string) api.Ratio { return ratio("1", s) }
	nines, threes := strings.Repeat("9", api.MaxDigits), strings.Repeat("3", api.MaxDigits)
	mixed := ratio(ten(100), threes[:101])
	for _, c := range []struct {
		call   string
		refuse bool
		f      func(api.Ratio, api.Ratio) (api.Ratio, api.Errno)
		a, b   api.Ratio
	}{
		{"nothing is added", false, rational.Add, whole(nines), whole("0")},
		{"the sum", true, rational.Add, whole(nines), whole("1")},
		{"the sum of fractions", true, rational.Add, part("3"), whole(threes)},
		{"a sum of fractions that fits", false, rational.Add, ratio("-1", "3"), whole(threes)},
		{"a difference that fits", false, rational.Sub, whole(nines), whole("1")},
		{"the difference", true, rational.Sub, whole("-" + nines), whole("1")},
		{"the first product of a sum", true, rational.Add, whole(ten(199)), ratio("-2"+ten(199)[1:], "11")},
		{"the first product of a difference", true, rational.Sub, whole(ten(199)), ratio("2"+ten(199)[1:], "11")},
		{"the second product of a sum", true, rational.Add, ratio("-2"+ten(199)[1:], "11"), whole(ten(199))},
		{"the second product of a difference", true, rational.Sub, ratio("2"+ten(199)[1:], "11"), whole(ten(199))},
		{"the denominator of a sum", true, rational.Add, part(ten(100)), part(ten(100))},
		{"the denominator of a difference that is 0", true, rational.Sub, part(ten(100)), part(ten(100))},
		{"the denominator of a sum that fits", false, rational.Add, part(ten(99)), part(ten(100))},
		{"the numerator of a product", true, rational.Mul, whole(ten(100)), whole(ten(100))},
		{"the denominator of a product", true, rational.Mul, part(ten(100)), part(ten(100))},
		{"both integers of a product that is 1", true, rational.Mul, mixed, ratio(mixed.Den, mixed.Num)},
		{"a numerator that fits", false, rational.Mul, whole(ten(100)), whole(ten(99))},
		{"a denominator that fits", false, rational.Mul, part(ten(100)), part(ten(99))},
		{"a product that is 1", false, rational.Mul, whole("-" + nines), ratio("-1", nines)},
		{"a product that is 0", false, rational.Mul, whole("0"), part(ten(199))},
		{"the numerator of a quotient", true, rational.Div, whole(ten(100)), part(ten(100))},
		{"the denominator of a quotient", true, rational.Div, part(ten(100)), whole(ten(100))},
		{"both integers of a quotient that is 1", true, rational.Div, mixed, mixed},
		{"a quotient that is negative", false, rational.Div, ratio("1", nines), ratio("-1", nines)},
		{"a quotient of long numbers", false, rational.Div, whole(nines), whole("-" + nines)},
		{"a quotient that is 0", false, rational.Div, whole("0"), ratio("-1", nines)},
		{"0 by 0", true, rational.Div, whole("0"), whole("0")},
		{"a long number by 0", true, rational.Div, whole(nines), whole("0")},
	} {
		got, err := c.f(c.a, c.b)
		if !isValid(c.a) || !isValid(c.b) {
			t.Fatalf("%s: %v or %v is not valid", c.call, c.a, c.b)
		}
		if c.refuse && (got != (api.Ratio{}) || err != api.ErrRational) || !c.refuse && (!isValid(got) || err != api.OK) {
			t.Errorf("%s: %v, %d", c.call, got, err)
		}
	}
}

func TestOperationsRefuse(t *testing.T) { // P4.1
	for _, r := range invalidFractions() {
		for _, valid := range []api.Ratio{ratio("0", "1"), ratio("1", "1"), ratio("-3", "2"), ratio("1", "4"), r} {
			for _, args := range [][2]api.Ratio{{r, valid}, {valid, r}} {
				for _, op := range operations {
					if got, err := op.f(args[0], args[1]); got != (api.Ratio{}) || err != api.ErrRational {
						t.Errorf("%s(%.300q, %.300q) = %v, %d", op.name, args[0], args[1], got, err)
					}
				}
				if got := rational.Compare(args[0], args[1]); got != 0 {
					t.Errorf("Compare(%.300q, %.300q) = %d", args[0], args[1], got)
				}
			}
		}
		for _, places := range []int{0, 1, api.MaxPlaces, -1} {
			for _, rounding := range roundings {
				if got, err := rounding.f(r, places); got != (api.Ratio{}) || err != api.ErrRational {
					t.Errorf("%s(%.300q, %d) = %v, %d", rounding.name, r, places, got, err)
				}
			}
		}
		if got := rational.Print(r); got != "" {
			t.Errorf("Print(%.300q) = %q", r, got)
		}
	}
}

func TestCompare(t *testing.T) { // P4.1, P4.4
	pairs(func(a, b *big.Rat) {
		if got := rational.Compare(fractionOf(a), fractionOf(b)); got != a.Cmp(b) {
			t.Fatalf("Compare(%s, %s) = %d", a, b, got)
		}
	})
}

// TestCompareNeighbours compares fractions that differ as little as their lengths allow.
func TestCompareNeighbours(t *testing.T) { // P4.1, P4.4
	check := func(a, b *big.Rat) {
		t.Helper()
		opposite, other := new(big.Rat).Neg(a), new(big.Rat).Neg(b)
		for _, pair := range [][2]*big.Rat{{a, b}, {b, a}, {a, a}, {opposite, other}, {other, opposite}, {a, other}} {
			if got := rational.Compare(fractionOf(pair[0]), fractionOf(pair[1])); got != pair[0].Cmp(pair[1]) {
				t.Fatalf("Compare(%s, %s) = %d", pair[0], pair[1], got)
			}
		}
	}
	m, n := big.NewInt(1), big.NewInt(1) // quotients of Fibonacci's numbers take the most steps
	for i := 0; ; i++ {
		next := new(big.Int).Add(m, n)
		if !fits(next) {
			break
		}
		if i%100 == 0 || next.Cmp(power(198)) > 0 {
			check(new(big.Rat).SetFrac(n, m), new(big.Rat).SetFrac(next, n))
			check(new(big.Rat).SetFrac(m, n), new(big.Rat).SetFrac(n, next))
		}
		m, n = n, next
	}
	random := rand.New(rand.NewSource(4))
	for range 60 {
		n, d := someInteger(random, api.MaxDigits-1), power(190+random.Intn(9))
		a := new(big.Rat).SetFrac(n, d)
		check(a, new(big.Rat).SetFrac(new(big.Int).Add(n, big.NewInt(1)), d))
		check(a, new(big.Rat).SetFrac(n, new(big.Int).Add(d, big.NewInt(1))))
		// The inverse of n modulo d leads to the neighbour whose difference is 1 divided by both denominators.
		inverse := new(big.Int).ModInverse(a.Num(), a.Denom())
		if inverse != nil && inverse.Sign() > 0 {
			m := new(big.Int).Mul(a.Num(), inverse)
			m.Div(m.Sub(m, big.NewInt(1)), a.Denom())
			check(a, new(big.Rat).SetFrac(m, inverse))
		}
	}
}

// TestOrder checks that Compare orders a list as math/big does, and each pair in the same way as the whole.
func TestOrder(t *testing.T) { // P4.4
	random := rand.New(rand.NewSource(5))
	values := edges()[:70]
	for range 40 {
		values = append(values, someFraction(random, api.MaxDigits), someFraction(random, 3))
	}
	var list []api.Ratio
	for _, r := range values {
		list = append(list, fractionOf(r))
	}
	slices.SortFunc(list, rational.Compare)
	slices.SortFunc(values, (*big.Rat).Cmp)
	for i, r := range list {
		if r != fractionOf(values[i]) {
			t.Fatalf("the element %d is %v, not %v", i, r, values[i])
		}
	}
	for i, a := range list {
		for j, b := range list {
			order := rational.Compare(a, b)
			if order != -rational.Compare(b, a) || (order == 0) != (a == b) || i < j && order > 0 {
				t.Fatalf("Compare(%v, %v) = %d is no order", a, b, order)
			}
		}
	}
}

func TestOrderIsKept(t *testing.T) { // P4.4
	random := rand.New(rand.NewSource(6))
	zero := ratio("0", "1")
	compared := 0
	for i := range 4000 {
		most := 1 + i%70
		a, b, c := fractionOf(someFraction(random, most)), fractionOf(someFraction(random, most)), fractionOf(someFraction(random, most))
		order := rational.Compare(a, b)
		if d, err := rational.Sub(a, b); err == api.OK && rational.Compare(d, zero) != order {
			t.Fatalf("Compare(%v, %v) = %d, but the difference is %v", a, b, order, d)
		}
		kept := operations[:2] // of all c
		if rational.Compare(c, zero) > 0 {
			kept = operations
		}
		for _, op := range kept {
			x, err := op.f(a, c)
			y, other := op.f(b, c)
			if err != api.OK || other != api.OK {
				continue
			}
			compared++
			if rational.Compare(x, y) != order {
				t.Fatalf("Compare(%v, %v) = %d, but not after %s with %v", a, b, order, op.name, c)
			}
		}
	}
	if compared < 10000 {
		t.Errorf("only %d pairs were compared", compared)
	}
}

// term is a sum or product of terms, or a fraction.
type term func() (api.Ratio, api.Errno)

func leaf(r *big.Rat) term {
	return func() (api.Ratio, api.Errno) { return fractionOf(r), api.OK }
}

func both(f func(api.Ratio, api.Ratio) (api.Ratio, api.Errno), x, y term) term {
	return func() (api.Ratio, api.Errno) {
		a, err := x()
		b, other := y()
		if err != api.OK || other != api.OK {
			return api.Ratio{}, api.ErrRational
		}
		return f(a, b)
	}
}

func add(x, y term) term { return both(rational.Add, x, y) }
func sub(x, y term) term { return both(rational.Sub, x, y) }
func mul(x, y term) term { return both(rational.Mul, x, y) }
func div(x, y term) term { return both(rational.Div, x, y) }

func TestField(t *testing.T) { // P4.3
	random := rand.New(rand.NewSource(7))
	zero, one := leaf(new(big.Rat)), leaf(big.NewRat(1, 1))
	compared := make([]int, 16)
	for i := range 1800 {
		most := 1 + i%60
		a, b, c := leaf(someFraction(random, most)), leaf(someFraction(random, most)), leaf(someFraction(random, most))
		for law, sides := range [][2]term{
			{add(a, b), add(b, a)},
			{mul(a, b), mul(b, a)},
			{add(add(a, b), c), add(a, add(b, c))},
			{mul(mul(a, b), c), mul(a, mul(b, c))},
			{mul(a, add(b, c)), add(mul(a, b), mul(a, c))},
			{sub(add(a, b), b), a},
			{add(sub(a, b), b), a},
			{div(mul(a, b), b), a}, // refused if b is 0
			{mul(div(a, b), b), a},
			{add(a, zero), a},
			{mul(a, one), a},
			{sub(a, zero), a},
			{div(a, one), a},
			{sub(a, a), zero},
			{div(a, a), one},
			{mul(a, zero), zero},
		} {
			x, err := sides[0]()
			y, other := sides[1]()
			if err != api.OK || other != api.OK {
				continue
			}
			compared[law]++
			if x != y {
				t.Fatalf("law %d: %v is not %v", law, x, y)
			}
		}
	}
	if slices.Min(compared) < 1000 {
		t.Errorf("of the laws, only so many sides were compared: %v", compared)
	}
}

func checkRounding(t *testing.T, r *big.Rat, places int) {
	t.Helper()
	for _, rounding := range roundings {
		c := &calculator{}
		want := c.round(r, places, rounding.more)
		got, err := rounding.f(fractionOf(r), places)
		checkResult(t, fmt.Sprintf("%s(%s, %d)", rounding.name, r, places), got, err, want, c)
	}
}

func TestRounding(t *testing.T) { // P4.1, P4.2
	for i, r := range edges() {
		for places := i % 3; places <= api.MaxPlaces; places += 3 {
			checkRounding(t, r, places)
		}
	}
	for n := int64(-60); n <= 60; n++ {
		for d := int64(1); d <= 30; d++ {
			for places := range 4 {
				checkRounding(t, big.NewRat(n, d), places)
			}
		}
	}
	random := rand.New(rand.NewSource(8))
	for i := range 2000 {
		checkRounding(t, someFraction(random, 1+i%api.MaxDigits), random.Intn(api.MaxPlaces+1))
	}
}

func TestPlaces(t *testing.T) { // P4.1
	for _, r := range []api.Ratio{ratio("0", "1"), ratio("7", "1"), ratio("1", "3"), ratio("-1", power(40).String())} {
		for _, places := range []int{-1, -2, -30, api.MaxPlaces + 1, 100, 199, 200, 1 << 31, math.MaxInt, math.MinInt} {
			for _, rounding := range roundings {
				if got, err := rounding.f(r, places); got != (api.Ratio{}) || err != api.ErrRational {
					t.Errorf("%s(%v, %d) = %v, %d", rounding.name, r, places, got, err)
				}
			}
		}
	}
}

func TestLongRounding(t *testing.T) { // P4.1: only the product with t can be too large
	nines := strings.Repeat("9", api.MaxDigits)
	for places := range api.MaxPlaces + 1 {
		for digits := api.MaxDigits - places - 1; digits <= min(api.MaxDigits-places+1, api.MaxDigits); digits++ {
			for _, den := range []string{"1", "2", "7", nines[:199] + "8", power(199).String()} {
				n := nines[:digits]
				checkRounding(t, new(big.Rat).SetFrac(number(n), number(den)), places)
				checkRounding(t, new(big.Rat).SetFrac(number("-"+n), number(den)), places)
			}
		}
	}
}

// TestRoundingBounds checks what the promise says of Down and Up with the functions of the package.
func TestRoundingBounds(t *testing.T) { // P4.5
	random := rand.New(rand.NewSource(9))
	zero := ratio("0", "1")
	exact := 0
	for i := range 3000 {
		places := i % (api.MaxPlaces + 1)
		value := someFraction(random, 1+i%60)
		unit := new(big.Rat).SetFrac(big.NewInt(1), power(places))
		if i%5 == 0 {
			value.Mul(new(big.Rat).SetInt(value.Num()), unit)
		}
		r, opposite := fractionOf(value), fractionOf(new(big.Rat).Neg(value))
		down, err := rational.Down(r, places)
		up, other := rational.Up(r, places)
		if err != api.OK || other != api.OK {
			t.Fatalf("Down or Up refuses %v", r)
		}
		if rational.Compare(down, r) > 0 || rational.Compare(up, r) < 0 {
			t.Fatalf("%v is not between %v and %v", r, down, up)
		}
		for _, s := range []api.Ratio{down, up} {
			if multiple, _ := rational.Div(s, fractionOf(unit)); multiple.Den != "1" {
				t.Fatalf("%v is no multiple of %s", s, unit)
			}
			again, err := rational.Down(s, places)
			upAgain, other := rational.Up(s, places)
			if again != s || upAgain != s || err != api.OK || other != api.OK {
				t.Fatalf("%v is rounded to %v and %v", s, again, upAgain)
			}
		}
		multiple := new(big.Rat).Quo(value, unit).IsInt()
		want := fractionOf(unit)
		if multiple {
			want, exact = zero, exact+1
		}
		if difference, err := rational.Sub(up, down); difference != want || err != api.OK {
			t.Fatalf("Up and Down of %v differ by %v, %d; want %v", r, difference, err, want)
		}
		mirrored, err := rational.Down(opposite, places)
		if minus, other := rational.Sub(zero, mirrored); minus != up || err != api.OK || other != api.OK {
			t.Fatalf("Up of %v is %v, but Down of %v is %v", r, up, opposite, mirrored)
		}
	}
	if exact < 500 || exact > 2500 {
		t.Errorf("%d values are multiples", exact)
	}
}

// fractionIn returns the valid fraction that is printed as s, and whether there is one.
func fractionIn(s string) (api.Ratio, bool) {
	parts := strings.Split(s, "/")
	if len(parts) == 1 {
		r := ratio(s, "1")
		return r, isValid(r)
	}
	r := ratio(parts[0], parts[1])
	return r, len(parts) == 2 && parts[1] != "1" && isValid(r)
}

func checkParse(t *testing.T, s string) {
	t.Helper()
	got, err := rational.Parse(s)
	want, ok := fractionIn(s)
	if !ok {
		if got != (api.Ratio{}) || err != api.ErrRational {
			t.Errorf("Parse(%.300q) = %v, %d", s, got, err)
		}
		return
	}
	if got != want || err != api.OK {
		t.Errorf("Parse(%q) = %v, %d; want %v", s, got, err, want)
	}
	if again := rational.Print(got); again != s {
		t.Errorf("Print(%v) = %q, want %q", got, again, s)
	}
}

func TestParse(t *testing.T) { // P4.1, P4.6
	short := []string{""}
	const alphabet = "-/012345689 +."
	for begin, length := 0, 0; length < 4; length++ {
		end := len(short)
		for _, s := range short[begin:end] {
			for i := range len(alphabet) {
				short = append(short, s+alphabet[i:i+1])
			}
		}
		begin = end
	}
	for _, s := range short {
		for _, text := range []string{s, "-1" + s, "6/" + s, s + "/7", "-15/" + s + "0"} {
			checkParse(t, text)
		}
	}
	for _, s := range invalid {
		for _, text := range []string{s, s + "/2", "1/" + s, s + "/" + s, "0/" + s, "3/2" + s, "3/2/" + s, s + "3/2", "\x00" + s} {
			checkParse(t, text)
		}
	}
	for _, s := range []string{"3/2/", "/3/2", "3//2", "3/2/1", "3/1/1", "1/2/1", "3 /2", "3/ 2", "3/2\n", "3\\2", "3:2", "3/+2", "3/02", "03/2", "-0/1", "0/1", "0/2", "-0", "3/-1", "3/0"} {
		if r, err := rational.Parse(s); r != (api.Ratio{}) || err != api.ErrRational {
			t.Errorf("Parse(%q) = %v, %d", s, r, err)
		}
	}
}

func TestPrint(t *testing.T) { // P4.1, P4.2, P4.6
	values := edges()
	random := rand.New(rand.NewSource(10))
	for i := range 3000 {
		values = append(values, someFraction(random, 1+i%api.MaxDigits))
	}
	printed := map[string]api.Ratio{}
	for _, value := range values {
		r := fractionOf(value)
		s := rational.Print(r)
		if s != value.RatString() {
			t.Fatalf("Print(%v) = %q", r, s)
		}
		if other, ok := printed[s]; ok && other != r {
			t.Fatalf("Print returns %q for %v and %v", s, r, other)
		}
		printed[s] = r
		if again, err := rational.Parse(s); again != r || err != api.OK {
			t.Fatalf("Parse(%q) = %v, %d", s, again, err)
		}
	}
}

// TestNewMemory checks that what is taken over from an argument is copied (rule R3).
func TestNewMemory(t *testing.T) { // P4.1
	text := strings.Clone("-12345/67")
	r, _ := rational.Parse(text)
	if memory(r.Num) == memory(text) || memory(r.Den) == memory(text[7:]) {
		t.Errorf("Parse returns a part of its argument")
	}
	whole := ratio(strings.Clone("12345"), strings.Clone("1"))
	if memory(rational.Print(whole)) == memory(whole.Num) {
		t.Errorf("Print returns a part of its argument")
	}
	one := ratio("1", "1")
	for _, op := range operations {
		if r, _ := op.f(whole, one); memory(r.Num) == memory(whole.Num) {
			t.Errorf("%s returns a part of its argument", op.name)
		}
	}
}

func memory(s string) *byte { return unsafe.StringData(s) }

// Example shows that nothing is rounded, unless it is asked for.
func Example() {
	third, _ := rational.Of(2, -6)
	half, _ := rational.Parse("1/2")
	sum, _ := rational.Add(third, half)
	quotient, _ := rational.Div(third, sum)
	down, _ := rational.Down(sum, 2)
	up, _ := rational.Up(sum, 2)
	_, err := rational.Div(sum, api.Ratio{Num: "0", Den: "1"})
	fmt.Println(rational.Print(sum), rational.Print(quotient), rational.Print(down), rational.Print(up), rational.Compare(third, sum), err == api.ErrRational)
	// Output: 1/6 -2 4/25 17/100 -1 true
}
