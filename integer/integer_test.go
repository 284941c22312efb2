package integer_test

import (
	"fmt"
	"math"
	"math/big"
	"math/rand"
	"regexp"
	"slices"
	"strings"
	"testing"

	"latecomer/api"
	"latecomer/integer"
)

// shape is the definition of an integer, but for the number of its digits.
var shape = regexp.MustCompile(`^(0|-?[1-9][0-9]*)$`)

// beyond is the least number with too many digits.
var beyond = power(api.MaxDigits)

// invalid are strings that are no valid integers; the last ones have too many digits.
var invalid = []string{
	"", "-", "-0", "00", "007", "-007", "+1", "+0", "--1", "-+1", "1-", "1-2", " 1", "1 ", "- 1", "1\n", "\n1", "1\x00", "\x00",
	"a", "1a", "a1", "0x10", "1e5", "1.0", "1,000", "1_000", "12/", "12:", "/12", ":12", "²", "٣", "１", "1\xff", "\x80", "−1",
	strings.Repeat("0", api.MaxDigits), strings.Repeat("9", api.MaxDigits-1) + ":",
	beyond.String(), "-" + beyond.String(), strings.Repeat("9", 2*api.MaxDigits), strings.Repeat("1", 1<<20),
}

// operations have the function of package math/big that each is compared with.
var operations = []struct {
	name string
	f    func(string, string) (string, api.Errno)
	want func(z, a, b *big.Int) *big.Int
}{
	{"Add", integer.Add, (*big.Int).Add},
	{"Sub", integer.Sub, (*big.Int).Sub},
	{"Mul", integer.Mul, (*big.Int).Mul},
	{"Gcd", integer.Gcd, func(z, a, b *big.Int) *big.Int { return z.GCD(nil, nil, new(big.Int).Abs(a), new(big.Int).Abs(b)) }},
}

func power(n int) *big.Int { return new(big.Int).Exp(big.NewInt(10), big.NewInt(int64(n)), nil) }

func number(t *testing.T, s string) *big.Int {
	t.Helper()
	n, ok := new(big.Int).SetString(s, 10)
	if !ok {
		t.Fatalf("%q is no number", s)
	}
	return n
}

// fits reports whether n has not too many digits.
func fits(n *big.Int) bool { return n.CmpAbs(beyond) < 0 }

// someNumber returns a number with at most so many digits. Groups that are at the ends of their range are rare by chance, and are made often.
func someNumber(random *rand.Rand, most int) *big.Int {
	digits := make([]byte, 1+random.Intn(most))
	for i := range digits {
		digits[i] = '0' + byte(random.Intn(10))
	}
	for at := len(digits); at > 0 && random.Intn(3) > 0; at -= 4 {
		group := []string{"0000", "9999", "0001", "9998", "1000", "5000", "4999"}[random.Intn(7)]
		copy(digits[max(0, at-4):at], group)
	}
	n, _ := new(big.Int).SetString(string(digits), 10)
	if random.Intn(2) == 0 {
		n.Neg(n)
	}
	return n
}

// edges are numbers on both sides of each change of length and of sign, and of what fits into machine words.
func edges() []*big.Int {
	var list []*big.Int
	around := func(n *big.Int) {
		for d := range int64(3) {
			m := new(big.Int).Add(n, big.NewInt(d-1))
			if fits(m) {
				list = append(list, m, new(big.Int).Neg(m))
			}
		}
	}
	around(new(big.Int))
	for _, n := range []int{1, 3, 4, 5, 8, 12, 15, 16, 17, 19, 20, 24, 100, 196, 199, 200} {
		around(power(n))
	}
	around(new(big.Int).Mul(power(199), big.NewInt(5)))
	for _, n := range []uint{31, 32, 62, 63, 64, 128} {
		around(new(big.Int).Lsh(big.NewInt(1), n))
	}
	return list
}

// pairs calls f with all pairs of edges, and with many other pairs, of which some have a common divisor or are close to a multiple.
func pairs(f func(a, b *big.Int)) {
	list := edges()
	for _, a := range list {
		for _, b := range list {
			f(a, b)
		}
	}
	random := rand.New(rand.NewSource(1))
	for range 2000 {
		a, b := someNumber(random, api.MaxDigits), someNumber(random, api.MaxDigits)
		f(a, b)
		c := someNumber(random, 100)
		product := new(big.Int).Mul(c, someNumber(random, 100))
		f(product, c)
		f(product.Sub(product, big.NewInt(1)), c)
		f(product, new(big.Int).Mul(c, someNumber(random, 100)))
	}
}

func TestExamples(t *testing.T) { // P3.1
	for s, want := range map[string]bool{"0": true, "-7": true, "007": false, "-0": false, "+1": false, "": false} {
		if integer.Valid(s) != want {
			t.Errorf("Valid(%q) = %v", s, !want)
		}
	}
	for i, c := range []struct {
		f          func(string, string) (string, api.Errno)
		a, b, want string
	}{
		{integer.Add, "999", "1", "1000"}, {integer.Sub, "1", "1000", "-999"}, {integer.Mul, "-12", "12", "-144"}, {integer.Gcd, "12", "-18", "6"},
	} {
		if s, err := c.f(c.a, c.b); s != c.want || err != api.OK {
			t.Errorf("example %d = %q, %d; want %s", i, s, err, c.want)
		}
	}
	for _, c := range [][4]string{{"7", "2", "3", "1"}, {"-7", "2", "-4", "1"}, {"7", "-2", "-3", "1"}, {"-7", "-2", "4", "1"}} {
		if q, r, err := integer.Div(c[0], c[1]); q != c[2] || r != c[3] || err != api.OK {
			t.Errorf("Div(%s, %s) = %q, %q, %d", c[0], c[1], q, r, err)
		}
	}
	if s, err := integer.Root("99"); s != "9" || err != api.OK {
		t.Errorf("Root(99) = %q, %d", s, err)
	}
}

func checkValid(t *testing.T, s string) {
	t.Helper()
	want := shape.MatchString(s) && len(strings.TrimPrefix(s, "-")) <= api.MaxDigits
	if integer.Valid(s) != want {
		t.Errorf("Valid(%.300q) = %v", s, !want)
	}
}

func TestValid(t *testing.T) { // P3.1
	for _, s := range invalid {
		if integer.Valid(s) {
			t.Errorf("Valid(%.300q) = true", s)
		}
	}
	const alphabet = "-+0159./: a\x00\xff"
	short := []string{""}
	for range 4 {
		for _, s := range slices.Clone(short) {
			for i := range len(alphabet) {
				short = append(short, s+alphabet[i:i+1])
			}
		}
	}
	for _, s := range short {
		checkValid(t, s)
	}
	for b := range 256 {
		c := string([]byte{byte(b)})
		for _, s := range []string{c, "1" + c, c + "1", "-" + c, "12345" + c + "67", strings.Repeat("9", 199) + c} {
			checkValid(t, s)
		}
	}
	for n := range 2*api.MaxDigits + 2 {
		for _, s := range []string{"1" + strings.Repeat("0", n), strings.Repeat("9", n), "-" + strings.Repeat("9", n), "--" + strings.Repeat("9", n), strings.Repeat("0", n)} {
			checkValid(t, s)
		}
	}
}

func TestFromIntAndToInt(t *testing.T) { // P3.1, P3.2
	list := []int{0, 7, -7, 9999, 10000, -10000, math.MaxInt, math.MaxInt - 1, math.MinInt, math.MinInt + 1}
	random := rand.New(rand.NewSource(2))
	for range 10000 {
		list = append(list, int(random.Uint64())>>random.Intn(64))
	}
	for _, n := range list {
		s := integer.FromInt(n)
		if s != big.NewInt(int64(n)).String() || !integer.Valid(s) {
			t.Errorf("FromInt(%d) = %q", n, s)
		}
		if m, err := integer.ToInt(s); m != n || err != api.OK {
			t.Errorf("ToInt(%q) = %d, %d", s, m, err)
		}
	}
}

func TestToInt(t *testing.T) { // P3.1
	refused := []string{"9223372036854775808", "-9223372036854775809", "18446744073709551616", "18446744073709551617", "-18446744073709551617"}
	for _, s := range append(refused, invalid...) {
		if n, err := integer.ToInt(s); n != 0 || err != api.ErrInteger {
			t.Errorf("ToInt(%.300q) = %d, %d", s, n, err)
		}
	}
	for _, n := range edges() {
		m, err := integer.ToInt(n.String())
		if n.IsInt64() && (int64(m) != n.Int64() || err != api.OK) || !n.IsInt64() && (m != 0 || err != api.ErrInteger) {
			t.Errorf("ToInt(%s) = %d, %d", n, m, err)
		}
	}
}

func TestOperations(t *testing.T) { // P3.1, P3.2, P3.5
	pairs(func(a, b *big.Int) {
		for _, op := range operations {
			want := op.want(new(big.Int), a, b)
			s, err := op.f(a.String(), b.String())
			if fits(want) && (s != want.String() || err != api.OK) {
				t.Fatalf("%s(%s, %s) = %q, %d; want %s", op.name, a, b, s, err, want)
			}
			if !fits(want) && (s != "" || err != api.ErrInteger) {
				t.Fatalf("%s(%s, %s) = %q, %d; want ErrInteger", op.name, a, b, s, err)
			}
		}
	})
}

func TestOperationsRefuse(t *testing.T) { // P3.1
	for _, s := range invalid {
		for _, args := range [][2]string{{s, "1"}, {"1", s}, {s, "0"}, {"0", s}, {s, s}, {s, "-12345"}} {
			for _, op := range operations {
				if got, err := op.f(args[0], args[1]); got != "" || err != api.ErrInteger {
					t.Errorf("%s(%.300q, %.300q) = %q, %d", op.name, args[0], args[1], got, err)
				}
			}
			if q, r, err := integer.Div(args[0], args[1]); q != "" || r != "" || err != api.ErrInteger {
				t.Errorf("Div(%.300q, %.300q) = %q, %q, %d", args[0], args[1], q, r, err)
			}
			if got := integer.Compare(args[0], args[1]); got != 0 {
				t.Errorf("Compare(%.300q, %.300q) = %d", args[0], args[1], got)
			}
		}
		if got, err := integer.Root(s); got != "" || err != api.ErrInteger {
			t.Errorf("Root(%.300q) = %q, %d", s, got, err)
		}
	}
}

func TestLongResults(t *testing.T) { // P3.1
	ones, nines, half := power(199).String(), strings.Repeat("9", 200), strings.Repeat("9", 100)
	for i, c := range []struct {
		f    func(string, string) (string, api.Errno)
		a, b string
		want int // how many digits the result has, 0 if that is too many
	}{
		{integer.Add, nines, "0", 200}, {integer.Add, nines, "1", 0}, {integer.Add, nines, "-1", 200}, {integer.Add, "-" + nines, "-1", 0},
		{integer.Add, ones, "-1", 199}, {integer.Add, nines, nines, 0}, {integer.Add, nines, "-" + nines, 1},
		{integer.Sub, "-" + nines, "1", 0}, {integer.Sub, nines, "-1", 0}, {integer.Sub, nines, nines, 1}, {integer.Sub, "0", nines, 200},
		{integer.Mul, half, half, 200}, {integer.Mul, half, "1" + strings.Repeat("0", 100), 200}, {integer.Mul, "1" + strings.Repeat("0", 100), "-1" + strings.Repeat("0", 100), 0},
		{integer.Mul, nines, "-1", 200}, {integer.Mul, nines, "2", 0}, {integer.Mul, nines, "0", 1}, {integer.Mul, nines, nines, 0}, {integer.Mul, ones, "9", 200}, {integer.Mul, ones, "10", 0},
		{integer.Gcd, nines, "-" + nines, 200}, {integer.Gcd, "-" + nines, "0", 200}, {integer.Gcd, "0", nines, 200}, {integer.Gcd, nines, "1", 1},
	} {
		s, err := c.f(c.a, c.b)
		if len(strings.TrimPrefix(s, "-")) != c.want || (err == api.OK) != (c.want > 0) || err != api.OK && err != api.ErrInteger {
			t.Errorf("case %d returns %q, %d", i, s, err)
		}
	}
	for _, args := range [][2]string{{nines, "-1"}, {"-" + nines, "1"}, {"-" + nines, "-1"}, {nines, "1"}} {
		if q, r, err := integer.Div(args[0], args[1]); len(strings.TrimPrefix(q, "-")) != 200 || r != "0" || err != api.OK {
			t.Errorf("Div(%s, %s) = %q, %q, %d", args[0], args[1], q, r, err)
		}
	}
}

func TestZero(t *testing.T) { // P3.2: no result is -0
	for _, s := range []string{"0", "1", "-1", "12345", "-12345", strings.Repeat("9", 200), "-" + strings.Repeat("9", 200)} {
		opposite, _ := integer.Mul(s, "-1")
		sum, _ := integer.Add(s, opposite)
		difference, _ := integer.Sub(s, s)
		left, _ := integer.Mul("0", s)
		right, _ := integer.Mul(s, "0")
		got := []string{sum, difference, left, right}
		if s != "0" {
			quotient, remainder, _ := integer.Div("0", s)
			_, one, _ := integer.Div(s, s)
			_, other, _ := integer.Div(opposite, s)
			got = append(got, quotient, remainder, one, other)
		}
		for i, zero := range got {
			if zero != "0" {
				t.Errorf("zero %d of %s is %q", i, s, zero)
			}
		}
	}
}

func checkDiv(t *testing.T, a, b *big.Int) {
	t.Helper()
	q, r, err := integer.Div(a.String(), b.String())
	if b.Sign() == 0 {
		if q != "" || r != "" || err != api.ErrInteger {
			t.Fatalf("Div(%s, 0) = %q, %q, %d", a, q, r, err)
		}
		return
	}
	quotient, remainder := new(big.Int).DivMod(a, b, new(big.Int)) // Euclidean division, as the chapter defines it
	if q != quotient.String() || r != remainder.String() || err != api.OK {
		t.Fatalf("Div(%s, %s) = %q, %q, %d; want %s, %s", a, b, q, r, err, quotient, remainder)
	}
}

func TestDiv(t *testing.T) { // P3.1, P3.2, P3.4
	pairs(func(a, b *big.Int) { checkDiv(t, a, b) })
}

func TestDivNearMultiples(t *testing.T) { // P3.4: where the first digits of both numbers do not decide about the quotient
	random := rand.New(rand.NewSource(3))
	for range 1500 {
		b := someNumber(random, 40)
		for _, q := range []int64{1, 2, 4999, 5000, 9998, 9999, 10000, 10001, 99999999, 100000000} {
			a := new(big.Int).Mul(b, big.NewInt(q))
			for range 3 {
				checkDiv(t, a.Sub(a, big.NewInt(1)), b)
			}
			for range 5 {
				checkDiv(t, a.Add(a, big.NewInt(1)), b)
			}
			checkDiv(t, a.Add(a, b), b)
		}
	}
}

func TestDivDivides(t *testing.T) { // P3.4
	for a := -120; a <= 120; a++ {
		for b := -25; b <= 25; b++ {
			q, r, err := integer.Div(integer.FromInt(a), integer.FromInt(b))
			if b == 0 {
				if q != "" || r != "" || err != api.ErrInteger {
					t.Fatalf("Div(%d, 0) = %q, %q, %d", a, q, r, err)
				}
				continue
			}
			var found []string
			for k := -130; k <= 130; k++ {
				if rest := a - k*b; rest >= 0 && rest < max(b, -b) {
					found = append(found, fmt.Sprint(k, rest))
				}
			}
			if err != api.OK || !slices.Equal(found, []string{q + " " + r}) {
				t.Fatalf("Div(%d, %d) = %q, %q, %d; want %v", a, b, q, r, err, found)
			}
		}
	}
}

func TestGcdDivides(t *testing.T) { // P3.5
	divides := func(d, n int) bool { return n == 0 || d != 0 && n%d == 0 }
	for a := -60; a <= 60; a++ {
		for b := -60; b <= 60; b++ {
			s, err := integer.Gcd(integer.FromInt(a), integer.FromInt(b))
			g, ok := integer.ToInt(s)
			if err != api.OK || ok != api.OK || g < 0 || !divides(g, a) || !divides(g, b) {
				t.Fatalf("Gcd(%d, %d) = %q, %d", a, b, s, err)
			}
			for d := range 61 {
				if divides(d, a) && divides(d, b) && !divides(d, g) {
					t.Fatalf("Gcd(%d, %d) = %d, which %d does not divide", a, b, g, d)
				}
			}
		}
	}
}

func TestGcdOfLongNumbers(t *testing.T) { // P3.5
	a, b := "0", "1" // neighbours of Fibonacci's take the most steps
	for len(b) < api.MaxDigits {
		next, _ := integer.Add(a, b)
		a, b = b, next
		if g, err := integer.Gcd(a, b); g != "1" || err != api.OK {
			t.Fatalf("Gcd(%s, %s) = %q, %d", a, b, g, err)
		}
	}
	random := rand.New(rand.NewSource(4))
	for range 2000 {
		c := someNumber(random, 90)
		x, y := new(big.Int).Mul(c, someNumber(random, 100)), new(big.Int).Mul(c, someNumber(random, 100))
		s, err := integer.Gcd(x.String(), y.String())
		g := number(t, s)
		for _, pair := range [][2]*big.Int{{x, g}, {y, g}, {g, c}} {
			n, d := pair[0], pair[1]
			if err != api.OK || d.Sign() != 0 && new(big.Int).Rem(n, d).Sign() != 0 || d.Sign() == 0 && n.Sign() != 0 {
				t.Fatalf("Gcd(%s, %s) = %s, %d: %s does not divide %s", x, y, g, err, d, n)
			}
		}
	}
}

func checkRoot(t *testing.T, n *big.Int) {
	t.Helper()
	s, err := integer.Root(n.String())
	if n.Sign() < 0 || !fits(n) {
		if s != "" || err != api.ErrInteger {
			t.Fatalf("Root(%s) = %q, %d; want ErrInteger", n, s, err)
		}
		return
	}
	root := number(t, s)
	next := new(big.Int).Add(root, big.NewInt(1))
	if err != api.OK || root.Sign() < 0 || s != root.String() || root.Mul(root, root).Cmp(n) > 0 || next.Mul(next, next).Cmp(n) <= 0 {
		t.Fatalf("Root(%s) = %s, %d", n, s, err)
	}
}

func TestRoot(t *testing.T) { // P3.1, P3.6
	for n := range int64(20000) {
		checkRoot(t, big.NewInt(n-100))
	}
	for _, n := range edges() {
		checkRoot(t, n)
	}
	random := rand.New(rand.NewSource(5))
	for range 2000 {
		checkRoot(t, someNumber(random, api.MaxDigits))
		root := someNumber(random, 100)
		square := new(big.Int).Mul(root, root)
		checkRoot(t, square)
		checkRoot(t, new(big.Int).Sub(square, big.NewInt(1)))
		twice := new(big.Int).Abs(root)
		last := square.Add(square, twice.Lsh(twice, 1)) // the last one before the next square
		checkRoot(t, last)
		checkRoot(t, last.Add(last, big.NewInt(1)))
	}
}

func TestCompare(t *testing.T) { // P3.1, P3.7
	pairs(func(a, b *big.Int) {
		if got := integer.Compare(a.String(), b.String()); got != a.Cmp(b) {
			t.Fatalf("Compare(%s, %s) = %d", a, b, got)
		}
	})
	random := rand.New(rand.NewSource(6))
	for range 5000 { // numbers that differ in one digit only
		a := someNumber(random, api.MaxDigits)
		digits := []byte(a.String())
		i := len(digits) - 1 - random.Intn(len(digits))
		if digits[i] != '-' && (i > 0 || digits[i] != '1') {
			digits[i] = '1' + byte(random.Intn(9))
		}
		b := number(t, string(digits))
		if got := integer.Compare(a.String(), b.String()); got != a.Cmp(b) {
			t.Fatalf("Compare(%s, %s) = %d", a, b, got)
		}
		checkOrder(t, a.String(), b.String(), someNumber(random, api.MaxDigits).String())
	}
}

// checkOrder checks that adding c keeps the order of a and b, and that the sign of their difference agrees with it.
func checkOrder(t *testing.T, a, b, c string) {
	t.Helper()
	order := integer.Compare(a, b)
	if integer.Compare(b, a) != -order || integer.Compare(a, a) != 0 || (order == 0) != (a == b) {
		t.Fatalf("Compare(%s, %s) = %d is no order", a, b, order)
	}
	if difference, err := integer.Sub(a, b); err == api.OK && integer.Compare(difference, "0") != order {
		t.Fatalf("Compare(%s, %s) = %d, but the difference is %s", a, b, order, difference)
	}
	x, err := integer.Add(a, c)
	y, other := integer.Add(b, c)
	if err == api.OK && other == api.OK && integer.Compare(x, y) != order {
		t.Fatalf("Compare(%s, %s) = %d, but not with %s added", a, b, order, c)
	}
}

// term is a sum or product of terms; a leaf is a function that returns a number.
type term func() (string, api.Errno)

func leaf(s string) term { return func() (string, api.Errno) { return s, api.OK } }

func both(f func(string, string) (string, api.Errno), x, y term) term {
	return func() (string, api.Errno) {
		a, err := x()
		b, other := y()
		if err != api.OK || other != api.OK {
			return "", api.ErrInteger
		}
		return f(a, b)
	}
}

func add(x, y term) term { return both(integer.Add, x, y) }
func mul(x, y term) term { return both(integer.Mul, x, y) }

func TestLaws(t *testing.T) { // P3.3
	random := rand.New(rand.NewSource(7))
	compared := 0
	for i := range 6000 {
		most := 20 + i%180
		a, b, c := leaf(someNumber(random, most).String()), leaf(someNumber(random, most).String()), leaf(someNumber(random, most).String())
		for law, sides := range [][2]term{
			{add(a, b), add(b, a)},
			{mul(a, b), mul(b, a)},
			{add(add(a, b), c), add(a, add(b, c))},
			{mul(mul(a, b), c), mul(a, mul(b, c))},
			{mul(a, add(b, c)), add(mul(a, b), mul(a, c))},
			{add(b, both(integer.Sub, a, b)), a},
			{both(integer.Sub, add(a, b), b), a},
		} {
			x, err := sides[0]()
			y, other := sides[1]()
			if err != api.OK || other != api.OK {
				continue
			}
			compared++
			if x != y {
				t.Fatalf("law %d: %s is not %s", law, x, y)
			}
		}
	}
	if compared < 25000 {
		t.Errorf("only %d sides were compared", compared)
	}
}

// Example shows that results are exact, and where a division rounds to.
func Example() {
	product, _ := integer.Mul("123456789012345678901234567", "-1000000000")
	q, r, _ := integer.Div(product, "10000000000")
	root, _ := integer.Root("99")
	_, err := integer.Root(product)
	fmt.Println(product, q, r, root, err == api.ErrInteger)
	// Output: -123456789012345678901234567000000000 -12345678901234567890123457 3000000000 9 true
}
