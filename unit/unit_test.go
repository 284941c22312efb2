package unit_test

import (
	"fmt"
	"math"
	"math/big"
	"math/rand"
	"regexp"
	"strconv"
	"strings"
	"testing"
	"unsafe"

	"latecomer/api"
	"latecomer/rational"
	"latecomer/unit"
	"latecomer/wire"
)

const nines = "999999999999999999999999999999999999999999999999999999999999" // the longest number that fits

// operations have for each operation the sign with which it takes the exponents of the second unit, which is 0 if both units must be the same.
var operations = []struct {
	name  string
	f     func(api.Quantity, api.Quantity) (api.Quantity, api.Errno)
	value func(api.Ratio, api.Ratio) (api.Ratio, api.Errno)
	sign  int
}{
	{"Add", unit.Add, rational.Add, 0},
	{"Sub", unit.Sub, rational.Sub, 0},
	{"Mul", unit.Mul, rational.Mul, 1},
	{"Div", unit.Div, rational.Div, -1},
}

// ratio returns the fraction n / d, which need not be valid.
func ratio(n, d string) api.Ratio { return api.Ratio{Num: n, Den: d} }

// fraction returns the valid fraction whose text is s.
func fraction(s string) api.Ratio {
	r, err := rational.Parse(s)
	if err != api.OK {
		panic(s)
	}
	return r
}

// quantity returns the quantity with the value whose text is s and these exponents.
func quantity(s string, time, bytes, money, count int) api.Quantity {
	return api.Quantity{Value: fraction(s), Unit: units(time, bytes, money, count)}
}

func units(time, bytes, money, count int) api.Unit {
	return api.Unit{Time: time, Byte: bytes, Money: money, Count: count}
}

// exponents returns pointers to the exponents of u, in the order of the chapter.
func exponents(u *api.Unit) []*int { return []*int{&u.Time, &u.Byte, &u.Money, &u.Count} }

func power(n int) *big.Int { return new(big.Int).Exp(big.NewInt(10), big.NewInt(int64(n)), nil) }

func isUnit(u api.Unit) bool {
	for _, e := range exponents(&u) {
		if *e < -3 || *e > 3 {
			return false
		}
	}
	return true
}

var short = regexp.MustCompile(`^-?[0-9]{1,60}$`)

// isValid reports whether q is valid, as the chapter defines it.
func isValid(q api.Quantity) bool {
	return isUnit(q.Unit) && rational.Valid(q.Value) && short.MatchString(q.Value.Num) && short.MatchString(q.Value.Den)
}

// result returns what the chapter says that an operation returns.
func result(value func(api.Ratio, api.Ratio) (api.Ratio, api.Errno), sign int, a, b api.Quantity) (api.Quantity, api.Errno) {
	refused := !isValid(a) || !isValid(b) || sign == 0 && a.Unit != b.Unit
	want := api.Quantity{Unit: a.Unit}
	for i, e := range exponents(&want.Unit) {
		*e += sign * *exponents(&b.Unit)[i]
	}
	v, err := value(a.Value, b.Value)
	want.Value = v
	if refused || err != api.OK || !isValid(want) {
		return api.Quantity{}, api.ErrUnit
	}
	return want, api.OK
}

// order returns what Compare returns for values of one unit.
func order(a, b api.Ratio) int {
	value := func(r api.Ratio) *big.Rat {
		v, _ := new(big.Rat).SetString(r.Num + "/" + r.Den)
		return v
	}
	return value(a).Cmp(value(b))
}

// someUnit returns a unit whose exponents have at most this size.
func someUnit(random *rand.Rand, size int) api.Unit {
	var u api.Unit
	for _, e := range exponents(&u) {
		*e = random.Intn(2*size+1) - size
	}
	return u
}

// someFraction returns a fraction of which Num and Den have at most so many digits.
func someFraction(random *rand.Rand, digits int) api.Ratio {
	n := new(big.Int).Rand(random, power(1+random.Intn(digits)))
	d := new(big.Int).Rand(random, power(1+random.Intn(digits)))
	if random.Intn(3) == 0 || d.Sign() == 0 {
		d.SetInt64(1)
	}
	if random.Intn(2) == 0 {
		n.Neg(n)
	}
	r := new(big.Rat).SetFrac(n, d)
	return ratio(r.Num().String(), r.Denom().String())
}

func someQuantity(random *rand.Rand, digits, size int) api.Quantity {
	return api.Quantity{Value: someFraction(random, digits), Unit: someUnit(random, size)}
}

// allUnits returns all valid units.
func allUnits() []api.Unit {
	list := []api.Unit{{}}
	for i := range exponents(&api.Unit{}) {
		var longer []api.Unit
		for _, u := range list {
			for e := -api.MaxExponent; e <= api.MaxExponent; e++ {
				*exponents(&u)[i] = e
				longer = append(longer, u)
			}
		}
		list = longer
	}
	return list
}

// wrongUnits returns units with one exponent that is too great or too small, and some with several ones.
func wrongUnits() []api.Unit {
	list := []api.Unit{units(4, 4, 4, 4), units(-4, 4, -4, 4)}
	for i := range exponents(&api.Unit{}) {
		for _, e := range []int{4, -4, 5, -5, 6, 100, 1 << 32, -1 << 32, math.MaxInt, math.MinInt} {
			for _, u := range []api.Unit{{}, units(1, 2, 3, -3)} {
				*exponents(&u)[i] = e
				list = append(list, u)
			}
		}
	}
	return list
}

// longest are values of which a part has as many digits as it may have.
func longest() []api.Ratio {
	return []api.Ratio{
		ratio(nines, "1"), ratio("-"+nines, "1"), ratio("1", nines), ratio("-1", nines), ratio(nines[1:]+"8", nines), ratio("-"+nines[1:]+"8", nines),
		ratio(power(59).String(), "1"), ratio("1", power(59).String()), ratio("-"+power(59).String(), nines),
	}
}

// wrongValues are no valid fractions, or fractions that do not fit.
func wrongValues() []api.Ratio {
	list := []api.Ratio{
		{}, ratio("1", ""), ratio("", "1"), ratio("1", "0"), ratio("0", "0"), ratio("0", "2"), ratio("1", "-1"), ratio("2", "4"), ratio("-6", "3"),
		ratio("01", "1"), ratio("+1", "1"), ratio("-0", "1"), ratio("--1", "1"), ratio("1", "01"), ratio("1", "+2"), ratio("1 ", "1"), ratio("a", "1"), ratio("1", "a"),
		ratio("-", "1"), ratio("1/2", "1"), ratio("1", "2/3"), ratio(strings.Repeat("1", 1<<20), "1"), ratio("1", strings.Repeat("3", 1<<20)),
	}
	for _, digits := range []int{61, 62, 120, 199, 200, 201} {
		n := strings.Repeat("7", digits)
		list = append(list, ratio(n, "1"), ratio("-"+n, "1"), ratio("1", n), ratio("-1", n), ratio(n, "2"), ratio("2", n))
	}
	return append(list, ratio(power(60).String(), "1"), ratio("-"+power(60).String(), "1"), ratio("1", power(60).String()))
}

// wrongQuantities are quantities that are not valid.
func wrongQuantities() []api.Quantity {
	var list []api.Quantity
	for _, v := range wrongValues() {
		list = append(list, api.Quantity{Value: v}, api.Quantity{Value: v, Unit: units(1, -2, 3, 0)}, api.Quantity{Value: v, Unit: units(0, 0, 0, 4)})
	}
	for _, u := range wrongUnits() {
		list = append(list, api.Quantity{Value: fraction("1"), Unit: u}, api.Quantity{Value: fraction("0"), Unit: u}, api.Quantity{Value: fraction("-2/3"), Unit: u})
	}
	return list
}

// quantities are valid ones, of all sizes.
func quantities() []api.Quantity {
	var list []api.Quantity
	for i, u := range []api.Unit{{}, units(1, 0, 0, 0), units(0, 1, 0, 0), units(0, 0, 1, 0), units(0, 0, 0, 1), units(1, -1, 0, 0), units(3, 3, 3, 3), units(-3, -3, -3, -3), units(1, 2, 3, -1), units(-2, 0, 2, 0)} {
		for _, s := range []string{"0", "1", "-1", "2", "1/2", "-2/3", "3/2", "1000000007/3"} {
			list = append(list, api.Quantity{Value: fraction(s), Unit: u})
		}
		list = append(list, api.Quantity{Value: longest()[i%len(longest())], Unit: u})
	}
	for _, v := range longest() {
		list = append(list, api.Quantity{Value: v, Unit: units(0, 1, 0, 0)})
	}
	random := rand.New(rand.NewSource(1))
	for i := range 200 {
		list = append(list, someQuantity(random, 1+i%60, 3))
	}
	return list
}

func TestExamples(t *testing.T) { // P5.1
	if s := unit.Print(quantity("3/2", 1, -1, 0, 0)); s != "3/2 us byte^-1" {
		t.Errorf("Print of 3/2 with Time 1 and Byte -1 = %q", s)
	}
	type outcome struct {
		q   api.Quantity
		err api.Errno
	}
	of := func(q api.Quantity, err api.Errno) outcome { return outcome{q, err} }
	refused := outcome{err: api.ErrUnit}
	microseconds := func(s string) api.Quantity { return quantity(s, 1, 0, 0, 0) }
	for i, c := range []struct{ got, want outcome }{
		{of(unit.Add(microseconds("1"), microseconds("1/2"))), outcome{q: microseconds("3/2")}},
		{of(unit.Add(microseconds("1"), quantity("1", 0, 1, 0, 0))), refused},
		{of(unit.Mul(microseconds("2"), microseconds("3"))), outcome{q: quantity("6", 2, 0, 0, 0)}},
		{of(unit.Div(quantity("6", 0, 0, 1, 0), microseconds("3"))), outcome{q: quantity("2", -1, 0, 1, 0)}},
		{of(unit.Div(microseconds("1"), microseconds("0"))), refused},
		{of(unit.Mul(quantity("1", 2, 0, 0, 0), quantity("1", 2, 0, 0, 0))), refused},
		{of(unit.Parse("5")), outcome{q: quantity("5", 0, 0, 0, 0)}},
		{of(unit.Parse("5 us^1")), refused},
		{of(unit.Parse("5 byte us")), refused},
	} {
		if c.got != c.want {
			t.Errorf("example %d = %v, want %v", i, c.got, c.want)
		}
	}
	if s := unit.Print(quantity("2", -1, 0, 1, 0)); s != "2 us^-1 cent" {
		t.Errorf("2 cent us^-1 is printed %q", s)
	}
}

func TestValidUnit(t *testing.T) { // P5.1
	for _, u := range allUnits() {
		if !unit.ValidUnit(u) || !unit.Valid(api.Quantity{Value: fraction("0"), Unit: u}) {
			t.Errorf("%v is not valid", u)
		}
	}
	for _, u := range wrongUnits() {
		if unit.ValidUnit(u) || unit.Valid(api.Quantity{Value: fraction("1"), Unit: u}) {
			t.Errorf("%v is valid", u)
		}
	}
}

func TestValid(t *testing.T) { // P5.1
	for _, q := range quantities() {
		if !unit.Valid(q) {
			t.Errorf("%v is not valid", q)
		}
	}
	for _, q := range wrongQuantities() {
		if unit.Valid(q) {
			t.Errorf("%.300v is valid", q)
		}
	}
	random := rand.New(rand.NewSource(2))
	for digits := 1; digits <= api.MaxDigits; digits++ {
		q := someQuantity(random, digits, 4)
		if unit.Valid(q) != isValid(q) {
			t.Errorf("Valid(%v) = %v", q, !isValid(q))
		}
	}
}

// checkPair checks what all operations and Compare return for a and b.
func checkPair(t *testing.T, a, b api.Quantity) {
	t.Helper()
	for _, op := range operations {
		got, err := op.f(a, b)
		want, other := result(op.value, op.sign, a, b)
		if got != want || err != other {
			t.Fatalf("%s(%v, %v) = %v, %d; want %v, %d", op.name, a, b, got, err, want, other)
		}
	}
	want, other := 0, api.ErrUnit
	if isValid(a) && isValid(b) && a.Unit == b.Unit {
		want, other = order(a.Value, b.Value), api.OK
	}
	if got, err := unit.Compare(a, b); got != want || err != other {
		t.Fatalf("Compare(%v, %v) = %d, %d; want %d, %d", a, b, got, err, want, other)
	}
}

func TestOperations(t *testing.T) { // P5.1, P5.4
	list := quantities()
	for i, a := range list {
		for j := i % 7; j < len(list); j += 7 {
			checkPair(t, a, list[j])
		}
		checkPair(t, a, a)
	}
	random := rand.New(rand.NewSource(3))
	for i := range 1500 {
		a, b := someQuantity(random, 1+i%62, 3), someQuantity(random, 62-i%62, 3)
		checkPair(t, a, b)
		b.Unit = a.Unit
		checkPair(t, a, b)
		b.Value = fraction("0")
		checkPair(t, a, b)
	}
}

func TestOperationsRefuse(t *testing.T) { // P5.1
	valid := []api.Quantity{quantity("1", 0, 0, 0, 0), quantity("0", 0, 0, 0, 0), quantity("-2/3", 1, -2, 3, 0), quantity(nines, 0, 0, 0, 0)}
	for _, wrong := range wrongQuantities() {
		for _, q := range append(valid, wrong, api.Quantity{Value: fraction("1"), Unit: wrong.Unit}) {
			for _, op := range operations {
				got, err := op.f(wrong, q)
				other, otherErr := op.f(q, wrong)
				if got != (api.Quantity{}) || err != api.ErrUnit || other != (api.Quantity{}) || otherErr != api.ErrUnit {
					t.Fatalf("%s of %.300v and %v = %v, %d or %v, %d", op.name, wrong, q, got, err, other, otherErr)
				}
			}
			got, err := unit.Compare(wrong, q)
			other, otherErr := unit.Compare(q, wrong)
			if got != 0 || err != api.ErrUnit || other != 0 || otherErr != api.ErrUnit {
				t.Fatalf("Compare of %.300v and %v = %d, %d or %d, %d", wrong, q, got, err, other, otherErr)
			}
		}
	}
}

// TestLongResults checks results of exactly 60 digits, and of one more.
func TestLongResults(t *testing.T) { // P5.1
	ten := func(n int) string { return power(n).String() }
	for _, c := range []struct {
		f          func(api.Quantity, api.Quantity) (api.Quantity, api.Errno)
		a, b, want string
	}{
		{unit.Add, nines[:59] + "8", "1", nines}, {unit.Add, nines, "1", ""}, {unit.Add, "-" + nines, "-1", ""}, {unit.Add, nines, "-" + nines, "0"},
		{unit.Add, "1/" + ten(59), "1/" + ten(59), "1/5" + ten(58)[1:]}, {unit.Add, "1/" + ten(59), "1/11", ""},
		{unit.Sub, "-" + nines[:59] + "8", "1", "-" + nines}, {unit.Sub, "-" + nines, "1", ""}, {unit.Sub, nines, "-1", ""}, {unit.Sub, "1/" + nines, "1/" + nines, "0"},
		{unit.Mul, ten(30), ten(29), ten(59)}, {unit.Mul, ten(30), ten(30), ""}, {unit.Mul, "-" + ten(30), ten(29), "-" + ten(59)}, {unit.Mul, "-" + ten(30), ten(30), ""},
		{unit.Mul, "1/" + ten(30), "1/" + ten(29), "1/" + ten(59)}, {unit.Mul, "1/" + ten(30), "1/" + ten(30), ""}, {unit.Mul, nines, "1/" + nines, "1"},
		{unit.Div, ten(30), "1/" + ten(29), ten(59)}, {unit.Div, ten(30), "1/" + ten(30), ""}, {unit.Div, "1", nines, "1/" + nines}, {unit.Div, "1/10", nines, ""},
		{unit.Div, nines, nines, "1"}, {unit.Div, nines, "-" + nines, "-1"},
	} {
		want, err := api.Quantity{}, api.ErrUnit
		if c.want != "" {
			want, err = quantity(c.want, 0, 0, 0, 0), api.OK
		}
		if got, other := c.f(quantity(c.a, 0, 0, 0, 0), quantity(c.b, 0, 0, 0, 0)); got != want || other != err {
			t.Errorf("%s and %s make %v, %d; want %v, %d", c.a, c.b, got, other, want, err)
		}
	}
}

// TestDimensions checks for all pairs of exponents, and for many pairs of units, that values change nothing in them.
func TestDimensions(t *testing.T) { // P5.3
	values := []api.Ratio{fraction("1"), fraction("-1"), fraction("2/3"), fraction("-1000")}
	check := func(u, v api.Unit) {
		for i, x := range values {
			a, b := api.Quantity{Value: x, Unit: u}, api.Quantity{Value: values[(i+1)%len(values)], Unit: v}
			checkPair(t, a, b)
			product, err := unit.Mul(a, b)
			if sum := units(u.Time+v.Time, u.Byte+v.Byte, u.Money+v.Money, u.Count+v.Count); isUnit(sum) != (err == api.OK) || err == api.OK && product.Unit != sum {
				t.Fatalf("the unit of the product of %v and %v is %v, %d", a, b, product.Unit, err)
			}
			if back, other := unit.Div(product, b); err == api.OK && (back != a || other != api.OK) {
				t.Fatalf("%v by %v is %v, %d", product, b, back, other)
			}
			if sum, err := unit.Add(a, b); u == v && sum.Unit != u || u != v && err != api.ErrUnit {
				t.Fatalf("Add(%v, %v) = %v, %d", a, b, sum, err)
			}
		}
		nothing := api.Quantity{Value: fraction("0"), Unit: u}
		if sum, err := unit.Add(nothing, api.Quantity{Value: fraction("0"), Unit: v}); u != v && (sum != (api.Quantity{}) || err != api.ErrUnit) {
			t.Fatalf("0 of %v and 0 of %v make %v, %d", u, v, sum, err)
		}
	}
	for i := range exponents(&api.Unit{}) {
		for x := -3; x <= 3; x++ {
			for y := -3; y <= 3; y++ {
				var u, v api.Unit
				*exponents(&u)[i], *exponents(&v)[i] = x, y
				check(u, v)
				*exponents(&u)[(i+1)%4] = 1
				check(u, v)
			}
		}
	}
	random := rand.New(rand.NewSource(4))
	for range 2000 {
		u := someUnit(random, 3)
		check(u, u)
		check(u, someUnit(random, 1+random.Intn(3)))
	}
}

func TestField(t *testing.T) { // P5.2
	type calculation func(api.Quantity, api.Quantity) (api.Quantity, api.Errno)
	failed := false
	do := func(f calculation, a, b api.Quantity) api.Quantity {
		q, err := f(a, b)
		failed = failed || err != api.OK
		return q
	}
	var add, sub, mul, div calculation = unit.Add, unit.Sub, unit.Mul, unit.Div
	random := rand.New(rand.NewSource(5))
	compared := make([]int, 9)
	for i := range 4000 {
		digits := 1 + i%25
		a, b, c := someQuantity(random, digits, 1), someQuantity(random, digits, 1), someQuantity(random, digits, 1)
		a2, a3 := a, a
		a2.Value, a3.Value = someFraction(random, digits), someFraction(random, digits)
		for law, sides := range []func() (api.Quantity, api.Quantity){
			func() (api.Quantity, api.Quantity) { return do(add, a, a2), do(add, a2, a) },
			func() (api.Quantity, api.Quantity) { return do(mul, a, b), do(mul, b, a) },
			func() (api.Quantity, api.Quantity) { return do(add, do(add, a, a2), a3), do(add, a, do(add, a2, a3)) },
			func() (api.Quantity, api.Quantity) { return do(mul, do(mul, a, b), c), do(mul, a, do(mul, b, c)) },
			func() (api.Quantity, api.Quantity) {
				return do(mul, b, do(add, a, a2)), do(add, do(mul, b, a), do(mul, b, a2))
			},
			func() (api.Quantity, api.Quantity) { return do(sub, do(add, a, a2), a2), a },
			func() (api.Quantity, api.Quantity) { return do(add, do(sub, a, a2), a2), a },
			func() (api.Quantity, api.Quantity) { return do(div, do(mul, a, b), b), a }, // refused if b is 0
			func() (api.Quantity, api.Quantity) { return do(mul, do(div, a, b), b), a },
		} {
			failed = false
			x, y := sides()
			if failed {
				continue
			}
			compared[law]++
			if x != y {
				t.Fatalf("law %d: %v is not %v", law, x, y)
			}
		}
	}
	for law, n := range compared {
		if n < 1000 {
			t.Errorf("the sides of law %d were compared only %d times", law, n)
		}
	}
}

func TestOrder(t *testing.T) { // P5.4
	random := rand.New(rand.NewSource(6))
	compare := func(a, b api.Quantity) int {
		n, err := unit.Compare(a, b)
		if err != api.OK {
			t.Fatalf("Compare(%v, %v) returned error %d", a, b, err)
		}
		return n
	}
	for i := range 3000 {
		a := someQuantity(random, 1+i%29, 3)
		b, c := a, a
		b.Value, c.Value = someFraction(random, 1+i%29), someFraction(random, 1+i%7)
		if compare(a, b) != -compare(b, a) || compare(a, a) != 0 || (compare(a, b) == 0) != (a == b) {
			t.Fatalf("%v and %v have no order", a, b)
		}
		if compare(a, b) <= 0 && compare(b, c) <= 0 && compare(a, c) > 0 {
			t.Fatalf("the order of %v, %v and %v is not transitive", a, b, c)
		}
		x, err := unit.Add(a, c)
		y, other := unit.Add(b, c)
		if err == api.OK && other == api.OK && compare(x, y) != compare(a, b) {
			t.Fatalf("adding %v changes the order of %v and %v", c, a, b)
		}
	}
}

// textOf returns the text of q as the chapter defines it.
func textOf(q api.Quantity) string {
	text := rational.Print(q.Value)
	for i, word := range strings.Fields("us byte cent one") {
		if e := *exponents(&q.Unit)[i]; e == 1 {
			text += " " + word
		} else if e != 0 {
			text += fmt.Sprintf(" %s^%d", word, e)
		}
	}
	return text
}

func TestTexts(t *testing.T) { // P5.1, P5.5
	list := quantities()
	for i, u := range allUnits() {
		for _, v := range []api.Ratio{fraction("0"), fraction("-1"), fraction("12/7"), longest()[i%len(longest())]} {
			list = append(list, api.Quantity{Value: v, Unit: u})
		}
	}
	printed := map[string]api.Quantity{}
	for _, q := range list {
		s := unit.Print(q)
		if s != textOf(q) {
			t.Fatalf("Print(%v) = %q", q, s)
		}
		if other, ok := printed[s]; ok && other != q {
			t.Fatalf("%v and %v have the text %q", q, other, s)
		}
		printed[s] = q
		if again, err := unit.Parse(s); again != q || err != api.OK {
			t.Fatalf("Parse(%q) = %v, %d", s, again, err)
		}
	}
}

func TestPrintRefuses(t *testing.T) { // P5.1
	for _, q := range wrongQuantities() {
		if s := unit.Print(q); s != "" {
			t.Errorf("Print(%.300v) = %.300q", q, s)
		}
	}
}

// pattern is the definition of a text, but for its value.
var pattern = regexp.MustCompile(`^([0-9/-]+)( us)?(\^-?[0-9]+)?( byte)?(\^-?[0-9]+)?( cent)?(\^-?[0-9]+)?( one)?(\^-?[0-9]+)?$`)

// quantityIn returns the quantity whose text is s, and whether there is one.
func quantityIn(s string) (api.Quantity, bool) {
	parts := pattern.FindStringSubmatch(s)
	if parts == nil {
		return api.Quantity{}, false
	}
	value, err := rational.Parse(parts[1])
	q := api.Quantity{Value: value}
	for i, e := range exponents(&q.Unit) {
		word, exponent := parts[2+2*i], parts[3+2*i]
		if word != "" && exponent == "" {
			*e = 1
		} else if exponent != "" {
			*e, _ = strconv.Atoi(exponent[1:])
		}
	}
	if err != api.OK || !isValid(q) || textOf(q) != s {
		return api.Quantity{}, false
	}
	return q, true
}

// checkParse checks what Parse returns for s, and returns whether it is a text.
func checkParse(t *testing.T, s string) bool {
	t.Helper()
	want, ok := quantityIn(s)
	got, err := unit.Parse(s)
	if ok && (got != want || err != api.OK) || !ok && (got != (api.Quantity{}) || err != api.ErrUnit) {
		t.Fatalf("Parse(%.300q) = %v, %d; want %v", s, got, err, want)
	}
	return ok
}

func TestParseRefuses(t *testing.T) { // P5.1, P5.5
	for _, s := range []string{
		"", " ", "us", " us", "5 ", " 5", "5  us", "5 us ", "5us", "5 us\n", "5\tus", "5 us byte ", "5 us  byte", "+5 us", "05", "5/1 us", "10/4 us", "1/0 us", "5.0", // spaces and values
		"5 us^1", "5 us^0", "5 us^", "5 us^ byte", "5 us^-", "5 us^-1-", "5 us^+2", "5 us^02", "5 us^-0", "5 us^4", "5 us^-4", "5 us^22", "5 us^-11", "5 us^-33", "5 us^2^2", "5 us^ 2", "5 us ^2", "5^2", "5 ^2", // exponents
		"5 byte us", "5 one cent", "5 us us", "5 us us^2", "5 us^2 us", "5 one us", "5 cent^2 byte", // the order
		"5 US", "5 usd", "5 u", "5 bytes", "5 b", "5 cents", "5 ones", "5 ous", "5 one^2 x", "5 x", "5 1", "5 us/byte", "5 us*byte", "5 usbyte", "5 us^2byte", "5\x00", "5 us\x00", "\xff", // words
		nines + "0", "-" + nines + "0", "1/" + nines + "0", nines + "0 us", // what does not fit
		strings.Repeat("1", 1<<20), "1" + strings.Repeat(" us", 1<<18), strings.Repeat(" ", 1<<20), "5 us^" + strings.Repeat("2", 1<<20), // long ones
	} {
		if q, err := unit.Parse(s); q != (api.Quantity{}) || err != api.ErrUnit {
			t.Errorf("Parse(%.300q) = %v, %d", s, q, err)
		}
	}
	for _, v := range wrongValues() {
		if len(v.Num)+len(v.Den) > 1000 {
			continue
		}
		for _, s := range []string{v.Num + "/" + v.Den, v.Num, "1/" + v.Den} {
			checkParse(t, s)
			checkParse(t, s+" us^2 one^-1")
		}
	}
}

// TestParseOfChangedTexts checks texts in which a character, or several of them, are removed, added or replaced.
func TestParseOfChangedTexts(t *testing.T) { // P5.1, P5.5
	random := rand.New(rand.NewSource(7))
	pieces := []string{"", " ", "^", "-", "/", "0", "1", "2", "3", "4", "9", "^2", "^-3", "^1", "^0", " us", " byte", " cent", " one", "us", "one", "\x00"}
	texts := 0
	for range 60000 {
		s := textOf(someQuantity(random, 3, 3))
		for range 1 + random.Intn(2) {
			from := random.Intn(len(s) + 1)
			to := min(len(s), from+random.Intn(4))
			s = s[:from] + pieces[random.Intn(len(pieces))] + s[to:]
		}
		if checkParse(t, s) {
			texts++
		}
	}
	if texts < 1000 || texts > 59000 {
		t.Errorf("%d changed texts are texts", texts)
	}
}

// encode returns the encoding of q as the chapter defines it, of whatever quantity.
func encode(q api.Quantity) string {
	num, _ := wire.PutString(q.Value.Num)
	den, _ := wire.PutString(q.Value.Den)
	s := num + den
	for _, e := range exponents(&q.Unit) {
		part, _ := wire.PutInt(*e)
		s += part
	}
	return s
}

func checkDecode(t *testing.T, s string, at int, want api.Quantity, end int, err api.Errno) {
	t.Helper()
	if got, next, other := unit.Decode(s, at); got != want || next != end || other != err {
		t.Fatalf("Decode(%.200x, %d) = %v, %d, %d; want %v, %d, %d", s, at, got, next, other, want, end, err)
	}
}

func TestEncodings(t *testing.T) { // P5.1, P5.5
	if s, err := unit.Encode(quantity("-3/2", 1, -1, 0, 3)); s != "\x04-3\x022\x02\x01\x00\x06" || err != api.OK {
		t.Errorf("Encode of -3/2 us byte^-1 one^3 = %x, %d", s, err)
	}
	list := quantities()
	for _, u := range allUnits() {
		list = append(list, api.Quantity{Value: fraction("-12/7"), Unit: u})
	}
	surroundings := []string{"", "\x00", "\x02", "\x80", "\xff\xff\xff\xff\xff\xff\xff\xff\xff\xff", "\x041", encode(quantity("5", 1, 0, 0, 0))}
	encoded := map[string]api.Quantity{}
	for i, q := range list {
		s, err := unit.Encode(q)
		if s != encode(q) || err != api.OK {
			t.Fatalf("Encode(%v) = %x, %d", q, s, err)
		}
		if other, ok := encoded[s]; ok && other != q {
			t.Fatalf("%v and %v have the encoding %x", q, other, s)
		}
		encoded[s] = q
		for j, before := range surroundings {
			after := surroundings[(i+j)%len(surroundings)]
			checkDecode(t, before+s+after, len(before), q, len(before)+len(s), api.OK)
		}
		for end := range len(s) {
			checkDecode(t, s[:end], 0, api.Quantity{}, 0, api.ErrUnit)
		}
	}
}

func TestEncodingsInARow(t *testing.T) { // P5.5
	list, all, at := quantities(), "", 0
	for _, q := range list {
		s, _ := unit.Encode(q)
		all += s
	}
	for _, q := range list {
		got, next, err := unit.Decode(all, at)
		if got != q || err != api.OK {
			t.Fatalf("Decode at %d = %v, %d; want %v", at, got, err, q)
		}
		at = next
	}
	if at != len(all) {
		t.Errorf("decoding ends at %d of %d", at, len(all))
	}
}

func TestEncodeRefuses(t *testing.T) { // P5.1
	for _, q := range wrongQuantities() {
		if s, err := unit.Encode(q); s != "" || err != api.ErrUnit {
			t.Errorf("Encode(%.300v) = %.300q, %d", q, s, err)
		}
		checkDecode(t, encode(q), 0, api.Quantity{}, 0, api.ErrUnit)
		checkDecode(t, "ab"+encode(q)+"ab", 2, api.Quantity{}, 0, api.ErrUnit)
	}
}

func TestDecodeRefuses(t *testing.T) { // P5.1
	s := encode(quantity("-3/2", 1, -1, 0, 3))
	for _, at := range []int{-1, -2, len(s) + 1, len(s) + 2, math.MaxInt, math.MinInt} {
		checkDecode(t, s, at, api.Quantity{}, 0, api.ErrArg)
		checkDecode(t, "", at, api.Quantity{}, 0, api.ErrArg) // which is none whatever at is
	}
	checkDecode(t, "", 1, api.Quantity{}, 0, api.ErrArg)
	checkDecode(t, "", 0, api.Quantity{}, 0, api.ErrUnit)
	for at := 1; at <= len(s); at++ {
		checkDecode(t, s, at, api.Quantity{}, 0, api.ErrUnit)
	}
	for _, other := range []string{
		"\x041\x022\x02\x01\x00\x06", "\x84\x00-3\x022\x02\x01\x00\x06", "\x03-3\x022\x02\x01\x00\x06", "\x04-3\x042\x02\x01\x00\x06", // no strings
		"\x04-3\x022\x82\x00\x01\x00\x06", "\x04-3\x022\x02\x01\x80\x00\x06", "\x04-3\x022\x02\x01\x00\x86", // no integers
		"\x04-3\x022\x08\x01\x00\x06", "\x04-3\x022\x02\x01\x00\x07", "\x04-3\x022\xfe\xff\xff\xff\xff\xff\xff\xff\x7f\x01\x00\x06", // no exponents
		"\x04-4\x022\x02\x01\x00\x06", "\x04-3\x020\x02\x01\x00\x06", "\x00\x00\x00\x00\x00\x00", "\x04-0\x021\x00\x00\x00\x00", // no fractions
	} {
		checkDecode(t, other, 0, api.Quantity{}, 0, api.ErrUnit)
	}
}

// TestDecodeOfChangedEncodings checks that what Decode accepts is what Encode returns.
func TestDecodeOfChangedEncodings(t *testing.T) { // P5.1, P5.5
	const changed = "\x00\x01\x02\x03\x04\x06\x07\x08\x80\x82\xff0123459-"
	random := rand.New(rand.NewSource(8))
	accepted := 0
	for range 60000 {
		b := []byte(encode(someQuantity(random, 2, 3)))
		for range 1 + random.Intn(2) {
			b[random.Intn(len(b))] = changed[random.Intn(len(changed))]
		}
		q, next, err := unit.Decode(string(b), 0)
		if err == api.ErrUnit && q == (api.Quantity{}) && next == 0 {
			continue
		}
		accepted++
		if s, other := unit.Encode(q); err != api.OK || other != api.OK || !isValid(q) || next > len(b) || s != string(b[:next]) {
			t.Fatalf("Decode(%x) = %v, %d, %d, but Encode returns %x, %d", b, q, next, err, s, other)
		}
	}
	if accepted < 1000 || accepted > 59000 {
		t.Errorf("%d changed encodings are accepted", accepted)
	}
}

// TestNewMemory checks that what is taken over from an argument is copied (rule R3).
func TestNewMemory(t *testing.T) { // P5.1
	const digits = "-123456789/1234"
	text := strings.Clone(digits + " us")
	q, _ := unit.Parse(text)
	if within(q.Value.Num, text) || within(q.Value.Den, text) {
		t.Errorf("Parse returns a part of its argument")
	}
	whole := quantity("123456789", 0, 0, 0, 0)
	if within(unit.Print(whole), whole.Value.Num) {
		t.Errorf("Print returns a part of its argument")
	}
	encoding, _ := unit.Encode(q)
	decoded, _, _ := unit.Decode(encoding, 0)
	if within(decoded.Value.Num, encoding) || within(decoded.Value.Den, encoding) {
		t.Errorf("Decode returns a part of its argument")
	}
	nothing, one := quantity("0", 0, 0, 0, 0), quantity("1", 0, 0, 0, 0)
	for i, op := range operations {
		neutral := []api.Quantity{nothing, nothing, one, one}[i]
		if r, _ := op.f(whole, neutral); r != whole || within(r.Value.Num, whole.Value.Num) {
			t.Errorf("%s returns a part of its argument", op.name)
		}
	}
}

// within reports whether the memory of s begins in that of all.
func within(s, all string) bool {
	from, begin := uintptr(unsafe.Pointer(unsafe.StringData(s))), uintptr(unsafe.Pointer(unsafe.StringData(all)))
	return from >= begin && from < begin+uintptr(len(all))
}

// Example calculates how long a message takes, and what that costs.
func Example() {
	size, _ := unit.Parse("1500 byte")
	rate, _ := unit.Parse("1/8 us byte^-1")
	price, _ := unit.Parse("2/5 us^-1 cent")
	time, _ := unit.Mul(size, rate)
	cost, _ := unit.Mul(time, price)
	_, err := unit.Add(time, cost)
	order, _ := unit.Compare(cost, cost)
	fmt.Println(unit.Print(time)+",", unit.Print(cost)+",", order, err == api.ErrUnit)
	// Output: 375/2 us, 75 cent, 0 true
}
