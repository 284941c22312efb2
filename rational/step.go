package rational

import (
	"latecomer/api"
	"latecomer/integer"
)

// step is a part of a calculation: it makes the next numerator and denominator of those before it.
type step func(num, den string) (string, string, api.Errno)

// build returns what the steps make of num and den, one after the other, reduced. After an error, the other steps are skipped.
func build(num, den string, steps ...step) (api.Ratio, api.Errno) {
	err := api.OK
	for _, next := range append(steps, unsigned, lowest) {
		if err == api.OK {
			num, den, err = next(num, den)
		}
	}
	if err != api.OK {
		return api.Ratio{}, api.ErrRational
	}
	return api.Ratio{Num: num, Den: den}, api.OK
}

// times multiplies num by n, and den by d.
func times(n, d string) step {
	return func(num, den string) (string, string, api.Errno) {
		num, err := integer.Mul(num, n)
		if err != api.OK {
			return "", "", err
		}
		den, err = integer.Mul(den, d)
		return num, den, err
	}
}

// with replaces num by what f returns for it and the product of n and d.
func with(f func(string, string) (string, api.Errno), n, d string) step {
	return func(num, den string) (string, string, api.Errno) {
		product, err := integer.Mul(n, d)
		if err != api.OK {
			return "", "", err
		}
		num, err = f(num, product)
		return num, den, err
	}
}

// floor makes the greatest whole number that is not greater.
func floor(num, den string) (string, string, api.Errno) {
	whole, _, err := integer.Div(num, den)
	return whole, "1", err
}

// ceiling makes the smallest whole number that is not less.
func ceiling(num, den string) (string, string, api.Errno) {
	whole, rest, err := integer.Div(num, den)
	if err == api.OK && rest != "0" {
		whole, err = integer.Add(whole, "1")
	}
	return whole, "1", err
}

// unsigned makes den positive; it must not be 0.
func unsigned(num, den string) (string, string, api.Errno) {
	switch integer.Compare(den, "0") {
	case 1:
		return num, den, api.OK
	case 0: // den is 0, or no valid integer
		return "", "", api.ErrRational
	}
	num, err := integer.Sub("0", num)
	if err != api.OK {
		return "", "", err
	}
	den, err = integer.Sub("0", den)
	return num, den, err
}

// lowest divides num and den, which is not 0, by their greatest common divisor.
func lowest(num, den string) (string, string, api.Errno) {
	divisor, err := integer.Gcd(num, den)
	if err != api.OK {
		return "", "", err
	}
	num, _, err = integer.Div(num, divisor)
	if err != api.OK {
		return "", "", err
	}
	den, _, err = integer.Div(den, divisor)
	return num, den, err
}
