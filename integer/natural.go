package integer

import (
	"cmp"
	"slices"
	"sort"
	"strconv"
)

const (
	groupDigits = 4
	base        = 10000 // a group has one of so many values
	wordGroups  = 4     // a number of so many groups fits into an int
)

// natural is a number that is not negative, in groups of four digits, of which the last ones come first. The group with the greatest index is not 0, so that 0 has no groups.
type natural []int

// naturalOf returns the number with these digits.
func naturalOf(digits string) natural {
	n := make(natural, 0, len(digits)/groupDigits+1)
	for end := len(digits); end > 0; end -= groupDigits {
		group := 0
		for i := max(0, end-groupDigits); i < end; i++ {
			group = 10*group + int(digits[i]-'0')
		}
		n = append(n, group)
	}
	return n.trimmed()
}

// text returns the digits of n.
func (n natural) text() string {
	if len(n) == 0 {
		return "0"
	}
	last := len(n) - 1
	digits := strconv.AppendInt(make([]byte, 0, groupDigits*len(n)), int64(n[last]), 10)
	for _, group := range slices.Backward(n[:last]) {
		for unit := base / 10; unit > 0; unit /= 10 {
			digits = append(digits, '0'+byte(group/unit%10))
		}
	}
	return string(digits)
}

// trimmed returns n without the groups at its end that are 0.
func (n natural) trimmed() natural {
	end := len(n)
	for end > 0 && n[end-1] == 0 {
		end--
	}
	return n[:end]
}

// compare returns the sign of the difference of n and m.
func (n natural) compare(m natural) int {
	if len(n) != len(m) {
		return cmp.Compare(len(n), len(m))
	}
	for i, group := range slices.Backward(n) {
		if group != m[i] {
			return cmp.Compare(group, m[i])
		}
	}
	return 0
}

// less reports whether n is less than m.
func (n natural) less(m natural) bool { return n.compare(m) < 0 }

// plus returns the sum of n and of factor times m. The factor is from 1 - base to base - 1, and the sum is not negative.
func (n natural) plus(m natural, factor int) natural {
	sum := make(natural, max(len(n), len(m))+1)
	copy(sum, n)
	carry := 0
	for i := range sum {
		carry += sum[i]
		if i < len(m) {
			carry += factor * m[i]
		}
		sum[i] = carry % base
		carry /= base
		if sum[i] < 0 {
			sum[i] += base
			carry--
		}
	}
	return sum.trimmed()
}

// multiple returns factor times n. The factor is from 0 to base - 1.
func (n natural) multiple(factor int) natural { return natural(nil).plus(n, factor) }

// followed returns the number whose text is that of n with one more group behind it.
func (n natural) followed(group int) natural {
	longer := make(natural, len(n)+1)
	longer[0] = group
	copy(longer[1:], n)
	return longer.trimmed()
}

// times returns the product of n and m, as the sum of what n is for each group of m.
func (n natural) times(m natural) natural {
	return fold(m, nil, func(sum natural, group int) natural {
		return sum.followed(0).plus(n, group)
	})
}

// word returns the number n, which has at most wordGroups groups.
func (n natural) word() int {
	return fold(n, 0, func(sum, group int) int { return sum*base + group })
}

// divide returns the quotient and the remainder of n by d, which is not 0.
func (n natural) divide(d natural) (natural, natural) {
	// The part of n that has fewer groups than d is less than d, and needs no division.
	count := max(0, len(n)-len(d)+1)
	quotient := make(natural, count)
	rest := n[count:]
	for i, group := range slices.Backward(n[:count]) {
		rest = rest.followed(group)
		quotient[i] = rest.groupOfQuotient(d)
		rest = rest.plus(d, -quotient[i])
	}
	return quotient.trimmed(), rest
}

// groupOfQuotient returns the quotient of n by d, which is less than base: n has at most one group more than d.
func (n natural) groupOfQuotient(d natural) int {
	// The greatest groups of both leave few numbers to be searched, and a single one where nothing is cut off.
	cut := max(0, len(d)-wordGroups+1)
	top, under := n[min(cut, len(n)):].word(), d[cut:].word()
	low, high := top/(under+min(cut, 1)), min(top/under, base-1)
	less := n.less
	return greatest(low, high, func(q int) bool { return !less(d.multiple(q)) })
}

// gcd returns the greatest common divisor of n and m.
func (n natural) gcd(m natural) natural {
	for len(m) > wordGroups {
		_, rest := n.divide(m)
		n, m = m, rest
	}
	if len(m) == 0 {
		return n
	}
	// What is left fits into ints, where the same takes less time.
	_, rest := n.divide(m)
	a, b := m.word(), rest.word()
	for b > 0 {
		a, b = b, a%b
	}
	return naturalOf(strconv.Itoa(a))
}

// root returns the greatest number whose square is not greater than n. It finds one group of it for every two of n.
func (n natural) root() natural {
	var root, rest natural // rest is by how much the groups of n so far exceed the square of root
	for i := (len(n) + 1) / 2 * 2; i > 0; i -= 2 {
		first := 0
		if i <= len(n) {
			first = n[i-1]
		}
		rest = rest.followed(first).followed(n[i-2])
		twice := root.multiple(2)
		// With another group g, the square of root grows by g times the number that is twice root, followed by g.
		growth := func(g int) natural { return twice.followed(g).multiple(g) }
		less := rest.less
		g := greatest(0, base-1, func(g int) bool { return !less(growth(g)) })
		root, rest = root.followed(g), rest.plus(growth(g), -1)
	}
	return root
}

// greatest returns the greatest number from low to high that fits. low does, and so does every number below one that does.
func greatest(low, high int, fits func(int) bool) int {
	return low + sort.Search(high-low, func(i int) bool { return !fits(low + i + 1) })
}

// fold returns what start becomes with one element of list after the other, from the last one to the first.
func fold[E, S any](list []E, start S, step func(S, E) S) S {
	for _, e := range slices.Backward(list) {
		start = step(start, e)
	}
	return start
}
