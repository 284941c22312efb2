package protocol_test

import (
	"math"
	"math/rand"
	"slices"
	"strconv"
	"strings"
	"testing"
	"unsafe"

	"latecomer/api"
	"latecomer/protocol"
)

// outside are numbers that are no operations.
func outside() []int {
	return []int{-1, -2, -11, 12, 13, 63, 64, 255, 256, 1 << 32, 1<<32 + 1, -1 << 32, math.MaxInt, math.MaxInt - 1, math.MinInt, math.MinInt + 1}
}

// item returns an item.
func item(op, least, most int) api.Item { return api.Item{Op: op, Least: least, Most: most} }

// rule returns a rule.
func rule(op int, items ...api.Item) api.Rule { return api.Rule{Op: op, Items: items} }

// of returns the protocol with these rules.
func of(rules ...api.Rule) api.Protocol { return api.Protocol{Rules: rules} }

// example is the protocol of the chapter's examples.
func example() api.Protocol {
	return of(rule(0, item(1, 1, 2), item(2, 1, 3), item(1, 0, 1)), rule(0, item(3, 2, 2)))
}

// checkMatch checks what Match and Accepts return for a valid protocol and children, and returns what Match does.
func checkMatch(t *testing.T, p api.Protocol, op int, children []int) ([]int, api.Errno) {
	t.Helper()
	got, err := protocol.Match(p, op, children)
	want, wantErr := matched(p, op, children)
	if !slices.Equal(got, want) || err != wantErr {
		t.Fatalf("Match of %v for %d = %v, %d; want %v, %d; with\n%s", children, op, got, err, want, wantErr, textOf(p))
	}
	if accepts := protocol.Accepts(p, op, children); accepts != (err == api.OK && len(want) == 0) {
		t.Fatalf("Accepts of %v for %d = %v, and what is missing is %v, %d; with\n%s", children, op, accepts, want, err, textOf(p))
	}
	return got, err
}

// checkRefused checks that Match and Accepts refuse something.
func checkRefused(t *testing.T, p api.Protocol, op int, children []int) {
	t.Helper()
	if l, err := protocol.Match(p, op, children); len(l) != 0 || err != api.ErrArg {
		t.Fatalf("Match of %v for %d = %v, %d; with\n%s", children, op, l, err, textOf(p))
	}
	if protocol.Accepts(p, op, children) {
		t.Fatalf("%v are accepted for %d, with\n%s", children, op, textOf(p))
	}
}

// checkParse checks what Parse returns, and returns it.
func checkParse(t *testing.T, s string) (api.Protocol, int, api.Errno) {
	t.Helper()
	p, line, err := protocol.Parse(s)
	want, wantLine, wantErr := parsed(s)
	if !sameProtocol(p, want) || line != wantLine || err != wantErr {
		t.Fatalf("Parse = %v, %d, %d; want %v, %d, %d; of\n%.900q", p, line, err, want, wantLine, wantErr, s)
	}
	return p, line, err
}

// checkValid checks that a protocol is valid, and that its text leads back to it.
func checkValid(t *testing.T, p api.Protocol) {
	t.Helper()
	if !protocol.Valid(p) {
		t.Fatalf("this is not valid:\n%s", textOf(p))
	}
	s, err := protocol.Print(p)
	if s != textOf(p) || err != api.OK {
		t.Fatalf("Print = %q, %d; want %q", s, err, textOf(p))
	}
	if back, line, err := protocol.Parse(s); !sameProtocol(back, p) || line != 0 || err != api.OK {
		t.Fatalf("Parse = %v, %d, %d; of\n%s", back, line, err, s)
	}
}

// checkInvalid checks that no function takes p as a protocol.
func checkInvalid(t *testing.T, p api.Protocol) {
	t.Helper()
	if protocol.Valid(p) {
		t.Fatalf("this is valid:\n%s", textOf(p))
	}
	if s, err := protocol.Print(p); s != "" || err != api.ErrProtocol {
		t.Fatalf("Print = %q, %d; of\n%s", s, err, textOf(p))
	}
	checkParse(t, textOf(p))
	for op := -1; op <= 12; op++ { // whether this operation has rules or not
		for _, children := range [][]int{nil, {0}, {1, 1}, {12}} {
			checkRefused(t, p, op, children)
		}
	}
}

func TestExamples(t *testing.T) { // P13.1
	p := example()
	for _, c := range []struct {
		op       int
		children []int
		missing  []int
		err      api.Errno
	}{
		{0, []int{1, 2}, nil, api.OK},
		{0, []int{1, 1, 2, 2, 1}, nil, api.OK},
		{0, nil, []int{1, 2}, api.OK},
		{0, []int{1}, []int{2}, api.OK},
		{0, []int{2, 1}, []int{1}, api.OK},
		{0, []int{3}, []int{3}, api.OK},
		{0, []int{2, 2, 2, 2}, nil, api.ErrProtocol},
		{0, []int{1, 3}, nil, api.ErrProtocol},
		{5, nil, nil, api.OK},
		{5, []int{1, 3, 11, 0}, nil, api.OK},
	} {
		if l, err := protocol.Match(p, c.op, c.children); !slices.Equal(l, c.missing) || err != c.err {
			t.Errorf("Match of %v for %d = %v, %d; want %v, %d", c.children, c.op, l, err, c.missing, c.err)
		}
		if got := protocol.Accepts(p, c.op, c.children); got != (c.err == api.OK && len(c.missing) == 0) {
			t.Errorf("Accepts of %v for %d = %v", c.children, c.op, got)
		}
	}
	want := "0: 1*1-2 2*1-3 1*0-1\n0: 3*2-2\n"
	if s, err := protocol.Print(p); s != want || err != api.OK {
		t.Errorf("Print = %q, %d; want %q", s, err, want)
	}
	if got, line, err := protocol.Parse(want); !sameProtocol(got, p) || line != 0 || err != api.OK {
		t.Errorf("Parse = %v, %d, %d", got, line, err)
	}
}

func TestValid(t *testing.T) { // P13.1, P13.6
	checkValid(t, api.Protocol{})
	checkValid(t, api.Protocol{Rules: []api.Rule{}})
	for op := range 12 {
		checkValid(t, of(rule(op)))
		checkValid(t, of(api.Rule{Op: op, Items: []api.Item{}}, rule(11-op)))
	}
	for op := -1; op <= 12; op++ {
		for least := -2; least <= 11; least++ {
			for most := -2; most <= 11; most++ {
				one := of(rule(7, item(op, least, most)))
				last := of(rule(0, item(1, 1, 1)), rule(7, item(0, 0, 1), item(3, 9, 9), item(op, least, most)))
				first := of(rule(7, item(op, least, most), item(3, 9, 9)), rule(0, item(1, 1, 1)))
				for _, p := range []api.Protocol{one, last, first} {
					if among(0, op, 11) && among(1, most, 9) && among(0, least, most) {
						checkValid(t, p)
					} else {
						checkInvalid(t, p)
					}
				}
			}
		}
	}
	for _, n := range outside() {
		for _, p := range []api.Protocol{
			of(rule(n)), of(rule(n, item(0, 0, 1))), of(rule(0), rule(n), rule(0)),
			of(rule(0, item(n, 0, 1))), of(rule(0, item(0, 0, 1), item(n, 0, 1))),
			of(rule(0, item(0, 0, n))), of(rule(0, item(0, n, 9))), of(rule(0, item(0, n, n))), of(rule(0, item(0, n, 1))),
		} {
			if isProtocol(p) {
				t.Fatal(n)
			}
			checkInvalid(t, p)
		}
	}
}

func TestSizes(t *testing.T) { // P13.1, P13.6
	for count := range 60 {
		p := of(rule(4), rule(2))
		for i := range count {
			p.Rules[0].Items = append(p.Rules[0].Items, item(i%12, i%9, 9))
		}
		check := checkValid
		if count > 6 {
			check = checkInvalid
		}
		check(t, p)
		check(t, of(p.Rules[1], p.Rules[0]))
		check(t, of(p.Rules[:1]...))
	}
	for count := range 100 {
		var p, short api.Protocol
		for i := range count {
			p.Rules = append(p.Rules, rule(i%12, item(i%11, i%8, 8), item(11, 0, 9)))
			short.Rules = append(short.Rules, rule(11))
		}
		if count <= 24 {
			checkValid(t, p)
			checkValid(t, short)
			continue
		}
		checkInvalid(t, p)
		checkInvalid(t, short)
		for _, s := range []string{textOf(p), textOf(short), textOf(short) + "x", strings.TrimSuffix(textOf(p), "\n")} {
			if _, line, err := checkParse(t, s); line != 25 || err != api.ErrProtocol {
				t.Errorf("of %d rules the line %d is the first wrong one, %d", count, line, err)
			}
		}
	}
	full := strings.Repeat("11: 11*9-9 11*9-9 11*9-9 11*9-9 11*9-9 11*9-9\n", 24)
	if p, _, err := checkParse(t, full); len(p.Rules) != 24 || err != api.OK {
		t.Errorf("of 24 rules there are %d, %d", len(p.Rules), err)
	}
	for _, more := range []string{"\n", "x", "0:", " ", "\x00", "0:\n", "0:\n0:\n"} {
		if _, line, err := checkParse(t, full+more); line != 25 || err != api.ErrProtocol {
			t.Errorf("behind 24 rules, with %q, the line %d is the first wrong one, %d", more, line, err)
		}
	}
}

func TestArguments(t *testing.T) { // P13.1
	long := func(n, op int) []int { return slices.Repeat([]int{op}, n) }
	free := of(rule(3, item(0, 0, 9), item(0, 0, 9), item(0, 0, 9), item(0, 3, 9)), rule(4))
	for _, p := range []api.Protocol{{}, example(), free} {
		for op := range 12 {
			for child := range 12 {
				for _, n := range []int{0, 1, 2, 8, 29, 30} {
					checkMatch(t, p, op, long(n, child))
				}
				for _, n := range []int{31, 32, 36, 54, 300} {
					checkRefused(t, p, op, long(n, child))
				}
			}
			for _, child := range outside() {
				for _, n := range []int{1, 2, 30, 31} {
					for k := range n {
						children := long(n, 0)
						children[k] = child
						checkRefused(t, p, op, children)
					}
				}
			}
		}
		for _, op := range outside() {
			for _, children := range [][]int{nil, {}, {1, 2}, {3, 3}, {1, 3}, {12}, long(31, 0)} {
				checkRefused(t, p, op, children)
			}
		}
	}
	if !protocol.Accepts(free, 3, long(30, 0)) || protocol.Accepts(free, 4, long(1, 0)) || !protocol.Accepts(free, 4, nil) || !protocol.Accepts(free, 5, long(30, 11)) {
		t.Error("what is accepted is not what the rules allow")
	}
	most := rule(2)
	for i := range 6 {
		most.Items = append(most.Items, item(11-i, 9, 9))
	}
	l, err := protocol.Match(of(most), 2, nil)
	if want := slices.Concat(long(9, 6), long(9, 7), long(9, 8), long(9, 9), long(9, 10), long(9, 11)); !slices.Equal(l, want) || err != api.OK {
		t.Errorf("if all 54 are missing, Match = %v, %d", l, err)
	}
}

// TestSmallRules takes all small rules, and all short children.
func TestSmallRules(t *testing.T) { // P13.1
	for _, size := range []struct{ items, ops, most, children int }{{3, 2, 2, 5}, {2, 3, 2, 4}, {4, 1, 2, 8}, {2, 2, 4, 4}, {1, 2, 9, 4}} {
		all := sequences(size.ops+1, size.children)
		for _, r := range smallRules(size.items, size.ops, size.most) {
			p := of(r)
			for _, children := range all {
				checkMatch(t, p, 0, children)
			}
		}
	}
}

// TestAlternatives takes several small rules, also those whose divisions lack as many operations.
func TestAlternatives(t *testing.T) { // P13.1
	random := rand.New(rand.NewSource(1))
	short := sequences(4, 3)[:40]
	ties := 0
	for range 3000 {
		p := of(rule(1, item(0, 1, 1)))
		for range 1 + random.Intn(5) {
			p.Rules = append(p.Rules, someRule(random, 0, 4, 3, 3))
		}
		random.Shuffle(len(p.Rules), func(i, k int) { p.Rules[i], p.Rules[k] = p.Rules[k], p.Rules[i] })
		for range 20 {
			children := short[random.Intn(len(short))]
			l, err := checkMatch(t, p, 0, children)
			for _, r := range p.Rules {
				other, otherErr := protocol.Match(of(r), 0, children)
				if r.Op == 0 && err == api.OK && otherErr == api.OK && len(other) == len(l) && !slices.Equal(other, l) {
					ties++
				}
			}
		}
	}
	if ties < 300 {
		t.Errorf("only %d times another rule lacks as many operations", ties)
	}
}

func TestMatch(t *testing.T) { // P13.1
	random := rand.New(rand.NewSource(2))
	counts := map[api.Errno]int{}
	accepted := 0
	for range 6000 {
		p := someProtocol(random, 6)
		if random.Intn(20) == 0 {
			p = someProtocol(random, 24)
		}
		for range 4 {
			op, children := random.Intn(12), someChildren(random, nil)
			if len(p.Rules) > 0 {
				r := p.Rules[random.Intn(len(p.Rules))]
				op, children = r.Op, someChildren(random, r.Items)
			}
			l, err := checkMatch(t, p, op, children)
			counts[err]++
			if err == api.OK && len(l) == 0 {
				accepted++
			}
		}
	}
	if counts[api.ErrProtocol] < 1000 || accepted < 1000 || counts[api.OK]-accepted < 1000 {
		t.Errorf("of some children, %d are accepted, and the errors are %v", accepted, counts)
	}
}

// TestManyDivisions takes children that can be divided in a great many ways, none of which is better than the others, or only one of which is the first one.
func TestManyDivisions(t *testing.T) { // P13.1
	fixed, loose := item(5, 9, 9), item(5, 0, 9)
	var p api.Protocol
	for range 24 {
		p.Rules = append(p.Rules, rule(0, fixed, fixed, fixed, fixed, fixed, fixed))
	}
	children := slices.Repeat([]int{5}, 27)
	for range 100 {
		if l, err := protocol.Match(p, 0, children); !slices.Equal(l, children) || err != api.OK { // 54 less 27
			t.Fatalf("Match = %v, %d", l, err)
		}
	}
	for i := range p.Rules {
		p.Rules[i] = rule(0, loose, loose, item(5, 7, 9), item(6, 2, 3), loose, item(5, 8, 9))
	}
	for n := range 31 {
		children := slices.Repeat([]int{5}, n)
		checkMatch(t, of(p.Rules[0]), 0, children)
		want := append(slices.Repeat([]int{5}, max(15-n, 0)), 6, 6) // first those that need some get them
		if l, err := protocol.Match(p, 0, children); !slices.Equal(l, want) || err != api.OK {
			t.Fatalf("Match of %d children = %v, %d; want %v", n, l, err, want)
		}
	}
}

// TestLeast checks that what is missing is the least that must be added, wherever it may be added.
func TestLeast(t *testing.T) { // P13.2
	random := rand.New(rand.NewSource(3))
	all := sequences(3, 6) // no child of these rules can be longer
	rules := smallRules(3, 2, 2)
	for try := range 500 {
		p := of(rules[random.Intn(len(rules))])
		for range try % 3 {
			p.Rules = append(p.Rules, rules[random.Intn(len(rules))])
		}
		var accepted [][]int
		for _, l := range all {
			if protocol.Accepts(p, 0, l) {
				accepted = append(accepted, l)
			}
		}
		for _, children := range all[:121] { // up to 4 of them
			least := -1
			for _, l := range accepted {
				if isWithin(children, l) && (least < 0 || len(l)-len(children) < least) {
					least = len(l) - len(children)
				}
			}
			l, err := protocol.Match(p, 0, children)
			if err == api.OK && len(l) != least || err != api.OK && least >= 0 {
				t.Fatalf("Match of %v = %v, %d; and at least %d are to be added, with\n%s", children, l, err, least, textOf(p))
			}
		}
	}
}

// filled returns the children with an operation added where exactly rest is missing then, and whether there is such a place.
func filled(p api.Protocol, op int, children []int, added int, rest []int) ([]int, bool) {
	for k := range len(children) + 1 {
		more := slices.Insert(slices.Clone(children), k, added)
		if l, err := protocol.Match(p, op, more); err == api.OK && slices.Equal(l, rest) {
			return more, true
		}
	}
	return nil, false
}

// checkFilled checks that what is missing can be added one by one, until nothing is missing, as long as there are not too many children. It returns how many were added.
func checkFilled(t *testing.T, p api.Protocol, op int, children []int) int {
	t.Helper()
	l, _ := protocol.Match(p, op, children)
	count := 0
	for len(l) > 0 && len(children) < 30 {
		more, ok := filled(p, op, children, l[0], l[1:])
		if !ok {
			t.Fatalf("to %v, %d cannot be added such that %v is missing, with\n%s", children, l[0], l[1:], textOf(p))
		}
		children, l = more, l[1:]
		count++
	}
	if count > 0 && len(l) == 0 && !protocol.Accepts(p, op, children) {
		t.Fatalf("%v are not accepted, with\n%s", children, textOf(p))
	}
	return count
}

func TestHolesAreFilled(t *testing.T) { // P13.2, P13.3
	all := sequences(2, 4)
	for _, r := range smallRules(3, 2, 2) {
		for _, children := range all {
			checkFilled(t, of(r), 0, children)
		}
	}
	random := rand.New(rand.NewSource(4))
	count := 0
	for range 3000 {
		p := someProtocol(random, 6)
		if len(p.Rules) == 0 {
			continue
		}
		r := p.Rules[random.Intn(len(p.Rules))]
		count += checkFilled(t, p, r.Op, someChildren(random, r.Items))
		count += checkFilled(t, p, r.Op, nil)
	}
	if count < 10000 {
		t.Errorf("only %d operations were added", count)
	}
}

// checkChanges checks what one more child does to what is missing, and one less if nothing is.
func checkChanges(t *testing.T, p api.Protocol, op int, children []int, added []int) (decreases, removals int) {
	t.Helper()
	l, err := protocol.Match(p, op, children)
	if err != api.OK {
		return 0, 0
	}
	for k := range len(children) + 1 {
		for _, child := range added {
			if len(children) == 30 {
				continue
			}
			more, err := protocol.Match(p, op, slices.Insert(slices.Clone(children), k, child))
			if err != api.ErrProtocol && (err != api.OK || len(more) < len(l)-1) {
				t.Fatalf("%v, with %d at %d: %v is missing, %d; and %v before; with\n%s", children, child, k, more, err, l, textOf(p))
			}
			if err == api.OK && len(more) < len(l) {
				decreases++
			}
		}
		if len(l) == 0 && k < len(children) {
			less, err := protocol.Match(p, op, slices.Delete(slices.Clone(children), k, k+1))
			if err != api.OK || len(less) > 1 {
				t.Fatalf("%v, without the child %d: %v is missing, %d; with\n%s", children, k, less, err, textOf(p))
			}
			removals += len(less)
		}
	}
	return decreases, removals
}

func TestOneMoreOrLess(t *testing.T) { // P13.4
	all := sequences(2, 4)
	for _, r := range smallRules(3, 2, 2) {
		for _, children := range all {
			checkChanges(t, of(r), 0, children, []int{0, 1, 2})
		}
	}
	random := rand.New(rand.NewSource(5))
	decreases, removals := 0, 0
	for range 2000 {
		p := someProtocol(random, 6)
		if len(p.Rules) == 0 {
			continue
		}
		r := p.Rules[random.Intn(len(p.Rules))]
		for _, children := range [][]int{someChildren(random, r.Items), rightChildren(random, r.Items)} {
			d, m := checkChanges(t, p, r.Op, children, []int{0, 1, 2, 3, random.Intn(12)})
			decreases, removals = decreases+d, removals+m
		}
	}
	if decreases < 1000 || removals < 1000 {
		t.Errorf("%d children decreased what is missing, and %d removed ones are missing", decreases, removals)
	}
}

func TestFurtherRules(t *testing.T) { // P13.5
	random := rand.New(rand.NewSource(6))
	fewer, others := 0, 0
	for range 10000 {
		op := random.Intn(12)
		ops, most := 1+random.Intn(4), 1+random.Intn(4)
		var p api.Protocol
		for range 1 + random.Intn(4) {
			p.Rules = append(p.Rules, someRule(random, op, 6, ops, most))
		}
		children := someChildren(random, p.Rules[0].Items)
		l, err := protocol.Match(p, op, children)

		more := copyOf(p)
		more.Rules = slices.Insert(more.Rules, random.Intn(len(p.Rules)+1), someRule(random, op, 6, ops, most))
		got, gotErr := protocol.Match(more, op, children)
		if err == api.OK && (gotErr != api.OK || inOrder(got, l) > 0) {
			t.Fatalf("of %v for %d, %v is missing, %d; and before the last rule %v; with\n%s", children, op, got, gotErr, l, textOf(more))
		}
		if err == api.OK && len(got) < len(l) {
			fewer++
		}

		same := copyOf(p)
		for range random.Intn(6) { // rules of other operations
			if other := random.Intn(12); other != op {
				same.Rules = append(same.Rules, someRule(random, other, 6, 12, 9))
				others++
			}
		}
		random.Shuffle(len(same.Rules), func(i, k int) { same.Rules[i], same.Rules[k] = same.Rules[k], same.Rules[i] })
		if got, gotErr := protocol.Match(same, op, children); !slices.Equal(got, l) || gotErr != err {
			t.Fatalf("of %v for %d, %v is missing, %d; want %v, %d; with\n%s", children, op, got, gotErr, l, err, textOf(same))
		}
		if without := of(same.Rules[:0]...); !protocol.Accepts(without, op, children) {
			t.Fatalf("%v are not accepted without rules", children)
		}
	}
	if fewer < 500 || others < 1000 {
		t.Errorf("%d rules made fewer operations missing, and %d were those of others", fewer, others)
	}
}

func TestTexts(t *testing.T) { // P13.1, P13.6
	random := rand.New(rand.NewSource(7))
	const bytes = "0123456789:*- \n\n\n\t\r+.,_ax\x00\xff/;"
	wrong, right := map[int]int{}, 0
	for try := range 20000 {
		p := someProtocol(random, 1+try%24)
		checkValid(t, p)
		s := []byte(textOf(p))
		for range 1 + random.Intn(2) {
			k := random.Intn(len(s) + 1)
			c := bytes[random.Intn(len(bytes))]
			switch n := random.Intn(6); {
			case n < 2:
				s = slices.Insert(s, k, c)
			case k == len(s):
				// there is no byte here
			case n == 2:
				s = slices.Delete(s, k, k+1)
			case n == 3:
				s[k] = c
			case n == 4:
				i := random.Intn(len(s))
				s[i], s[k] = s[k], s[i]
			case n == 5:
				s = s[:k]
			}
		}
		back, line, err := checkParse(t, string(s))
		wrong[line]++
		if err == api.OK {
			right++
			if again, err := protocol.Print(back); again != string(s) || err != api.OK {
				t.Fatalf("Print = %q, %d; of %q", again, err, s)
			}
		}
	}
	if right < 1000 || wrong[1] < 1000 || wrong[2] < 1000 || wrong[9] < 100 || wrong[21] < 5 {
		t.Errorf("of texts, %d are right, and these lines are wrong: %v", right, wrong)
	}
}

// TestShortTexts takes all short texts.
func TestShortTexts(t *testing.T) { // P13.6
	right := 0
	for _, l := range sequences(8, 6) {
		s := make([]byte, len(l))
		for i, n := range l {
			s[i] = "019:*- \n"[n]
		}
		if p, _, err := checkParse(t, string(s)); err == api.OK {
			right++
			if again, _ := protocol.Print(p); again != string(s) {
				t.Fatalf("Print = %q; of %q", again, s)
			}
		}
	}
	if right != 1+3+2+9 { // none, a rule of 0, 1 or 9, one of 10 or 11, and two of the former
		t.Errorf("%d texts are right", right)
	}
}

func TestWrongTexts(t *testing.T) { // P13.1, P13.6
	good := "3: 1*0-9\n"
	for _, c := range []struct {
		s    string
		line int
	}{
		{"", 0}, {good, 0}, {"0:\n", 0}, {"11: 11*9-9\n", 0}, {"10: 10*0-1\n", 0},
		{"\n", 1}, {" ", 1}, {" \n", 1}, {"0", 1}, {"0:", 1}, {"0\n", 1}, {":\n", 1}, {"0: \n", 1}, {"0 :\n", 1}, {" 0:\n", 1}, {"0::\n", 1}, {"0:\r\n", 1}, {"0:\n\n", 2}, {"0:\n\n0:\n", 2}, {"\n0:\n", 1},
		{"12:\n", 1}, {"99:\n", 1}, {"00:\n", 1}, {"03:\n", 1}, {"-1:\n", 1}, {"-0:\n", 1}, {"+3:\n", 1}, {"3.0:\n", 1}, {"1_0:\n", 1}, {"0x3:\n", 1}, {"1e1:\n", 1}, {"٣:\n", 1},
		{"3: 1*0-10\n", 1}, {"3: 1*0-0\n", 1}, {"3: 1*3-2\n", 1}, {"3: 12*0-1\n", 1}, {"3: 01*0-1\n", 1}, {"3: 1*00-1\n", 1}, {"3: 1*0-01\n", 1}, {"3: 1*-1-1\n", 1}, {"3: 1*0--1\n", 1}, {"3: 1*+0-1\n", 1}, {"3: 1*0-+1\n", 1}, {"3: -1*0-1\n", 1}, {"3: +1*0-1\n", 1},
		{"3: *0-1\n", 1}, {"3: 1*-1\n", 1}, {"3: 1*0-\n", 1}, {"3: 1*0\n", 1}, {"3: 1*\n", 1}, {"3: 1\n", 1}, {"3: 1-0*1\n", 1}, {"3: 10-1\n", 1}, {"3: 1*01\n", 1}, {"3:1*0-1\n", 1}, {"3:  1*0-1\n", 1}, {"3: 1*0-1 \n", 1}, {"3: 1*0-1  1*0-1\n", 1}, {"3: 1*0-1,1*0-1\n", 1}, {"3: 1*0-11*0-1\n", 1}, {"3\t1*0-1\n", 1}, {"3:\t1*0-1\n", 1}, {"3: 1 * 0-1\n", 1},
		{good + "x\n", 2}, {good + good[:len(good)-1], 2}, {good + good + "\n" + good, 3}, {good + good + " ", 3}, {good + "x\n" + "x\n", 2}, {"x\n" + good + "x\n", 1}, {good + "12: 1*0-9\n" + "x", 2}, {good + good[:5] + "\n" + good, 2},
		{good + "\x00", 2}, {good + "0:\n0:\n\xff\n", 4}, {"\ufeff" + good, 1}, {good[:len(good)-1] + "\x00\n", 1},
		{"0: 0*0-1 0*0-1 0*0-1 0*0-1 0*0-1 0*0-1\n", 0}, {"0: 0*0-1 0*0-1 0*0-1 0*0-1 0*0-1 0*0-1 \n", 1}, {"0: 0*0-1 0*0-1 0*0-1 0*0-1 0*0-1 0*0-1 0*0-1\n", 1},
	} {
		if _, line, err := checkParse(t, c.s); line != c.line || (err == api.OK) != (c.line == 0) {
			t.Errorf("the first wrong line of %q is %d, %d; want %d", c.s, line, err, c.line)
		}
	}
	for _, n := range outside() {
		d := strconv.Itoa(n)
		for _, s := range []string{d + ":\n", "0: " + d + "*0-1\n", "0: 0*" + d + "-9\n", "0: 0*0-" + d + "\n"} {
			if _, line, err := checkParse(t, good+s); line != 2 || err != api.ErrProtocol {
				t.Errorf("the first wrong line of %q is %d, %d", good+s, line, err)
			}
		}
	}
	for _, n := range []int{19, 20, 21, 39, 1000, 1 << 20} { // numbers that wrap around to others, and that are far too long
		for _, c := range []string{"0", "1", "3", "9", " 1*0-9", " ", "\n", ":", "*", "-"} {
			for _, s := range []string{strings.Repeat(c, n), strings.Repeat(c, n) + ":\n", "3:" + strings.Repeat(c, n) + "\n", "3: 1*" + strings.Repeat(c, n) + "-9\n"} {
				checkParse(t, good+s)
			}
		}
	}
	for _, d := range []string{"18446744073709551616", "18446744073709551617", "9223372036854775808", "4294967296", "340282366920938463463374607431768211457", "-18446744073709551615"} {
		for _, s := range []string{d + ":\n", "0: " + d + "*0-1\n", "0: 0*" + d + "-9\n", "0: 0*0-" + d + "\n"} {
			if _, line, err := checkParse(t, s); line != 1 || err != api.ErrProtocol {
				t.Errorf("the first wrong line of %q is %d, %d", s, line, err)
			}
		}
	}
}

// spared returns a list equal to l with spare capacity, which is filled with 77.
func spared(l []int) []int {
	s := append(slices.Clone(l), 77, 77, 77, 77)
	return s[:len(l)]
}

// sparedProtocol returns a protocol equal to p, all of whose lists have spare capacity.
func sparedProtocol(p api.Protocol) api.Protocol {
	c := copyOf(p)
	for i, r := range c.Rules {
		items := append(r.Items, item(77, 77, 77), item(78, 78, 78))
		c.Rules[i].Items = items[:len(r.Items)]
	}
	rules := append(c.Rules, rule(77, item(77, 77, 77)), rule(78))
	c.Rules = rules[:len(c.Rules)]
	return c
}

// extent describes all memory of p, with what is behind its lists.
func extent(p api.Protocol) string {
	whole := api.Protocol{Rules: p.Rules[:cap(p.Rules)]}
	s := textOf(p)
	for _, r := range whole.Rules {
		s += textOf(of(api.Rule{Op: r.Op, Items: r.Items[:cap(r.Items)]}))
	}
	return s
}

// places returns where the lists of p are in memory.
func places(p api.Protocol) [][2]uintptr {
	var all [][2]uintptr
	add := func(start unsafe.Pointer, size uintptr) {
		if size > 0 {
			all = append(all, [2]uintptr{uintptr(start), uintptr(start) + size})
		}
	}
	add(unsafe.Pointer(unsafe.SliceData(p.Rules)), uintptr(cap(p.Rules))*unsafe.Sizeof(api.Rule{}))
	for _, r := range p.Rules {
		add(unsafe.Pointer(unsafe.SliceData(r.Items)), uintptr(cap(r.Items))*unsafe.Sizeof(api.Item{}))
	}
	return all
}

func TestMemory(t *testing.T) { // P13.1
	random := rand.New(rand.NewSource(8))
	for range 2000 {
		p := sparedProtocol(someProtocol(random, 6))
		op, children := 0, spared(someChildren(random, nil))
		if len(p.Rules) > 0 {
			r := p.Rules[random.Intn(len(p.Rules))]
			op, children = r.Op, spared(someChildren(random, r.Items))
		}
		before, list := extent(p), slices.Clone(children[:cap(children)])
		l, err := protocol.Match(p, op, children)
		want := slices.Clone(l)
		protocol.Accepts(p, op, children)
		protocol.Valid(p)
		s, _ := protocol.Print(p)
		if extent(p) != before || !slices.Equal(children[:cap(children)], list) {
			t.Fatalf("the arguments are changed: %s", before)
		}
		for i := range children[:cap(children)] { // a result that shared memory would change with it
			children[:cap(children)][i] = 5
		}
		for i := range l[:cap(l)] {
			l[:cap(l)][i] = 6
		}
		if extent(p) != before || slices.Contains(children, 6) {
			t.Fatalf("the result shares memory with an argument: %s", before)
		}
		if again, againErr := protocol.Match(p, op, list[:len(children)]); !slices.Equal(again, want) || againErr != err {
			t.Fatalf("Match = %v, %d after %v, %d", again, againErr, want, err)
		}

		back, _, _ := protocol.Parse(s)
		all := append(places(back), places(p)...)
		for i, a := range all {
			for _, b := range all[:i] {
				if a[0] < b[1] && b[0] < a[1] {
					t.Fatalf("two lists share memory: %q", s)
				}
			}
		}
	}
}
