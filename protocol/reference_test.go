package protocol_test

import (
	"fmt"
	"math/rand"
	"regexp"
	"slices"
	"strconv"
	"strings"

	"latecomer/api"
)

// The functions of this file follow the definitions of the chapter in other ways than the package does: all divisions are made one by one, lists are sorted and compared as such, texts are printed by fmt and read by regular expressions.

// among reports whether v is from low to high.
func among(low, v, high int) bool { return low <= v && v <= high }

// isProtocol reports whether p is valid.
func isProtocol(p api.Protocol) bool {
	if len(p.Rules) > 24 {
		return false
	}
	for _, r := range p.Rules {
		if !among(0, r.Op, 11) || len(r.Items) > 6 {
			return false
		}
		for _, i := range r.Items {
			if !among(0, i.Op, 11) || !among(1, i.Most, 9) || !among(0, i.Least, 9) || i.Least > i.Most {
				return false
			}
		}
	}
	return true
}

// lacks returns the lists that are missing in all divisions of children for items, in no order and as often as they occur.
func lacks(items []api.Item, children []int) [][]int {
	if len(items) == 0 {
		if len(children) > 0 {
			return nil
		}
		return [][]int{nil}
	}
	// The last item is given its children first.
	last, before := items[len(items)-1], items[:len(items)-1]
	var all [][]int
	for cut := len(children); cut >= 0 && len(children)-cut <= last.Most; cut-- {
		if cut < len(children) && children[cut] != last.Op {
			break
		}
		for _, l := range lacks(before, children[:cut]) {
			l = slices.Clone(l)
			for range last.Least - (len(children) - cut) {
				l = append(l, last.Op)
			}
			slices.Sort(l)
			all = append(all, l)
		}
	}
	return all
}

// inOrder compares lists of missing operations.
func inOrder(a, b []int) int {
	if len(a) != len(b) {
		return len(a) - len(b)
	}
	return slices.Compare(a, b)
}

// matched returns what Match returns for a valid protocol and children.
func matched(p api.Protocol, op int, children []int) ([]int, api.Errno) {
	rules := 0
	var all [][]int
	for _, r := range p.Rules {
		if r.Op == op {
			rules++
			all = append(all, lacks(r.Items, children)...)
		}
	}
	switch {
	case rules == 0:
		return nil, api.OK
	case len(all) == 0:
		return nil, api.ErrProtocol
	}
	slices.SortFunc(all, inOrder)
	return all[0], api.OK
}

// lineOf returns the line of a rule, valid or not.
func lineOf(r api.Rule) string {
	s := fmt.Sprintf("%d:", r.Op)
	for _, i := range r.Items {
		s += fmt.Sprintf(" %d*%d-%d", i.Op, i.Least, i.Most)
	}
	return s + "\n"
}

// textOf returns the text of a protocol, valid or not.
func textOf(p api.Protocol) string {
	s := ""
	for _, r := range p.Rules {
		s += lineOf(r)
	}
	return s
}

var (
	ruleLine = regexp.MustCompile(`^(0|[1-9][0-9]*):((?: (?:0|[1-9][0-9]*)\*(?:0|[1-9][0-9]*)-(?:0|[1-9][0-9]*))*)\n$`)
	itemPart = regexp.MustCompile(` ([0-9]+)\*([0-9]+)-([0-9]+)`)
)

// numberOf returns the number that some digits write, or one that is nowhere valid.
func numberOf(digits string) int {
	n, err := strconv.Atoi(digits)
	if err != nil {
		return -1
	}
	return n
}

// parsed returns what Parse returns.
func parsed(s string) (api.Protocol, int, api.Errno) {
	var p api.Protocol
	for i, l := range strings.SplitAfter(s, "\n") {
		if l == "" { // behind the last newline
			continue
		}
		m := ruleLine.FindStringSubmatch(l)
		if m == nil {
			return api.Protocol{}, i + 1, api.ErrProtocol
		}
		r := api.Rule{Op: numberOf(m[1])}
		for _, part := range itemPart.FindAllStringSubmatch(m[2], -1) {
			r.Items = append(r.Items, api.Item{Op: numberOf(part[1]), Least: numberOf(part[2]), Most: numberOf(part[3])})
		}
		p.Rules = append(p.Rules, r)
		if !isProtocol(p) {
			return api.Protocol{}, i + 1, api.ErrProtocol
		}
	}
	return p, 0, api.OK
}

// sameProtocol reports whether a and b are equal.
func sameProtocol(a, b api.Protocol) bool {
	return slices.EqualFunc(a.Rules, b.Rules, func(a, b api.Rule) bool { return a.Op == b.Op && slices.Equal(a.Items, b.Items) })
}

// copyOf returns a protocol that shares nothing with p.
func copyOf(p api.Protocol) api.Protocol {
	var c api.Protocol
	for _, r := range p.Rules {
		c.Rules = append(c.Rules, api.Rule{Op: r.Op, Items: slices.Clone(r.Items)})
	}
	return c
}

// someItem returns a valid item with one of the first operations, that may be there at most so many times.
func someItem(random *rand.Rand, ops, most int) api.Item {
	i := api.Item{Op: random.Intn(ops), Most: 1 + random.Intn(most)}
	i.Least = random.Intn(i.Most + 1)
	return i
}

// someRule returns a valid rule of an operation with at most so many items.
func someRule(random *rand.Rand, op, items, ops, most int) api.Rule {
	r := api.Rule{Op: op}
	for range random.Intn(items + 1) {
		r.Items = append(r.Items, someItem(random, ops, most))
	}
	return r
}

// someProtocol returns a valid protocol with at most so many rules.
func someProtocol(random *rand.Rand, rules int) api.Protocol {
	var p api.Protocol
	ops, owners, most := 1+random.Intn(12), 1+random.Intn(12), 1+random.Intn(9)
	for range random.Intn(rules + 1) {
		p.Rules = append(p.Rules, someRule(random, random.Intn(owners), 6, ops, most))
	}
	return p
}

// someChildren returns children that come close to those of the items, if there are any.
func someChildren(random *rand.Rand, items []api.Item) []int {
	var l []int
	for _, i := range items {
		for range random.Intn(i.Most + 1) {
			l = append(l, i.Op)
		}
	}
	for range random.Intn(3) {
		k := random.Intn(len(l) + 1)
		switch {
		case random.Intn(2) == 0:
			l = slices.Insert(l, k, random.Intn(12))
		case k < len(l):
			l = slices.Delete(l, k, k+1)
		}
	}
	return l[:min(len(l), 30)]
}

// rightChildren returns children that the items allow, or the first 30 of them.
func rightChildren(random *rand.Rand, items []api.Item) []int {
	var l []int
	for _, i := range items {
		l = append(l, slices.Repeat([]int{i.Op}, i.Least+random.Intn(i.Most-i.Least+1))...)
	}
	return l[:min(len(l), 30)]
}

// sequences returns all lists of the first operations that are at most so long, from shorter to longer ones.
func sequences(ops, length int) [][]int {
	all := [][]int{nil}
	for first := 0; len(all[len(all)-1]) < length; {
		end := len(all)
		for _, l := range all[first:end] {
			for op := range ops {
				all = append(all, append(slices.Clone(l), op))
			}
		}
		first = end
	}
	return all
}

// smallRules returns all rules of the operation 0 with at most so many items, which have one of the first operations and are there at most so many times.
func smallRules(items, ops, most int) []api.Rule {
	var some []api.Item
	for op := range ops {
		for m := 1; m <= most; m++ {
			for least := range m + 1 {
				some = append(some, api.Item{Op: op, Least: least, Most: m})
			}
		}
	}
	var rules []api.Rule
	for _, l := range sequences(len(some), items) {
		var r api.Rule
		for _, n := range l {
			r.Items = append(r.Items, some[n])
		}
		rules = append(rules, r)
	}
	return rules
}

// isWithin reports whether l comes from longer by leaving operations out.
func isWithin(l, longer []int) bool {
	for _, op := range longer {
		if len(l) > 0 && l[0] == op {
			l = l[1:]
		}
	}
	return len(l) == 0
}
