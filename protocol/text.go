package protocol

import (
	"strconv"

	"latecomer/api"
)

// line returns the line of a rule.
func line(rule api.Rule) string {
	s := strconv.Itoa(rule.Op) + ":"
	for _, item := range rule.Items {
		s += " " + strconv.Itoa(item.Op) + "*" + strconv.Itoa(item.Least) + "-" + strconv.Itoa(item.Most)
	}
	return s + "\n"
}

// text is the text of a protocol, or any other string.
type text string

// has reports whether the byte at the offset at is c.
func (s text) has(at int, c byte) bool { return at < len(s) && s[at] == c }

// digits returns the digits at the offset at.
func (s text) digits(at int) string {
	end := at
	for end < len(s) && '0' <= s[end] && s[end] <= '9' {
		end++
	}
	return string(s[at:end])
}

// reader reads the lines of a text, from the offset at on.
type reader struct {
	text
	at int
}

// isAtEnd reports whether there is no line any more.
func (r *reader) isAtEnd() bool { return r.at == len(r.text) }

// mark reads the byte c, and reports whether it is there.
func (r *reader) mark(c byte) bool {
	if !r.has(r.at, c) {
		return false
	}
	r.at++
	return true
}

// number reads a number into n, and reports whether there is one.
func (r *reader) number(n *int) bool {
	digits := r.digits(r.at)
	value, err := strconv.Atoi(digits)
	if err != nil || strconv.Itoa(value) != digits {
		return false
	}
	*n = value
	r.at += len(digits)
	return true
}

// item reads an item, and reports whether there is one, valid or not.
func (r *reader) item(item *api.Item) bool {
	return r.number(&item.Op) && r.mark('*') && r.number(&item.Least) && r.mark('-') && r.number(&item.Most)
}

// rule reads a line, and reports whether it is that of a valid rule.
func (r *reader) rule() (api.Rule, bool) {
	var rule api.Rule
	ok := r.number(&rule.Op) && r.mark(':')
	for ok && len(rule.Items) < api.MaxItems && r.mark(' ') { // a line with more items is not read on
		var item api.Item
		ok = r.item(&item)
		rule.Items = append(rule.Items, item)
	}
	return rule, ok && r.mark('\n') && isRule(rule)
}
