package inbox_test

import (
	"crypto/sha256"
	"fmt"
	"math/rand"
	"slices"
	"strings"

	"latecomer/api"
	"latecomer/batch"
)

// The functions of this file follow the definitions of the chapter in other ways than the package does: inboxes are joined, sorted and rid of repetitions, chains are computed by crypto/sha256 from the first event on, and a stream grows by recursion. Encodings of events and batches, and which of them are valid, are those of package batch.

// code returns the encoding of b, or none if b is not valid.
func code(b api.Batch) string {
	s, _ := batch.EncodeBatch(b)
	return s
}

// byCode orders batches.
func byCode(a, b api.Batch) int { return strings.Compare(code(a), code(b)) }

// inboxOf returns the inbox with these batches, which are valid.
func inboxOf(l ...api.Batch) api.Inbox {
	l = slices.Clone(l)
	slices.SortFunc(l, byCode)
	return api.Inbox{Batches: slices.CompactFunc(l, func(a, b api.Batch) bool { return code(a) == code(b) })}
}

// isInbox reports whether in is valid.
func isInbox(in api.Inbox) bool {
	if len(in.Batches) > 400 || slices.ContainsFunc(in.Batches, func(b api.Batch) bool { return !batch.Valid(b) }) {
		return false
	}
	return same(in, inboxOf(in.Batches...))
}

// merged returns the inbox that Merge should return, and whether there is one.
func merged(a, b api.Inbox) (api.Inbox, bool) {
	if !isInbox(a) || !isInbox(b) {
		return api.Inbox{}, false
	}
	in := inboxOf(append(slices.Clone(a.Batches), b.Batches...)...)
	if len(in.Batches) > 400 {
		return api.Inbox{}, false
	}
	return in, true
}

// text tells all of an inbox, and nothing of nil.
func text(in api.Inbox) string {
	var s strings.Builder
	for _, b := range in.Batches {
		fmt.Fprintf(&s, "\n%d %d %d %x %v", b.Agent, b.First, b.Low, b.Head, b.Events)
	}
	return s.String()
}

// same reports whether a and b are equal.
func same(a, b api.Inbox) bool { return text(a) == text(b) }

// zeros is the head of no events.
func zeros() string { return string(make([]byte, 32)) }

// chainOf returns the chain of 32 zero bytes and l.
func chainOf(l []api.Event) string {
	head := zeros()
	for _, e := range l {
		s, _ := batch.Encode(e)
		sum := sha256.Sum256([]byte("\x02" + head + s))
		head = string(sum[:])
	}
	return head
}

// view is what an inbox says of an agent.
type view struct {
	events         []api.Event
	used           []api.Batch
	low            int
	forked, broken bool
}

// grown returns the view of an agent whose batches are l, if the first events and the batches that bring them are found; without marks.
func grown(l []api.Batch, v view) view {
	var fit []api.Batch
	for _, b := range l {
		if len(b.Events) > 0 && b.First == len(v.events) && b.Head == chainOf(slices.Concat(v.events, b.Events)) {
			fit = append(fit, b)
		}
	}
	if len(fit) != 1 {
		v.forked = len(fit) > 1
		return v
	}
	return grown(l, view{events: slices.Concat(v.events, fit[0].Events), used: append(v.used, fit[0])})
}

// viewOf returns what a valid inbox says of an agent.
func viewOf(in api.Inbox, agent int) view {
	own := slices.DeleteFunc(slices.Clone(in.Batches), func(b api.Batch) bool { return b.Agent != agent })
	v := grown(own, view{})
	for _, b := range own {
		if len(b.Events) == 0 && b.First <= len(v.events) && b.Head == chainOf(v.events[:b.First]) {
			v.used = append(v.used, b)
		}
	}
	for _, b := range v.used {
		v.low = max(v.low, b.Low)
		for i, e := range v.events {
			if i >= b.First+len(b.Events) && e.Trace < b.Low {
				v.broken = true
			}
		}
	}
	return v
}

// forks returns what Forks should return for a valid inbox.
func forks(in api.Inbox) int {
	set := 0
	for agent := range 6 {
		if v := viewOf(in, agent); v.forked || v.broken {
			set += 1 << agent
		}
	}
	return set
}

// event returns an event of this agent and trace; its other numbers play no part for inboxes.
func event(agent, seq, trace int) api.Event {
	return api.Event{Agent: agent, Seq: seq, At: 10 + seq, Kind: api.EEnd, Trace: trace, Span: 2, Bytes: 5}
}

// part returns the batch with the events of l from the index first on. Its Head is that of l.
func part(agent int, l []api.Event, first, low int) api.Batch {
	return api.Batch{Agent: agent, First: first, Events: slices.Clone(l[first:]), Low: low, Head: chainOf(l)}
}

// stream returns a stream of the agent with so many events, of traces from 0 to 9.
func stream(random *rand.Rand, agent, count int) []api.Event {
	var l []api.Event
	for seq := range count {
		l = append(l, event(agent, seq, random.Intn(10)))
	}
	return l
}

// cut returns sizes of parts of a stream with so many events: at most most, and marks among them.
func cut(random *rand.Rand, events, most int) []int {
	var sizes []int
	for events > 0 {
		size := min(events, random.Intn(most+1))
		sizes = append(sizes, size)
		events -= size
	}
	return sizes
}

// parts returns the parts of a stream by sizes, with Lows that it keeps.
func parts(random *rand.Rand, agent int, l []api.Event, sizes []int) []api.Batch {
	var all []api.Batch
	end := 0
	for _, size := range sizes {
		first := end
		end += size
		low := 1000
		for _, e := range l[end:] {
			low = min(low, e.Trace)
		}
		if random.Intn(3) == 0 {
			low = random.Intn(low + 1)
		}
		all = append(all, part(agent, l[:end], first, low))
	}
	return all
}

// pool returns so many batches, valid ones, most of them of the agent 0, the others of the agent 1. They go on from each other, or from a beginning of each other, in few ways; some do not.
func pool(random *rand.Rand, count int) []api.Batch {
	var all []api.Batch
	told := [2][][]api.Event{{nil}, {nil}} // the lists of events that batches of each agent end with
	for range count {
		agent := random.Intn(4) / 3
		n := len(told[agent])
		l := told[agent][max(random.Intn(n), random.Intn(n), random.Intn(n))] // late ones more often
		if random.Intn(4) == 0 {
			l = l[:random.Intn(len(l)+1)]
		}
		first, low := len(l), max(0, random.Intn(7)-2)
		for range random.Intn(3) {
			l = append(slices.Clone(l), event(agent, len(l), 1+random.Intn(4)-random.Intn(2)*random.Intn(2)))
		}
		b := part(agent, l, first, low)
		switch random.Intn(12) {
		case 0: // behind nothing
			b.Head = chainOf(append(slices.Clone(l), event(0, 0, 0)))
		case 1: // behind a gap, although the Head is that of the events
			b.First++
			for i := range b.Events {
				b.Events[i].Seq++
			}
			b.Head = chainOf(slices.Concat(l[:first], b.Events))
		default:
			told[agent] = append(told[agent], l)
		}
		all = append(all, b)
	}
	return all
}

// subset returns the inbox with those batches of l whose bit is set.
func subset(l []api.Batch, bits int) api.Inbox {
	var some []api.Batch
	for i, b := range l {
		if bits>>i%2 == 1 {
			some = append(some, b)
		}
	}
	return inboxOf(some...)
}
