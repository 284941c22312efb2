package inbox

import (
	"iter"
	"slices"
	"strings"

	"latecomer/api"
	"latecomer/batch"
)

// stream is what is known of the stream of an agent.
type stream struct {
	agent  int
	events []api.Event
	heads  []string // of the first events: heads[n] is the chain of n of them
	used   []api.Batch
	forked bool
}

// streamIn returns the stream of an agent in an inbox, or an empty one if there is an error.
func streamIn(in api.Inbox, agent int) (stream, api.Errno) {
	if agent < 0 || agent >= api.MaxAgents || !Valid(in) {
		return stream{}, api.ErrInbox
	}
	return streamOf(in.Batches, agent), api.OK
}

// streamOf returns the stream of an agent in the batches l of a valid inbox.
func streamOf(l []api.Batch, agent int) stream {
	s := stream{agent: agent, heads: []string{strings.Repeat("\x00", api.DigestSize)}}
	s.grow(l)
	for b := range those(l, s.confirms) {
		s.used = append(s.used, b)
	}
	return s
}

// those yields the batches of l that are chosen.
func those(l []api.Batch, isChosen func(api.Batch) bool) iter.Seq[api.Batch] {
	return func(yield func(api.Batch) bool) {
		for _, b := range l {
			if isChosen(b) && !yield(b) {
				return
			}
		}
	}
}

// grow adds the events of one batch of l after the other, as long as exactly one fits.
func (s *stream) grow(l []api.Batch) {
growth:
	for {
		var next []api.Batch
		for b := range those(l, s.fits) {
			if len(next) > 0 {
				s.forked = true
				break growth
			}
			next = append(next, b)
		}
		if len(next) == 0 {
			break
		}
		s.add(next[0])
	}
}

// fits reports whether the events of b continue the stream where it ends now.
func (s *stream) fits(b api.Batch) bool {
	n := len(s.events)
	return len(b.Events) > 0 && b.First == n && s.continues(n, b)
}

// confirms reports whether b is a mark somewhere in the stream: also where no batch ends.
func (s *stream) confirms(b api.Batch) bool {
	return len(b.Events) == 0 && b.First <= len(s.events) && s.continues(b.First, b)
}

// continues reports whether b is one of this agent and follows the chain of the first n events.
func (s *stream) continues(n int, b api.Batch) bool {
	return b.Agent == s.agent && batch.Follows(s.heads[n], b)
}

// add adds the events of b, which fits.
func (s *stream) add(b api.Batch) {
	for i := range b.Events {
		head, _ := batch.Chain(s.heads[len(s.events)], b.Events[i:i+1])
		s.events = append(s.events, b.Events[i])
		s.heads = append(s.heads, head)
	}
	s.used = append(s.used, b)
}

// low returns the watermark.
func (s *stream) low() int {
	low := 0
	for _, b := range s.used {
		low = max(low, b.Low)
	}
	return low
}

// isBroken reports whether the agent has broken its word.
func (s *stream) isBroken() bool { return slices.ContainsFunc(s.used, s.breaks) }

// breaks reports whether an event of the stream behind b, which is used, has a Trace that its Low rules out.
func (s *stream) breaks(b api.Batch) bool {
	behind := s.events[b.First+len(b.Events):]
	return slices.ContainsFunc(behind, func(e api.Event) bool { return e.Trace < b.Low })
}

// isSameBatch reports whether a and b are equal, valid or not.
func isSameBatch(a, b api.Batch) bool {
	return a.Agent == b.Agent && a.First == b.First && a.Low == b.Low && a.Head == b.Head && slices.Equal(a.Events, b.Events)
}

// copyOf returns b in new memory.
func copyOf(b api.Batch) api.Batch {
	b.Events = append([]api.Event(nil), b.Events...)
	b.Head = strings.Clone(b.Head)
	return b
}
