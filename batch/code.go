package batch

import (
	"strings"

	"latecomer/api"
	"latecomer/clock"
	"latecomer/wire"
)

// numbers returns the encodings of l, one after the other. All of them are numbers that a valid event or batch may have, so each has an encoding.
func numbers(l ...int) string {
	var s strings.Builder
	for _, n := range l {
		part, _ := wire.PutInt(n)
		s.WriteString(part)
	}
	return s.String()
}

// encoding returns the encoding of a valid event.
func encoding(e api.Event) string {
	return numbers(e.Agent, e.Seq, e.At, e.Kind, e.Trace, e.Span, e.Link, e.N, e.Op, e.Version, e.Person, e.Bytes)
}

// batchEncoding returns the encoding of a valid batch.
func batchEncoding(b api.Batch) string {
	var s strings.Builder
	s.WriteString(numbers(b.Agent, b.First, b.Low, len(b.Events)))
	for _, e := range b.Events {
		s.WriteString(encoding(e))
	}
	s.WriteString(b.Head)
	return s.String()
}

// source is a string in which something is encoded. Its methods panic if it is not there.
type source string

// number returns the integer whose encoding begins at the offset at, and the offset after it.
func (s source) number(at int) (int, int) {
	n, after, err := wire.Int(string(s), at)
	require(err == api.OK)
	return n, after
}

// head returns the head that begins at the offset at, and the offset after it.
func (s source) head(at int) (string, int) {
	after := at + api.DigestSize
	require(after <= len(s))
	return strings.Clone(string(s[at:after])), after // a part of s would keep all of s in memory
}

// reader reads a source, from the offset at on. Its methods panic if what they should read is not there.
type reader struct {
	source
	at int
}

// fill reads as many numbers into these variables.
func (r *reader) fill(variables ...*int) {
	for _, v := range variables {
		*v, r.at = r.number(r.at)
	}
}

// event reads a valid event.
func (r *reader) event() api.Event {
	var e api.Event
	r.fill(&e.Agent, &e.Seq, &e.At, &e.Kind, &e.Trace, &e.Span, &e.Link, &e.N, &e.Op, &e.Version, &e.Person, &e.Bytes)
	require(clock.Event(e))
	return e
}

// batch reads a valid batch.
func (r *reader) batch() api.Batch {
	var b api.Batch
	var count int
	r.fill(&b.Agent, &b.First, &b.Low, &count)
	require(isIn(count, 0, api.MaxBatch))
	for range count {
		b.Events = append(b.Events, r.event())
	}
	b.Head, r.at = r.head(r.at)
	require(Valid(b))
	return b
}

// require gives up reading if a condition does not hold; decode recovers from that.
func require(holds bool) {
	if !holds {
		panic(api.ErrBatch)
	}
}

// decode returns what read finds in s at the offset at, and the offset after it.
func decode[T any](s string, at int, read func(*reader) T) (value T, after int, err api.Errno) {
	defer func() {
		if recover() != nil {
			err = api.ErrBatch // the other results are still zero
		}
	}()
	r := &reader{source(s), at}
	value = read(r)
	return value, r.at, api.OK
}
