package clock

import "latecomer/api"

// isEvent reports whether e is valid. The tests are those of fieldTests.
func isEvent(e api.Event, tests map[int]func(api.Event) bool) bool {
	test := tests[e.Kind]
	return test != nil && test(e) &&
		isIn(e.Agent, 0, api.MaxAgents-1) &&
		isIn(e.Seq, 0, api.MaxSeq) &&
		isIn(e.At, 0, api.MaxAt) &&
		isIn(e.Trace, 0, api.MaxTrace) &&
		isIn(e.Span, 0, api.MaxSpans-1) &&
		isIn(e.Bytes, 0, api.MaxBytes)
}

// linkedKind is a kind of events with the greatest Link and N that it allows; the other fields on which kinds have an influence are 0.
type linkedKind struct{ kind, mostLink, mostN int }

// linkedKinds are all kinds of events but EBegin.
var linkedKinds = [...]linkedKind{
	{api.EEnd, 0, 0},
	{api.ESend, api.MaxLink, 0},
	{api.EReceive, api.MaxLink, 0},
	{api.EAcquire, api.MaxLink, api.MaxLink},
	{api.ERelease, api.MaxLink, api.MaxLink},
	{api.ECancel, api.MaxSpans - 1, 0},
}

// fieldTests returns, for each kind of events, the test of the fields on which the kind has an influence.
func fieldTests() map[int]func(api.Event) bool {
	tests := map[int]func(api.Event) bool{api.EBegin: isBegin}
	for _, k := range linkedKinds {
		tests[k.kind] = linked(k.mostLink, k.mostN)
	}
	return tests
}

// linked returns a test whether Link and N are at most so great, and the other fields 0.
func linked(mostLink, mostN int) func(api.Event) bool {
	return func(e api.Event) bool {
		return isIn(e.Link, 0, mostLink) && isIn(e.N, 0, mostN) && e.Op == 0 && e.Version == 0 && e.Person == 0
	}
}

// isBegin reports whether e has the fields of the beginning of a span.
func isBegin(e api.Event) bool {
	return isIn(e.Link, -1, api.MaxSpans-1) && e.Link != e.Span &&
		e.N == 0 &&
		isIn(e.Op, 0, api.MaxOps-1) &&
		isIn(e.Version, 0, api.MaxVersion) &&
		isIn(e.Person, -1, api.MaxPerson)
}

// follows reports whether b may be the next event of a trace behind a.
func follows(a, b api.Event) bool {
	return a.Trace == b.Trace && (a.Agent < b.Agent || a.Agent == b.Agent && a.Seq < b.Seq)
}
