package batch_test

import (
	"crypto/sha256"
	"encoding/binary"
	"math/rand"
	"reflect"
	"strings"

	"latecomer/api"
)

// The functions of this file follow the definitions of the chapter in other ways than the package does: fields are found by their names, numbers are encoded by encoding/binary and digested by crypto/sha256, and decoding is done without a panic.

// fieldNames are the fields of an event in the order of its encoding.
func fieldNames() []string {
	return strings.Fields("Agent Seq At Kind Trace Span Link N Op Version Person Bytes")
}

// field returns the field of an event with this name.
func field(e *api.Event, name string) *int {
	return reflect.ValueOf(e).Elem().FieldByName(name).Addr().Interface().(*int)
}

// among reports whether v is from low to high.
func among(low, v, high int) bool { return low <= v && v <= high }

// isEvent reports whether e is valid, as chapter 8 says.
func isEvent(e api.Event) bool {
	if !among(0, e.Agent, 5) || !among(0, e.Seq, 999) || !among(0, e.At, 1000000) || !among(0, e.Trace, 999) || !among(0, e.Span, 9) || !among(0, e.Bytes, 1000) {
		return false
	}
	others := 0 // how many of the fields that depend on the kind are not 0
	for _, name := range []string{"Link", "N", "Op", "Version", "Person"} {
		if *field(&e, name) != 0 {
			others++
		}
	}
	used := func(values ...int) bool {
		for _, v := range values {
			if v != 0 {
				others--
			}
		}
		return others == 0
	}
	switch e.Kind {
	case api.EBegin:
		return used(e.Link, e.Op, e.Version, e.Person) && among(-1, e.Link, 9) && e.Link != e.Span && among(0, e.Op, 11) && among(0, e.Version, 9) && among(-1, e.Person, 19)
	case api.EEnd:
		return used()
	case api.ESend, api.EReceive:
		return used(e.Link) && among(0, e.Link, 99)
	case api.EAcquire, api.ERelease:
		return used(e.Link, e.N) && among(0, e.Link, 99) && among(0, e.N, 99)
	case api.ECancel:
		return used(e.Link) && among(0, e.Link, 9)
	}
	return false
}

// integer returns the encoding of n: encoding/binary calls it a varint.
func integer(n int) string { return string(binary.AppendVarint(nil, int64(n))) }

// eventCode returns the encoding of e, valid or not.
func eventCode(e api.Event) string {
	code := ""
	for _, name := range fieldNames() {
		code += integer(*field(&e, name))
	}
	return code
}

// batchCode returns the encoding of b, valid or not.
func batchCode(b api.Batch) string {
	code := integer(b.Agent) + integer(b.First) + integer(b.Low) + integer(len(b.Events))
	for _, e := range b.Events {
		code += eventCode(e)
	}
	return code + b.Head
}

// isBatch reports whether b is valid.
func isBatch(b api.Batch) bool {
	for i, e := range b.Events {
		if !isEvent(e) || e.Agent != b.Agent || e.Seq-b.First != i {
			return false
		}
	}
	return among(0, b.Agent, 5) && among(0, b.First, 999) && len(b.Events) < 25 && among(0, b.Low, 1000) && len(b.Head) == 32
}

// readInteger returns the integer with which s begins, and the rest of s. There is none if s does not begin with exactly what encodes an integer.
func readInteger(s string) (int, string, bool) {
	n, length := binary.Varint([]byte(s))
	if length < 1 || n > 1<<62-1 || n < 1-1<<62 || integer(int(n)) != s[:length] {
		return 0, "", false
	}
	return int(n), s[length:], true
}

// readEvent returns the valid event with whose encoding s begins, and the rest of s.
func readEvent(s string) (api.Event, string, bool) {
	var e api.Event
	for _, name := range fieldNames() {
		n, rest, ok := readInteger(s)
		if !ok {
			return api.Event{}, "", false
		}
		*field(&e, name), s = n, rest
	}
	if !isEvent(e) {
		return api.Event{}, "", false
	}
	return e, s, true
}

// readBatch returns the valid batch with whose encoding s begins, and the rest of s.
func readBatch(s string) (api.Batch, string, bool) {
	var n [4]int
	ok := true
	for i := range n {
		if n[i], s, ok = readInteger(s); !ok {
			return api.Batch{}, "", false
		}
	}
	if n[3] < 0 || n[3] > 24 {
		return api.Batch{}, "", false
	}
	b := api.Batch{Agent: n[0], First: n[1], Low: n[2]}
	for range n[3] {
		e, rest, ok := readEvent(s)
		if !ok {
			return api.Batch{}, "", false
		}
		b.Events, s = append(b.Events, e), rest
	}
	if len(s) < 32 {
		return api.Batch{}, "", false
	}
	b.Head = s[:32]
	if !isBatch(b) {
		return api.Batch{}, "", false
	}
	return b, s[32:], true
}

// chainOf returns the chain of head and l, by its definition: that without the last event comes first.
func chainOf(head string, l []api.Event) string {
	if len(l) == 0 {
		return head
	}
	last := len(l) - 1
	digest := sha256.Sum256([]byte("\x02" + chainOf(head, l[:last]) + eventCode(l[last])))
	return string(digest[:])
}

// zeros is the head of no events.
func zeros() string { return string(make([]byte, 32)) }

// isStream reports whether l is a stream of the agent.
func isStream(agent int, l []api.Event) bool {
	if len(l) > 1000 || !among(0, agent, 5) {
		return false
	}
	for i, e := range l {
		if !isEvent(e) || e.Agent != agent || e.Seq != i {
			return false
		}
	}
	return true
}

// split returns the parts that Split should, and whether there are any.
func split(agent int, l []api.Event, sizes, lows []int) ([]api.Batch, bool) {
	if !isStream(agent, l) || len(sizes) > 200 || len(lows) != len(sizes) {
		return nil, false
	}
	var all []api.Batch
	end := 0
	for i, size := range sizes {
		if !among(0, size, 24) || !among(0, lows[i], 1000) || end > 999 || end+size > len(l) {
			return nil, false
		}
		b := api.Batch{Agent: agent, First: end, Events: l[end : end+size], Low: lows[i]}
		end += size
		b.Head = chainOf(zeros(), l[:end])
		for _, e := range l[end:] {
			if e.Trace < b.Low {
				return nil, false
			}
		}
		all = append(all, b)
	}
	return all, end == len(l)
}

// sameBatch reports whether a and b are equal.
func sameBatch(a, b api.Batch) bool {
	if len(a.Events) != len(b.Events) || a.Agent != b.Agent || a.First != b.First || a.Low != b.Low || a.Head != b.Head {
		return false
	}
	for i := range a.Events {
		if a.Events[i] != b.Events[i] {
			return false
		}
	}
	return true
}

// pick returns one of l.
func pick(random *rand.Rand, l ...int) int { return l[random.Intn(len(l))] }

// randomEvent returns a valid event; its fields are often at their limits.
func randomEvent(random *rand.Rand, agent, seq int) api.Event {
	e := api.Event{
		Agent: agent, Seq: seq, At: pick(random, 0, 63, 64, 1000000, random.Intn(1000001)), Kind: 1 + random.Intn(7),
		Trace: pick(random, 0, 7, 999, random.Intn(1000)), Span: random.Intn(10), Bytes: pick(random, 0, 1000, random.Intn(1001)),
	}
	switch e.Kind {
	case api.EBegin:
		e.Link = (e.Span+2+random.Intn(10))%11 - 1
		e.Op, e.Version, e.Person = random.Intn(12), random.Intn(10), random.Intn(21)-1
	case api.ESend, api.EReceive:
		e.Link = random.Intn(100)
	case api.EAcquire, api.ERelease:
		e.Link, e.N = random.Intn(100), random.Intn(100)
	case api.ECancel:
		e.Link = random.Intn(10)
	}
	return e
}

// randomStream returns a stream of so many events of the agent.
func randomStream(random *rand.Rand, agent, count int) []api.Event {
	var l []api.Event
	for seq := range count {
		l = append(l, randomEvent(random, agent, seq))
	}
	return l
}

// randomHead returns 32 bytes.
func randomHead(random *rand.Rand) string {
	head := make([]byte, 32)
	random.Read(head)
	return string(head)
}

// randomBatch returns a valid batch with so many events.
func randomBatch(random *rand.Rand, count int) api.Batch {
	b := api.Batch{Agent: random.Intn(6), First: random.Intn(1001 - max(count, 1)), Low: pick(random, 0, 1000, random.Intn(1001)), Head: randomHead(random)}
	for i := range count {
		b.Events = append(b.Events, randomEvent(random, b.Agent, b.First+i))
	}
	return b
}

// randomCut returns sizes of parts of a stream with so many events, marks among them.
func randomCut(random *rand.Rand, events int) []int {
	var sizes []int
	for events > 0 {
		size := min(events, pick(random, 0, 1, 24, random.Intn(25)))
		sizes = append(sizes, size)
		events -= size
	}
	return sizes
}

// greatestLows returns for each part of a stream the greatest Low that it keeps.
func greatestLows(l []api.Event, sizes []int) []int {
	var lows []int
	for _, size := range sizes {
		l = l[size:]
		low := 1000
		for _, e := range l {
			low = min(low, e.Trace)
		}
		lows = append(lows, low)
	}
	return lows
}
