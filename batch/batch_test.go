package batch_test

import (
	"encoding/hex"
	"fmt"
	"math"
	"math/rand"
	"slices"
	"strings"
	"testing"
	"unsafe"

	"latecomer/api"
	"latecomer/batch"
	"latecomer/digest"
)

// outside are numbers that no field of an event or a batch may have.
func outside() []int {
	return []int{-2, -100, 1 << 20, 1<<32 + 1, -1<<32 + 1, 1<<62 - 1, 1 - 1<<62, 1 << 62, -1 << 62, math.MinInt, math.MinInt + 1, math.MaxInt, math.MaxInt - 1}
}

// surroundings are what may be before or behind an encoding.
func surroundings() []string {
	return []string{"", "\x00", "\x01", "\x80", "\xff", "\xff\xff\xff\xff\xff\xff\xff\xff\xff\xff", zeros(), eventCode(api.Event{Kind: api.EEnd})}
}

// checkEncode checks what Encode returns, and that Decode returns e from it.
func checkEncode(t *testing.T, e api.Event) bool {
	t.Helper()
	want, wantErr := eventCode(e), api.OK
	if !isEvent(e) {
		want, wantErr = "", api.ErrBatch
	}
	got, err := batch.Encode(e)
	if got != want || err != wantErr {
		t.Fatalf("Encode(%+v) = %x, %d; want %x, %d", e, got, err, want, wantErr)
	}
	if err == api.OK {
		checkDecode(t, got, 0)
	}
	return err == api.OK
}

// checkDecode checks what Decode returns, and returns whether it is an event.
func checkDecode(t *testing.T, s string, at int) bool {
	t.Helper()
	want, wantEnd, wantErr := api.Event{}, 0, api.ErrBatch
	if at >= 0 && at <= len(s) {
		if e, rest, ok := readEvent(s[at:]); ok {
			want, wantEnd, wantErr = e, len(s)-len(rest), api.OK
		}
	}
	e, end, err := batch.Decode(s, at)
	if e != want || end != wantEnd || err != wantErr {
		t.Fatalf("Decode(%x, %d) = %+v, %d, %d; want %+v, %d, %d", s, at, e, end, err, want, wantEnd, wantErr)
	}
	if err != api.OK {
		return false
	}
	if again, err := batch.Encode(e); again != s[at:end] || err != api.OK {
		t.Fatalf("Decode(%x, %d) = %+v, but Encode of that = %x, %d", s, at, e, again, err)
	}
	return true
}

// checkEncodeBatch checks what Valid and EncodeBatch return, and that DecodeBatch returns b from it.
func checkEncodeBatch(t *testing.T, b api.Batch) bool {
	t.Helper()
	want, wantErr := batchCode(b), api.OK
	if !isBatch(b) {
		want, wantErr = "", api.ErrBatch
	}
	if got := batch.Valid(b); got != isBatch(b) {
		t.Fatalf("Valid(%+v) = %t", b, got)
	}
	got, err := batch.EncodeBatch(b)
	if got != want || err != wantErr {
		t.Fatalf("EncodeBatch(%+v) = %x, %d; want %x, %d", b, got, err, want, wantErr)
	}
	if err == api.OK {
		checkDecodeBatch(t, got, 0)
	}
	return err == api.OK
}

// checkDecodeBatch checks what DecodeBatch returns, and returns whether it is a batch.
func checkDecodeBatch(t *testing.T, s string, at int) bool {
	t.Helper()
	want, wantEnd, wantErr := api.Batch{}, 0, api.ErrBatch
	if at >= 0 && at <= len(s) {
		if b, rest, ok := readBatch(s[at:]); ok {
			want, wantEnd, wantErr = b, len(s)-len(rest), api.OK
		}
	}
	b, end, err := batch.DecodeBatch(s, at)
	if !sameBatch(b, want) || end != wantEnd || err != wantErr {
		t.Fatalf("DecodeBatch(%x, %d) = %+v, %d, %d; want %+v, %d, %d", s, at, b, end, err, want, wantEnd, wantErr)
	}
	if err != api.OK {
		return false
	}
	if again, err := batch.EncodeBatch(b); again != s[at:end] || err != api.OK {
		t.Fatalf("DecodeBatch(%x, %d) = %+v, but EncodeBatch of that = %x, %d", s, at, b, again, err)
	}
	return true
}

// checkFollows checks what Follows returns, and returns it.
func checkFollows(t *testing.T, head string, b api.Batch) bool {
	t.Helper()
	want := len(head) == 32 && isBatch(b) && b.Head == chainOf(head, b.Events)
	if got := batch.Follows(head, b); got != want {
		t.Fatalf("Follows(%x, %+v) = %t", head, b, got)
	}
	return want
}

// checkSplit checks what Split returns, and returns the parts and whether there are any.
func checkSplit(t *testing.T, agent int, l []api.Event, sizes, lows []int) ([]api.Batch, bool) {
	t.Helper()
	want, ok := split(agent, l, sizes, lows)
	wantErr := api.OK
	if !ok {
		want, wantErr = nil, api.ErrBatch
	}
	got, err := batch.Split(agent, l, sizes, lows)
	if !slices.EqualFunc(got, want, sameBatch) || err != wantErr {
		t.Fatalf("Split(%d, %v, %v, %v) = %+v, %d; want %+v, %d", agent, l, sizes, lows, got, err, want, wantErr)
	}
	return got, ok
}

// example is the event of the chapter's examples.
func example() api.Event {
	return api.Event{Agent: 1, Seq: 0, At: 10, Kind: api.EEnd, Trace: 3, Span: 2, Bytes: 5}
}

func TestExamples(t *testing.T) { // P9.1
	e := example()
	code, err := batch.Encode(e)
	if want := "02001404060400000000000a"; hex.EncodeToString([]byte(code)) != want || err != api.OK {
		t.Errorf("Encode = %x, %d; want %s", code, err, want)
	}
	head := digest.Chain(zeros(), code)
	for _, low := range []int{4, 1000} {
		l, err := batch.Split(1, []api.Event{e}, []int{1}, []int{low})
		want := api.Batch{Agent: 1, Events: []api.Event{e}, Low: low, Head: head}
		if len(l) != 1 || !sameBatch(l[0], want) || err != api.OK {
			t.Errorf("Split with Low %d = %+v, %d", low, l, err)
		}
	}
	l, err := batch.Split(1, []api.Event{e}, []int{0, 1}, []int{3, 4})
	mark, rest := api.Batch{Agent: 1, Low: 3, Head: zeros()}, api.Batch{Agent: 1, Events: []api.Event{e}, Low: 4, Head: head}
	if len(l) != 2 || !sameBatch(l[0], mark) || !sameBatch(l[1], rest) || err != api.OK {
		t.Errorf("Split with a mark = %+v, %d", l, err)
	}
	if l, err := batch.Split(1, []api.Event{e}, []int{0, 1}, []int{4, 4}); len(l) != 0 || err != api.ErrBatch {
		t.Errorf("Split with a Low that is not kept = %+v, %d", l, err)
	}
}

func TestEventFields(t *testing.T) { // P9.1, P9.2: every field with all numbers of interest
	random := rand.New(rand.NewSource(1))
	counts := map[bool]int{}
	for range 30 {
		e := randomEvent(random, random.Intn(6), random.Intn(1000))
		for _, name := range fieldNames() {
			for _, v := range append(outside(), -1, 0, 1, 2, 3, 5, 6, 7, 8, 9, 10, 11, 12, 19, 20, 63, 64, 99, 100, 999, 1000, 1001, 8191, 8192, 1000000, 1000001) {
				changed := e
				*field(&changed, name) = v
				counts[checkEncode(t, changed)]++
				checkDecode(t, eventCode(changed), 0)
			}
		}
	}
	if counts[true] < 1000 || counts[false] < 1000 {
		t.Errorf("so many are valid: %v", counts)
	}
	if checkEncode(t, api.Event{}) {
		t.Error("a zero event is valid")
	}
}

func TestEventsInSurroundings(t *testing.T) { // P9.2
	random := rand.New(rand.NewSource(2))
	for try := range 300 {
		e := randomEvent(random, try%6, random.Intn(1000))
		code := eventCode(e)
		for _, before := range surroundings() {
			for _, after := range surroundings() {
				got, end, err := batch.Decode(before+code+after, len(before))
				if got != e || end != len(before)+len(code) || err != api.OK {
					t.Fatalf("Decode of %x between %x and %x = %+v, %d, %d", code, before, after, got, end, err)
				}
			}
		}
		for at := -1; at <= len(code)+1; at++ {
			checkDecode(t, code, at)
		}
		for end := range len(code) {
			if checkDecode(t, code[:end], 0) {
				t.Fatalf("the first %d bytes of %x are an encoding", end, code)
			}
		}
		for _, at := range outside() {
			if checkDecode(t, code, at) {
				t.Fatalf("there is an event at %d", at)
			}
		}
	}
}

func TestEventsAfterChanges(t *testing.T) { // P9.2: what is decoded is an encoding, and nothing else is decoded
	random := rand.New(rand.NewSource(3))
	counts := map[bool]int{}
	for range 40000 {
		code := []byte(eventCode(randomEvent(random, random.Intn(6), random.Intn(1000))))
		for range 1 + random.Intn(2) {
			i := random.Intn(len(code))
			switch random.Intn(4) {
			case 0:
				code[i] = byte(random.Intn(256))
			case 1:
				code[i] ^= 128
			case 2:
				code = slices.Insert(code, i, byte(pick(random, 0, 2, 128, 255)))
			case 3:
				code[i] += byte(pick(random, 1, 2, 255, 254))
			}
		}
		counts[checkDecode(t, string(code), 0)]++
	}
	if counts[true] < 1000 || counts[false] < 1000 {
		t.Errorf("so many are decoded: %v", counts)
	}
}

func TestOneEventHasOneEncoding(t *testing.T) { // P9.2: no superfluous groups, and no number that is too great
	code := eventCode(example())
	for i := range code { // each field is one byte
		before, after := code[:i], code[i+1:]
		long := string([]byte{code[i] + 128})
		for _, other := range []string{long + "\x00", long + "\x80\x00", long, "", "\xff\xff\xff\xff\xff\xff\xff\xff\x7f"} {
			if checkDecode(t, before+other+after, 0) {
				t.Errorf("Decode accepts %x as the field %d", other, i)
			}
		}
	}
	for _, s := range []string{"", "\x00", strings.Repeat("\x00", 12), strings.Repeat("\x00", 11), strings.Repeat("\x80", 300), strings.Repeat("\xff", 300)} {
		if checkDecode(t, s, 0) || checkDecodeBatch(t, s, 0) {
			t.Errorf("%x is an encoding", s)
		}
	}
}

// batchFields changes one field of a batch at a time.
func batchFields(b api.Batch, v int) []api.Batch {
	l := []api.Batch{b, b, b}
	l[0].Agent = v
	l[1].First = v
	l[2].Low = v
	return l
}

func TestBatchFields(t *testing.T) { // P9.1, P9.2
	random := rand.New(rand.NewSource(4))
	counts := map[bool]int{}
	for try := range 40 {
		b := randomBatch(random, []int{0, 1, 2, 5, 24}[try%5])
		if !checkEncodeBatch(t, b) {
			t.Fatalf("%+v is not valid", b)
		}
		for _, v := range append(outside(), -1, 0, 1, 4, 5, 6, 998, 999, 1000, 1001, b.First-1, b.First+1) {
			for _, changed := range batchFields(b, v) {
				counts[checkEncodeBatch(t, changed)]++
				checkDecodeBatch(t, batchCode(changed), 0)
			}
		}
		for _, length := range []int{0, 1, 31, 33, 64} {
			changed := b
			changed.Head = strings.Repeat("h", length)
			if checkEncodeBatch(t, changed) {
				t.Fatalf("%d bytes are a head", length)
			}
		}
		for i := range b.Events {
			for _, name := range fieldNames() {
				old := *field(&b.Events[i], name)
				for _, v := range []int{-2, 1000, old - 1, old + 1} {
					*field(&b.Events[i], name) = v
					counts[checkEncodeBatch(t, b)]++
					checkDecodeBatch(t, batchCode(b), 0)
				}
				*field(&b.Events[i], name) = old
			}
		}
	}
	if counts[true] < 500 || counts[false] < 1000 {
		t.Errorf("so many are valid: %v", counts)
	}
}

func TestBatchNumbers(t *testing.T) { // P9.1: how many events there may be, and where the last one is
	random := rand.New(rand.NewSource(5))
	for count := range 27 {
		for first := 999 - 30; first <= 1001; first++ {
			b := api.Batch{Agent: 5, First: first, Low: 1000, Head: randomHead(random)}
			for i := range count {
				b.Events = append(b.Events, randomEvent(random, 5, first+i))
			}
			want := count <= 24 && first <= 999 && first+count <= 1000
			if got := checkEncodeBatch(t, b); got != want {
				t.Fatalf("a batch of %d events from %d on is valid: %t", count, first, got)
			}
			if got := checkDecodeBatch(t, batchCode(b)+zeros(), 0); got != want {
				t.Fatalf("a batch of %d events from %d on is decoded: %t", count, first, got)
			}
		}
	}
	many := api.Batch{Head: zeros(), Events: make([]api.Event, 1<<20)}
	if batch.Valid(many) || batch.Follows(zeros(), many) {
		t.Error("a batch of very many events is valid")
	}
	for _, count := range append(outside(), -1, 25) { // the number of events is none, and nothing else is wrong
		if n := integer(count); checkDecodeBatch(t, "\x00\x00\x00"+n+zeros(), 0) {
			t.Errorf("there are %d events", count)
		}
	}
}

func TestBatchesInSurroundings(t *testing.T) { // P9.2
	random := rand.New(rand.NewSource(6))
	for try := range 75 {
		b := randomBatch(random, try%25)
		code := batchCode(b)
		for _, before := range surroundings() {
			for _, after := range surroundings() {
				got, end, err := batch.DecodeBatch(before+code+after, len(before))
				if !sameBatch(got, b) || end != len(before)+len(code) || err != api.OK {
					t.Fatalf("DecodeBatch of %x between %x and %x = %+v, %d, %d", code, before, after, got, end, err)
				}
			}
		}
		for at := -1; at <= len(code)+1; at++ {
			checkDecodeBatch(t, code, at)
		}
		for end := range len(code) {
			if checkDecodeBatch(t, code[:end], 0) {
				t.Fatalf("the first %d bytes of %x are an encoding", end, code)
			}
		}
		for _, at := range outside() {
			if checkDecodeBatch(t, code, at) {
				t.Fatalf("there is a batch at %d", at)
			}
		}
	}
}

func TestBatchesAfterChanges(t *testing.T) { // P9.2: what is decoded is an encoding, and nothing else is decoded
	random := rand.New(rand.NewSource(7))
	counts := map[bool]int{}
	for range 20000 {
		code := []byte(batchCode(randomBatch(random, pick(random, 0, 1, 2, 3, 24))))
		i := random.Intn(max(5, len(code)-32))
		switch random.Intn(4) {
		case 0:
			code[i] = byte(random.Intn(256))
		case 1:
			code[i] ^= 128
		case 2:
			code = slices.Insert(code, i, byte(pick(random, 0, 2, 128, 255)))
		case 3:
			code[i] += byte(pick(random, 1, 2, 255, 254))
		}
		counts[checkDecodeBatch(t, string(code), 0)]++
	}
	if counts[true] < 1000 || counts[false] < 1000 {
		t.Errorf("so many are decoded: %v", counts)
	}
}

func TestEncodingsOneAfterTheOther(t *testing.T) { // P9.2
	random := rand.New(rand.NewSource(8))
	for range 100 {
		var events []api.Event
		var batches []api.Batch
		s := ""
		for range random.Intn(10) {
			e, b := randomEvent(random, 3, random.Intn(1000)), randomBatch(random, random.Intn(4))
			events, batches = append(events, e), append(batches, b)
			s += eventCode(e) + batchCode(b)
		}
		at := 0
		for i := range events {
			e, end, err := batch.Decode(s, at)
			b, next, errBatch := batch.DecodeBatch(s, end)
			if e != events[i] || !sameBatch(b, batches[i]) || err != api.OK || errBatch != api.OK {
				t.Fatalf("at %d, there is %+v, %d and %+v, %d", at, e, err, b, errBatch)
			}
			at = next
		}
		if at != len(s) {
			t.Fatalf("%d of %d bytes are decoded", at, len(s))
		}
	}
}

func TestChain(t *testing.T) { // P9.1
	random := rand.New(rand.NewSource(9))
	for try := range 200 {
		var l []api.Event
		for range try % 40 {
			l = append(l, randomEvent(random, random.Intn(6), random.Intn(1000)))
		}
		head := randomHead(random)
		got, err := batch.Chain(head, l)
		if got != chainOf(head, l) || err != api.OK {
			t.Fatalf("Chain(%x, %v) = %x, %d", head, l, got, err)
		}
		k := random.Intn(len(l) + 1)
		middle, _ := batch.Chain(head, l[:k])
		if again, err := batch.Chain(middle, l[k:]); again != got || err != api.OK {
			t.Fatalf("Chain of the events from %d on = %x, %d; want %x", k, again, err, got)
		}
		for _, length := range []int{0, 31, 33, 64} {
			if s, err := batch.Chain(strings.Repeat("h", length), l); s != "" || err != api.ErrBatch {
				t.Fatalf("Chain of a head of %d bytes = %x, %d", length, s, err)
			}
		}
		for i := range l {
			bad := slices.Clone(l)
			*field(&bad[i], []string{"Agent", "At", "Kind", "Bytes"}[random.Intn(4)]) = -1
			if s, err := batch.Chain(head, bad); s != "" || err != api.ErrBatch {
				t.Fatalf("Chain(%v) = %x, %d", bad, s, err)
			}
		}
	}
	var long []api.Event // not limited to what a stream may have
	for range 3000 {
		long = append(long, example())
	}
	if s, err := batch.Chain(zeros(), long); s != chainOf(zeros(), long) || err != api.OK {
		t.Errorf("Chain of 3000 events = %x, %d", s, err)
	}
}

func TestFollows(t *testing.T) { // P9.1
	random := rand.New(rand.NewSource(10))
	for try := range 100 {
		head := randomHead(random)
		b := randomBatch(random, try%25)
		if checkFollows(t, head, b) {
			t.Fatal("a batch with any Head follows")
		}
		b.Head = chainOf(head, b.Events)
		if !checkFollows(t, head, b) {
			t.Fatalf("%+v does not follow %x", b, head)
		}
		for _, other := range []string{"", head[:31], head + "\x00", zeros(), b.Head, randomHead(random)} {
			if other != b.Head || len(b.Events) > 0 {
				if checkFollows(t, other, b) {
					t.Fatalf("%+v follows %x", b, other)
				}
			}
			wrong := b // what it would be if this were a head
			wrong.Head = chainOf(other, b.Events)
			if checkFollows(t, other, wrong) != (len(other) == 32) {
				t.Fatalf("%+v follows %x", wrong, other)
			}
		}
		for _, v := range []int{-1, 1000, 1001} {
			for _, changed := range batchFields(b, v) {
				checkFollows(t, head, changed)
			}
		}
		for i := range 32 {
			changed := []byte(b.Head)
			changed[i] ^= byte(1 << random.Intn(8))
			wrong := b
			wrong.Head = string(changed)
			if checkFollows(t, head, wrong) {
				t.Fatalf("%+v follows %x", wrong, head)
			}
		}
	}
}

// numbered returns l with the numbers and the agent of a batch.
func numbered(l []api.Event, agent, first int) []api.Event {
	l = slices.Clone(l)
	for i := range l {
		l[i].Agent, l[i].Seq = agent, first+i
	}
	return l
}

func TestHeadsDetermineStreams(t *testing.T) { // P9.5
	random := rand.New(rand.NewSource(11))
	changes := 0
	for try := range 96 {
		head := randomHead(random)
		b := randomBatch(random, 1+try%24)
		b.Head = chainOf(head, b.Events)
		for i, e := range b.Events {
			for _, name := range fieldNames() {
				for _, by := range []int{-1, 1, 5} {
					other := b
					other.Events = slices.Clone(b.Events)
					*field(&other.Events[i], name) += by
					if checkFollows(t, head, other) {
						t.Fatalf("%+v follows %x", other, head)
					}
					s, err := batch.Chain(head, other.Events)
					if s == b.Head || (err == api.OK) != isEvent(other.Events[i]) {
						t.Fatalf("%v have the chain %x, %d", other.Events, s, err)
					}
					if err == api.OK {
						changes++
					}
				}
			}
			other := b
			other.Events = slices.Clone(b.Events)
			other.Events[i] = randomEvent(random, b.Agent, b.First+i)
			if checkFollows(t, head, other) != (other.Events[i] == e) {
				t.Fatalf("%+v follows %x", other, head)
			}
		}
		for range 5 {
			other := b
			other.Events = slices.Clone(b.Events)
			random.Shuffle(len(other.Events), func(i, j int) {
				other.Events[i], other.Events[j] = other.Events[j], other.Events[i]
			})
			other.Events = numbered(other.Events, b.Agent, b.First)
			if checkFollows(t, head, other) != slices.Equal(other.Events, b.Events) {
				t.Fatalf("%+v follows %x", other, head)
			}
		}
	}
	if changes < 5000 {
		t.Errorf("%d of the changes are valid", changes)
	}
}

func TestSplit(t *testing.T) { // P9.1, P9.3
	random := rand.New(rand.NewSource(12))
	kept := map[bool]int{}
	for try := range 240 {
		agent := try % 6
		l := randomStream(random, agent, random.Intn(70))
		sizes := randomCut(random, len(l))
		lows := greatestLows(l, sizes)
		parts, ok := checkSplit(t, agent, l, sizes, lows)
		if !ok || len(parts) != len(sizes) {
			t.Fatalf("Split(%d, %v, %v, %v) = %+v", agent, l, sizes, lows, parts)
		}
		head := zeros()
		var events []api.Event
		for i, b := range parts {
			if !batch.Valid(b) || !batch.Follows(head, b) || len(b.Events) != sizes[i] || b.First != len(events) || b.Agent != agent || b.Low != lows[i] {
				t.Fatalf("the part %d of %v by %v is %+v", i, l, sizes, b)
			}
			head = b.Head
			events = append(events, b.Events...)
		}
		if !slices.Equal(events, l) {
			t.Fatalf("the parts of %v are %v", l, events)
		}
		for i := range lows {
			for _, low := range []int{lows[i] - 1, lows[i] + 1, 0, 1000, random.Intn(1001)} {
				changed := slices.Clone(lows)
				changed[i] = low
				_, ok := checkSplit(t, agent, l, sizes, changed)
				kept[ok]++
			}
		}
	}
	if kept[true] < 100 || kept[false] < 100 {
		t.Errorf("so many are kept: %v", kept)
	}
}

func TestLows(t *testing.T) { // P9.6: all Lows of all parts of streams with few traces
	random := rand.New(rand.NewSource(13))
	for range 60 {
		l := randomStream(random, 0, random.Intn(6))
		for i := range l {
			l[i].Trace = pick(random, 0, 1, 2, 3, 998, 999)
		}
		for size := range len(l) + 1 {
			for _, low := range []int{0, 1, 2, 3, 4, 997, 998, 999, 1000} {
				want := true
				for _, e := range l[size:] {
					want = want && low <= e.Trace
				}
				if _, ok := checkSplit(t, 0, l, []int{size, len(l) - size}, []int{low, 0}); ok != want {
					t.Fatalf("the Low %d behind %d of %v is kept: %t", low, size, l, ok)
				}
			}
		}
	}
}

func TestCuts(t *testing.T) { // P9.4: all cuts of a stream, with and without marks
	random := rand.New(rand.NewSource(14))
	for events := range 10 {
		l := randomStream(random, 2, events)
		want := chainOf(zeros(), l)
		for cut := range 1 << max(0, events-1) {
			var sizes []int
			size := 0
			for i := range events {
				size++
				if cut>>i%2 == 1 || i == events-1 {
					sizes = append(sizes, size)
					size = 0
				}
			}
			for _, cut := range [][]int{append(sizes, 0), append([]int{0}, sizes...), sizes} {
				parts, ok := checkSplit(t, 2, l, cut, make([]int, len(cut)))
				if !ok || len(parts) > 0 && parts[len(parts)-1].Head != want {
					t.Fatalf("Split(%v, %v) = %+v", l, cut, parts)
				}
			}
		}
	}
}

func TestLongStreams(t *testing.T) { // P9.1, P9.3, P9.4
	random := rand.New(rand.NewSource(15))
	l := randomStream(random, 5, 1000)
	sizes := append(slices.Repeat([]int{24}, 41), 16)
	for _, c := range []struct {
		sizes []int
		want  bool
	}{
		{sizes, true},
		{slices.Insert(slices.Clone(sizes), 41, 0), true},
		{append(slices.Clone(sizes), 0), false}, // the mark would have the First 1000
		{slices.Repeat([]int{5}, 200), true},
		{append(slices.Repeat([]int{5}, 199), 4, 1), false}, // 201
		{append(slices.Repeat([]int{0}, 158), sizes...), true},
		{append(slices.Repeat([]int{0}, 159), sizes...), false}, // 201
		{append([]int{25}, append(slices.Repeat([]int{24}, 40), 15)...), false},
		{append([]int{24, 24, -1, 1}, append(slices.Repeat([]int{24}, 39), 16)...), false},
		{append(slices.Clone(sizes[:41]), 15), false},
		{append(slices.Clone(sizes[:41]), 17), false},
		{sizes[:41], false},
		{nil, false},
	} {
		parts, ok := checkSplit(t, 5, l, c.sizes, make([]int, len(c.sizes)))
		if ok != c.want || ok && parts[len(parts)-1].Head != chainOf(zeros(), l) {
			t.Errorf("Split by %v is there: %t", c.sizes, ok)
		}
	}
	long := append(slices.Clone(l), api.Event{Agent: 5, Seq: 1000, Kind: api.EEnd})
	for _, l := range [][]api.Event{long, append(slices.Clone(l), l[999]), append(slices.Clone(l), api.Event{Agent: 5, Kind: api.EEnd})} {
		if _, ok := checkSplit(t, 5, l, slices.Repeat([]int{7}, 143), make([]int, 143)); ok {
			t.Error("Split accepts a stream of 1001 events")
		}
	}
	less := l[:999]
	if _, ok := checkSplit(t, 5, less, append(slices.Repeat([]int{9}, 111), 0), make([]int, 112)); !ok {
		t.Error("Split refuses a mark with the First 999")
	}
}

// refuses checks that Split refuses these arguments.
func refuses(t *testing.T, agent int, l []api.Event, sizes, lows []int) {
	t.Helper()
	if _, ok := checkSplit(t, agent, l, sizes, lows); ok {
		t.Errorf("Split(%d, %v, %v, %v) is OK", agent, l, sizes, lows)
	}
}

func TestSplitRefuses(t *testing.T) { // P9.1
	random := rand.New(rand.NewSource(16))
	l := randomStream(random, 3, 5)
	for i := range l {
		l[i].Trace = 900 + i
	}
	sizes, lows := []int{2, 0, 3}, []int{0, 902, 1000}
	if _, ok := checkSplit(t, 3, l, sizes, lows); !ok {
		t.Fatal("Split refuses a stream")
	}
	for _, agent := range append(outside(), -1, 0, 2, 4, 6) {
		refuses(t, agent, l, sizes, lows)
	}
	for _, agent := range append(outside(), -1, 0, 5, 6) { // no events, so that there is only the agent that may be wrong
		for _, sizes := range [][]int{nil, {0}, {0, 0}} {
			if _, ok := checkSplit(t, agent, nil, sizes, make([]int, len(sizes))); ok != among(0, agent, 5) {
				t.Errorf("%d is an agent: %t", agent, ok)
			}
		}
	}
	for i := range l {
		for _, v := range append(outside(), -1, 0, 7, l[i].Seq+1, l[i].Seq-1) {
			for _, name := range []string{"Agent", "Seq", "Kind", "Bytes"} {
				changed := slices.Clone(l)
				*field(&changed[i], name) = v
				_, ok := checkSplit(t, 3, changed, sizes, lows)
				if ok != isStream(3, changed) {
					t.Errorf("%v is a stream: %t", changed, ok)
				}
			}
		}
	}
	for i := range sizes {
		for _, v := range append(outside(), -1, 25) {
			changedSizes, changedLows := slices.Clone(sizes), slices.Clone(lows)
			changedSizes[i], changedLows[i] = v, v
			refuses(t, 3, l, changedSizes, lows)
			if v != 25 {
				refuses(t, 3, l, sizes, changedLows)
			}
		}
	}
	refuses(t, 3, l, []int{math.MaxInt, math.MaxInt, 7}, lows) // the sum would wrap around to 5
	refuses(t, 3, l, []int{-1, 3, 3}, lows)
	refuses(t, 3, l, []int{2, 0, 2}, lows)
	refuses(t, 3, l, []int{2, 0, 4}, lows)
	refuses(t, 3, l, sizes, []int{0, 902})
	refuses(t, 3, l, sizes, []int{0, 902, 1000, 0})
	refuses(t, 3, l, sizes, nil)
	refuses(t, 3, l, nil, nil)
	refuses(t, 3, l, nil, lows)
	refuses(t, 3, l, sizes, []int{0, 902, 1001})
	refuses(t, 3, l, sizes, []int{0, 902, -1})
	refuses(t, 3, l, sizes, []int{0, 903, 1000})
	refuses(t, 3, l[1:], []int{2, 0, 2}, lows)
	refuses(t, 3, make([]api.Event, 1<<20), sizes, lows)
	refuses(t, 3, nil, make([]int, 201), make([]int, 201))
	if parts, ok := checkSplit(t, 3, nil, make([]int, 200), slices.Repeat([]int{1000}, 200)); !ok || len(parts) != 200 {
		t.Errorf("Split of no events into 200 marks = %d parts", len(parts))
	}
}

// spare returns a copy of l with spare capacity that is full of other elements.
func spare[T any](l []T, other T) []T {
	return append(slices.Clone(l), other, other, other)[:len(l)]
}

// overlap reports whether a and b share memory.
func overlap(a, b string) bool {
	from, to := uintptr(unsafe.Pointer(unsafe.StringData(a))), uintptr(unsafe.Pointer(unsafe.StringData(b)))
	return from < to+uintptr(len(b)) && to < from+uintptr(len(a))
}

func TestResultsAreNew(t *testing.T) { // P9.1
	random := rand.New(rand.NewSource(17))
	for try := range 100 {
		l := randomStream(random, 1, 1+try%40)
		sizes := append(randomCut(random, len(l)), 0)
		lows := greatestLows(l, sizes)
		other := api.Event{Agent: 99}
		events, allSizes, allLows := spare(l, other), spare(sizes, 77), spare(lows, 77)
		parts, err := batch.Split(1, events, allSizes, allLows)
		if err != api.OK {
			t.Fatalf("Split = %d", err)
		}
		for _, b := range parts {
			for i := range b.Events[:cap(b.Events)] { // if they shared memory, others would change too
				b.Events[:cap(b.Events)][i] = api.Event{Agent: -7}
			}
		}
		again, _ := batch.Split(1, events, allSizes, allLows)
		for i, b := range again {
			for j := range b.Events[:cap(b.Events)] {
				b.Events[:cap(b.Events)][j] = api.Event{Agent: -7 - i}
			}
		}
		for i, b := range again {
			for _, e := range b.Events {
				if e.Agent != -7-i {
					t.Fatal("two results share memory")
				}
			}
		}
		if !slices.Equal(events, l) || !slices.Equal(allSizes, sizes) || !slices.Equal(allLows, lows) {
			t.Fatal("an argument is changed")
		}
		if events[:len(l)+1][len(l)] != other || allSizes[:len(sizes)+1][len(sizes)] != 77 || allLows[:len(lows)+1][len(lows)] != 77 {
			t.Fatal("spare capacity is written to")
		}
		for i, b := range again[1:] {
			if overlap(b.Head, again[i].Head) {
				t.Fatal("two heads share memory")
			}
		}
	}
}

func TestBatchesAreNew(t *testing.T) { // P9.1
	random := rand.New(rand.NewSource(18))
	for try := range 50 {
		b := randomBatch(random, try%25)
		other := api.Event{Agent: 99}
		given := b
		given.Events = spare(b.Events, other)
		s, err := batch.EncodeBatch(given)
		got, _, errDecode := batch.DecodeBatch(s, 0)
		if err != api.OK || errDecode != api.OK || !batch.Valid(given) || overlap(s, b.Head) || overlap(got.Head, s) {
			t.Fatalf("the encoding %x of %+v, and what is decoded from it, are not new", s, b)
		}
		head := randomHead(random)
		chain, _ := batch.Chain(head, given.Events)
		given.Head = chain
		if !batch.Follows(head, given) || overlap(chain, head) {
			t.Fatalf("the chain of %+v is not new", given)
		}
		for i := range got.Events[:cap(got.Events)] {
			got.Events[:cap(got.Events)][i] = other
		}
		again, _, _ := batch.DecodeBatch(s, 0)
		given.Head = b.Head
		if !sameBatch(again, b) || !sameBatch(given, b) || given.Events[:len(b.Events)+1][len(b.Events)] != other {
			t.Fatal("an argument is changed")
		}
	}
}

func Example() {
	l := []api.Event{
		{Agent: 1, Seq: 0, At: 10, Kind: api.ESend, Trace: 3, Span: 2, Link: 7, Bytes: 5},
		{Agent: 1, Seq: 1, At: 12, Kind: api.EEnd, Trace: 4, Span: 2, Bytes: 5},
	}
	code, _ := batch.Encode(l[0])
	fmt.Printf("%x\n", code)
	parts, _ := batch.Split(1, l, []int{1, 1}, []int{4, 1000})
	start := strings.Repeat("\x00", api.DigestSize)
	fmt.Println(batch.Follows(start, parts[0]), batch.Follows(start, parts[1]), batch.Follows(parts[0].Head, parts[1]))
	whole, _ := batch.Chain(start, l)
	fmt.Println(whole == parts[1].Head)
	code, _ = batch.EncodeBatch(parts[1])
	b, end, _ := batch.DecodeBatch(code, 0)
	fmt.Println(b.First, b.Low, len(b.Events), end == len(code))
	_, err := batch.Split(1, l, []int{1, 1}, []int{5, 1000})
	fmt.Println(err == api.ErrBatch)
	// Output:
	// 0200140606040e000000000a
	// true false true
	// true
	// 1 1000 1 true
	// true
}
