package inbox_test

import (
	"math"
	"math/bits"
	"math/rand"
	"slices"
	"strings"
	"testing"
	"unsafe"

	"latecomer/api"
	"latecomer/batch"
	"latecomer/digest"
	"latecomer/inbox"
)

// outside are numbers that no agent has.
func outside() []int {
	return []int{-1, 6, 7, 63, 64, -64, 1 << 32, 1<<32 + 1, -1 << 32, math.MaxInt, math.MinInt, math.MinInt + 1}
}

// checkUnion checks that got and err are what Merge of a and b should return, and returns whether there is such an inbox.
func checkUnion(t *testing.T, got api.Inbox, err api.Errno, a, b api.Inbox) bool {
	t.Helper()
	want, ok := merged(a, b)
	wantErr := api.OK
	if !ok {
		wantErr = api.ErrInbox
	}
	if !same(got, want) || err != wantErr {
		t.Fatalf("of%s\nand%s\nthere is %d,%s\nwant %d,%s", text(a), text(b), err, text(got), wantErr, text(want))
	}
	return ok
}

// checkMerge checks what Merge returns, and returns it.
func checkMerge(t *testing.T, a, b api.Inbox) (api.Inbox, bool) {
	t.Helper()
	got, err := inbox.Merge(a, b)
	return got, checkUnion(t, got, err, a, b)
}

// checkPut checks what Put returns, and returns it.
func checkPut(t *testing.T, in api.Inbox, b api.Batch) (api.Inbox, bool) {
	t.Helper()
	got, err := inbox.Put(in, b)
	return got, checkUnion(t, got, err, in, api.Inbox{Batches: []api.Batch{b}})
}

// checkStreams checks what Stream, Low, Forks, Root and Valid return for a valid inbox, and returns the views of all agents.
func checkStreams(t *testing.T, in api.Inbox) [6]view {
	t.Helper()
	var all [6]view
	if !inbox.Valid(in) {
		t.Fatalf("this is not valid:%s", text(in))
	}
	for agent := range all {
		v := viewOf(in, agent)
		if l, err := inbox.Stream(in, agent); !slices.Equal(l, v.events) || err != api.OK {
			t.Fatalf("Stream of %d = %v, %d; want %v; of%s", agent, l, err, v.events, text(in))
		}
		if low, err := inbox.Low(in, agent); low != v.low || err != api.OK {
			t.Fatalf("Low of %d = %d, %d; want %d; of%s", agent, low, err, v.low, text(in))
		}
		all[agent] = v
	}
	if set, err := inbox.Forks(in); set != forks(in) || err != api.OK {
		t.Fatalf("Forks = %b, %d; want %b; of%s", set, err, forks(in), text(in))
	}
	var codes []string
	for _, b := range in.Batches {
		codes = append(codes, code(b))
	}
	if root, err := inbox.Root(in); root != digest.Root(codes) || err != api.OK {
		t.Fatalf("Root = %x, %d; want %x; of%s", root, err, digest.Root(codes), text(in))
	}
	return all
}

// checkRefused checks that no function takes in as an inbox.
func checkRefused(t *testing.T, in api.Inbox) {
	t.Helper()
	if inbox.Valid(in) {
		t.Fatalf("this is valid: %.900s", text(in))
	}
	for _, agent := range append(outside(), 0, 1, 2, 3, 4, 5) {
		if l, err := inbox.Stream(in, agent); len(l) != 0 || err != api.ErrInbox {
			t.Fatalf("Stream of %d = %v, %d", agent, l, err)
		}
		if low, err := inbox.Low(in, agent); low != 0 || err != api.ErrInbox {
			t.Fatalf("Low of %d = %d, %d", agent, low, err)
		}
	}
	if set, err := inbox.Forks(in); set != 0 || err != api.ErrInbox {
		t.Fatalf("Forks = %b, %d", set, err)
	}
	if root, err := inbox.Root(in); root != "" || err != api.ErrInbox {
		t.Fatalf("Root = %x, %d", root, err)
	}
	b := part(0, nil, 0, 0)
	if got, err := inbox.Put(in, b); len(got.Batches) != 0 || err != api.ErrInbox {
		t.Fatalf("Put = %d,%s", err, text(got))
	}
	for _, other := range []api.Inbox{{}, inboxOf(b), in} {
		if got, err := inbox.Merge(in, other); len(got.Batches) != 0 || err != api.ErrInbox {
			t.Fatalf("Merge = %d,%s", err, text(got))
		}
		if got, err := inbox.Merge(other, in); len(got.Batches) != 0 || err != api.ErrInbox {
			t.Fatalf("Merge = %d,%s", err, text(got))
		}
	}
}

// marks returns so many different marks of an agent.
func marks(agent, count int) []api.Batch {
	var l []api.Batch
	for low := range count {
		l = append(l, part(agent, nil, 0, low))
	}
	return l
}

func TestExamples(t *testing.T) { // P12.1, P12.6
	l := []api.Event{event(1, 0, 3), event(1, 1, 5)}
	first, second := part(1, l[:1], 0, 4), part(1, l, 1, 0)
	other, below := part(1, []api.Event{l[0], event(1, 1, 6)}, 1, 0), part(1, []api.Event{l[0], event(1, 1, 2)}, 1, 0)
	for i, c := range []struct {
		in     []api.Batch
		stream []api.Event
		low    int
		forks  int
	}{
		{[]api.Batch{first, second}, l, 4, 0},
		{[]api.Batch{second}, nil, 0, 0},
		{[]api.Batch{first, other}, []api.Event{l[0], other.Events[0]}, 4, 0},
		{[]api.Batch{first, second, other}, l[:1], 4, 2},
		{[]api.Batch{first, below}, []api.Event{l[0], below.Events[0]}, 4, 2},
		{nil, nil, 0, 0},
	} {
		var in api.Inbox
		for _, b := range c.in {
			var err api.Errno
			if in, err = inbox.Put(in, b); err != api.OK {
				t.Fatal(i, err)
			}
		}
		if got, err := inbox.Stream(in, 1); !slices.Equal(got, c.stream) || err != api.OK {
			t.Errorf("%d: Stream = %v, %d", i, got, err)
		}
		if got, err := inbox.Low(in, 1); got != c.low || err != api.OK {
			t.Errorf("%d: Low = %d, %d", i, got, err)
		}
		if got, err := inbox.Forks(in); got != c.forks || err != api.OK {
			t.Errorf("%d: Forks = %b, %d", i, got, err)
		}
		checkStreams(t, in)
	}
}

func TestValid(t *testing.T) { // P12.1
	random := rand.New(rand.NewSource(1))
	counts := map[bool]int{}
	for range 300 {
		in := inboxOf(pool(random, random.Intn(9))...)
		checkStreams(t, in)
		for range 4 { // one more, one less, another order, twice, or something not valid
			l := slices.Clone(in.Batches)
			for range 1 + random.Intn(2) {
				if len(l) == 0 {
					continue
				}
				i, k := random.Intn(len(l)), random.Intn(len(l))
				switch random.Intn(6) {
				case 0:
					l[i], l[k] = l[k], l[i]
				case 1:
					l = slices.Insert(l, i, l[k])
				case 2:
					l = slices.Delete(l, i, i+1)
				case 3:
					l[i].Low += random.Intn(3) - 1
				case 4:
					l[i].First += random.Intn(3) - 1
				case 5:
					l[i].Head = l[i].Head[:random.Intn(len(l[i].Head)+1)]
				}
			}
			changed := api.Inbox{Batches: l}
			counts[isInbox(changed)]++
			if isInbox(changed) {
				checkStreams(t, changed)
			} else {
				checkRefused(t, changed)
			}
		}
	}
	if counts[true] < 200 || counts[false] < 200 {
		t.Errorf("so many are valid: %v", counts)
	}
}

func TestWrongBatches(t *testing.T) { // P12.1: a batch that is not valid, alone and among others
	good := part(2, []api.Event{event(2, 0, 3), event(2, 1, 5)}, 0, 4)
	late := api.Batch{Agent: 2, First: 999, Events: []api.Event{event(2, 999, 1), event(2, 1000, 1)}, Head: zeros()}
	bad := []api.Batch{{}, late}
	for _, v := range append(outside(), 1, 1001) {
		changed := [4]api.Batch{good, good, good, good}
		changed[0].Agent, changed[1].First, changed[2].Low, changed[3].Events = v, v, min(v, -v), append(slices.Clone(good.Events), event(2, v, 5))
		if v > 1000 {
			changed[2].Low = v
		}
		bad = append(bad, changed[:]...)
	}
	for _, length := range []int{0, 1, 31, 33, 64} {
		b := good
		b.Head = strings.Repeat("h", length)
		bad = append(bad, b)
	}
	many := good
	for seq := 2; seq < 25; seq++ {
		many.Events = append(many.Events[:seq:seq], event(2, seq, 5))
	}
	bad = append(bad, many)
	others := []api.Batch{part(0, nil, 0, 0), part(5, nil, 0, 1000)}
	for _, b := range bad {
		if batch.Valid(b) {
			t.Fatalf("%+v is valid", b)
		}
		for _, l := range [][]api.Batch{{b}, {others[0], b}, {b, others[0]}, {others[0], b, others[1]}} {
			checkRefused(t, api.Inbox{Batches: l})
		}
		for _, in := range []api.Inbox{{}, inboxOf(others...), inboxOf(good), {Batches: []api.Batch{b}}, {Batches: bad}} {
			if _, ok := checkPut(t, in, b); ok {
				t.Fatalf("Put takes %+v", b)
			}
		}
	}
	checkRefused(t, api.Inbox{Batches: []api.Batch{others[1], others[0]}})
	checkRefused(t, api.Inbox{Batches: []api.Batch{others[0], others[0]}})
	checkRefused(t, api.Inbox{Batches: make([]api.Batch, 1<<20)})
}

func TestRoom(t *testing.T) { // P12.1, P12.2: 400 batches and no more
	all := append(marks(3, 300), marks(4, 300)...)
	for _, count := range []int{0, 1, 2, 399, 400, 401, 402, 600} {
		in := inboxOf(all[:count]...)
		if count > 400 {
			checkRefused(t, in)
			continue
		}
		if !inbox.Valid(in) {
			t.Errorf("%d batches are not valid", count)
		}
		if _, ok := checkPut(t, in, all[599]); ok != (count < 400) {
			t.Errorf("there is room for another batch among %d: %t", count, ok)
		}
		if count > 0 {
			if got, ok := checkPut(t, in, all[0]); !ok || len(got.Batches) != count {
				t.Errorf("there is no room for the first of %d", count)
			}
		}
		if _, ok := checkMerge(t, in, in); !ok {
			t.Errorf("there is no room for %d batches once more", count)
		}
	}
	for _, c := range []struct {
		a, b []api.Batch
		ok   bool
	}{
		{all[:200], all[200:400], true}, {all[:200], all[200:401], false}, {all[:201], all[200:400], true}, {all[:300], all[1:400], true}, {all[:400], all[1:401], false},
		{all[:400], nil, true}, {nil, all[:400], true}, {all[:400], all[7:390], true}, {all[1:400], all[:1], true}, {all[:400], all[400:401], false}, {all[:1], all[1:401], false}, {all[:400], all[400:600], false},
	} {
		for _, pair := range [][2]api.Inbox{{inboxOf(c.a...), inboxOf(c.b...)}, {inboxOf(c.b...), inboxOf(c.a...)}} {
			if _, ok := checkMerge(t, pair[0], pair[1]); ok != c.ok {
				t.Errorf("there is room for %d and %d batches: %t", len(c.a), len(c.b), ok)
			}
		}
	}
}

func TestUnion(t *testing.T) { // P12.2
	random := rand.New(rand.NewSource(2))
	for try := range 300 {
		l := pool(random, 1+try%12)
		a, b, c := subset(l, random.Int()), subset(l, random.Int()), subset(l, random.Int())
		ab, _ := checkMerge(t, a, b)
		ba, _ := checkMerge(t, b, a)
		bc, _ := checkMerge(t, b, c)
		left, _ := checkMerge(t, ab, c)
		right, _ := checkMerge(t, a, bc)
		again, _ := checkMerge(t, ab, ab)
		more, _ := checkMerge(t, ab, a)
		none, _ := checkMerge(t, a, api.Inbox{})
		if !same(ab, ba) || !same(left, right) || !same(again, ab) || !same(more, ab) || !same(none, a) {
			t.Fatalf("Merge is no union of%s\nand%s\nand%s", text(a), text(b), text(c))
		}
		for range 3 { // in another order, and some of them more than once
			var in api.Inbox
			arrivals := append(slices.Clone(l), l[:random.Intn(len(l)+1)]...)
			random.Shuffle(len(arrivals), func(i, k int) { arrivals[i], arrivals[k] = arrivals[k], arrivals[i] })
			for _, b := range arrivals {
				next, _ := checkPut(t, in, b)
				alone, _ := checkMerge(t, in, api.Inbox{Batches: []api.Batch{b}})
				if !same(next, alone) {
					t.Fatalf("Put of %+v is not Merge", b)
				}
				in = next
			}
			if !same(in, inboxOf(l...)) {
				t.Fatalf("the inbox is%s\nwant%s", text(in), text(inboxOf(l...)))
			}
		}
	}
}

func TestSame(t *testing.T) { // P12.1
	check := func(a, b api.Inbox) {
		t.Helper()
		want := same(a, b)
		if inbox.Same(a, b) != want || inbox.Same(b, a) != want {
			t.Errorf("Same = %t for%s\nand%s", !want, text(a), text(b))
		}
	}
	random := rand.New(rand.NewSource(3))
	for range 80 {
		l := pool(random, 1+random.Intn(6))
		in := api.Inbox{Batches: l} // valid or not
		check(in, in)
		check(in, api.Inbox{})
		check(in, api.Inbox{Batches: l[1:]})
		check(in, api.Inbox{Batches: append(slices.Clone(l), api.Batch{})})
		other := pool(random, len(l))
		check(in, api.Inbox{Batches: other})
		for i := range l {
			all := []api.Inbox{in}
			for _, change := range []func(*api.Batch){
				func(b *api.Batch) { b.Agent ^= 1 },
				func(b *api.Batch) { b.First-- },
				func(b *api.Batch) { b.Low += 1 << 40 },
				func(b *api.Batch) { b.Head += "x" },
				func(b *api.Batch) { b.Head = "" },
				func(b *api.Batch) { b.Events = append(slices.Clone(b.Events), api.Event{}) },
				func(b *api.Batch) { b.Events = append(slices.Clone(b.Events), api.Event{Bytes: 1}) },
				func(b *api.Batch) { b.Events = nil },
				func(b *api.Batch) { *b = api.Batch{} },
				func(b *api.Batch) { *b = l[random.Intn(len(l))] },
				func(b *api.Batch) { b.Events, b.Head = slices.Clone(b.Events), strings.Clone(b.Head) },
			} {
				changed := slices.Clone(l)
				change(&changed[i])
				all = append(all, api.Inbox{Batches: changed})
			}
			for _, a := range all {
				for _, b := range all {
					check(a, b)
				}
			}
		}
	}
	none, empty := api.Inbox{}, api.Inbox{Batches: []api.Batch{}}
	if !inbox.Same(none, empty) || !inbox.Same(empty, none) || !inbox.Same(none, none) {
		t.Error("an inbox without batches is not the same as another one")
	}
	nilEvents, noEvents := api.Inbox{Batches: []api.Batch{{Head: "h"}}}, api.Inbox{Batches: []api.Batch{{Head: "h", Events: []api.Event{}}}}
	if !inbox.Same(nilEvents, noEvents) || !inbox.Same(noEvents, nilEvents) {
		t.Error("a batch without events is not the same as another one")
	}
}

func TestNilAndEmptyEvents(t *testing.T) { // P12.1, P12.2: they are the same batch
	a, b := part(1, nil, 0, 7), part(1, nil, 0, 7)
	a.Events, b.Events = nil, []api.Event{}
	in, ok := checkPut(t, api.Inbox{Batches: []api.Batch{a}}, b)
	if !ok || len(in.Batches) != 1 {
		t.Errorf("Put =%s", text(in))
	}
	checkRefused(t, api.Inbox{Batches: []api.Batch{a, b}})
	checkStreams(t, api.Inbox{Batches: []api.Batch{b}})
}

func TestSubsets(t *testing.T) { // P12.1: all subsets of batches of which many contradict each other
	random := rand.New(rand.NewSource(4))
	seen := map[string]int{}
	for range 30 {
		l := pool(random, 10)
		for bits := range 1 << len(l) {
			all := checkStreams(t, subset(l, bits))
			for _, v := range all[:2] {
				for name, is := range map[string]bool{"forked": v.forked, "broken": v.broken, "forked and broken": v.forked && v.broken, "forked behind events": v.forked && len(v.events) > 0, "long": len(v.events) > 3, "low": v.low > 0} {
					if is {
						seen[name]++
					}
				}
				for _, b := range v.used {
					if len(b.Events) == 0 && b.First < len(v.events) {
						seen["a mark that is not the last"]++
					}
				}
			}
		}
	}
	for _, name := range []string{"forked", "broken", "forked and broken", "forked behind events", "long", "low", "a mark that is not the last"} {
		if seen[name] < 50 {
			t.Errorf("so many streams are %s: %d", name, seen[name])
		}
	}
}

func TestBeginnings(t *testing.T) { // P12.3, P12.4, P12.5: all sets of parts of streams
	random := rand.New(rand.NewSource(5))
	for try := range 100 {
		agent := try % 6
		l := stream(random, agent, random.Intn(14))
		sizes := cut(random, len(l), 4)
		sizes = append(sizes[:min(len(sizes), 6)], 0)
		all := parts(random, agent, l, sizes)
		whole := all[len(all)-1].First
		lengths, lows := make([]int, 1<<len(all)), make([]int, 1<<len(all))
		for set := range 1 << len(all) {
			in := subset(all, set)
			checkStreams(t, in)
			want := 0
			for i, size := range sizes {
				if size > 0 && set>>i%2 == 0 {
					break
				}
				want += size
			}
			got, _ := inbox.Stream(in, agent)
			low, _ := inbox.Low(in, agent)
			if !slices.Equal(got, l[:want]) {
				t.Fatalf("from %b of the parts by %v of %v there is %v", set, sizes, l, got)
			}
			if set == 1<<len(all)-1 && len(got) != whole {
				t.Fatalf("from all parts by %v of %v there is %v", sizes, l, got)
			}
			for _, e := range l[len(got):whole] {
				if e.Trace < low {
					t.Fatalf("behind %v there is %v, but the watermark is %d", got, e, low)
				}
			}
			if forks, err := inbox.Forks(in); forks != 0 || err != api.OK {
				t.Fatalf("Forks = %b, %d for parts of a stream:%s", forks, err, text(in))
			}
			lengths[set], lows[set] = len(got), low
			for i := range all {
				if less := set &^ (1 << i); lengths[less] > lengths[set] || lows[less] > lows[set] {
					t.Fatalf("a further part of %v takes away from the stream or the watermark", l)
				}
			}
		}
	}
}

func TestLongStreams(t *testing.T) { // P12.3, P12.4, P12.5: as many events as a stream may have
	random := rand.New(rand.NewSource(6))
	l := stream(random, 5, 1000)
	sizes := append(slices.Repeat([]int{24}, 41), 16)
	all := parts(random, 5, l, sizes)
	mark := part(5, l[:999], 999, 0)
	for _, missing := range []int{-1, 0, 1, 20, 40, 41} {
		some := append([]api.Batch{mark}, all...)
		want := 1000
		if missing >= 0 {
			some = slices.Delete(some, missing+1, missing+2)
			want = 24 * missing
		}
		v := checkStreams(t, inboxOf(some...))[5]
		if len(v.events) != want || v.forked || v.broken {
			t.Errorf("without the part %d there are %d events", missing, len(v.events))
		}
	}
	checkStreams(t, inboxOf(all...))
	small := parts(random, 5, l[:400], slices.Repeat([]int{1}, 400))
	if v := checkStreams(t, inboxOf(small...))[5]; len(v.events) != 400 {
		t.Errorf("of 400 parts there are %d events", len(v.events))
	}
}

func TestMarks(t *testing.T) { // P12.1, P12.4: marks in all places, of what is there and of what is not
	l := []api.Event{event(0, 0, 7), event(0, 1, 4), event(0, 2, 6), event(0, 3, 5), event(0, 4, 8)}
	for _, sizes := range [][]int{{5}, {1, 4}, {3, 2}, {2, 1, 2}, {1, 1, 1, 1, 1}} {
		var all []api.Batch
		end := 0
		for _, size := range sizes {
			all = append(all, part(0, l[:end+size], end, 0))
			end += size
		}
		for count := range len(all) + 1 {
			there := 0
			for _, b := range all[:count] {
				there += len(b.Events)
			}
			for first := range 6 {
				for low := range 10 {
					mark := part(0, l[:first], first, low)
					in := inboxOf(append(slices.Clone(all[:count]), mark)...)
					broken, want := false, 0
					if first <= there {
						want = low
						for _, e := range l[first:there] {
							broken = broken || e.Trace < low
						}
					}
					v := checkStreams(t, in)[0]
					if v.low != want || v.broken != broken || v.forked || len(v.events) != there {
						t.Fatalf("the mark %+v behind %d events makes %+v", mark, there, v)
					}
					for _, wrong := range []api.Batch{mark, mark, mark} { // of another place, or another head
						switch low % 3 {
						case 0:
							wrong.First = (first + 1) % 6
						case 1:
							wrong.Head = chainOf(l[1:])
						case 2:
							wrong.Agent = 1
						}
						if v := checkStreams(t, inboxOf(append(slices.Clone(all[:count]), wrong)...))[0]; v.low != 0 || v.broken {
							t.Fatalf("the mark %+v behind %d events makes %+v", wrong, there, v)
						}
					}
				}
			}
		}
	}
	far := part(0, l, 5, 9)
	far.First = 999
	if v := checkStreams(t, inboxOf(far, part(0, l, 0, 3)))[0]; v.low != 3 || len(v.events) != 5 {
		t.Errorf("a mark far behind the stream makes %+v", v)
	}
}

func TestGaps(t *testing.T) { // P12.1, P12.5: a batch whose Head is right, and whose place is not, does not fit
	l := []api.Event{event(0, 0, 7), event(0, 1, 4)}
	one, two := part(0, l[:1], 0, 3), part(0, l, 1, 2)
	for _, seq := range []int{0, 2, 3, 999} {
		gap := part(0, []api.Event{l[0], event(0, seq, 4)}, 1, 9)
		gap.First = seq
		if !batch.Follows(one.Head, gap) {
			t.Fatalf("%+v does not follow %+v", gap, one)
		}
		for _, c := range []struct {
			in          []api.Batch
			events, low int
		}{{[]api.Batch{one, gap}, 1, 3}, {[]api.Batch{one, gap, two}, 2, 3}, {[]api.Batch{gap}, 0, 0}, {[]api.Batch{gap, two}, 0, 0}} {
			v := checkStreams(t, inboxOf(c.in...))[0]
			if v.forked || v.broken || len(v.events) != c.events || v.low != c.low {
				t.Errorf("%+v is the view of%s", v, text(inboxOf(c.in...)))
			}
		}
	}
}

func TestForks(t *testing.T) { // P12.6: two streams that differ, first in each of their places
	random := rand.New(rand.NewSource(7))
	for try := range 300 {
		agent, count := try%6, 1+random.Intn(12)
		l := stream(random, agent, count)
		sizes := cut(random, count, 4)
		a := parts(random, agent, l, sizes)
		differs := random.Intn(count)
		other := append(slices.Clone(l[:differs]), stream(random, agent, count+random.Intn(3))[differs:]...)
		other[differs] = l[differs]
		other[differs].At += 100
		begin, index := 0, 0 // of the part that has this event
		for begin+sizes[index] <= differs {
			begin += sizes[index]
			index++
		}
		otherSizes := append(slices.Clone(sizes[:index]), differs-begin+1)
		otherSizes = append(otherSizes, cut(random, len(other)-differs-1, 4)...)
		b := slices.Concat(a[:index], parts(random, agent, other, otherSizes)[index:])
		in := inboxOf(append(slices.Clone(a), b...)...)
		v := checkStreams(t, in)[agent]
		if set, err := inbox.Forks(in); set != 1<<agent || err != api.OK {
			t.Fatalf("Forks = %b, %d of%s", set, err, text(in))
		}
		if !v.forked || !slices.Equal(v.events, l[:begin]) {
			t.Fatalf("the streams differ in %d, but there is %+v", differs, v)
		}
		for i, gone := range in.Batches { // without one of those that fit there is no fork
			if gone.First == begin && len(gone.Events) > 0 {
				rest := api.Inbox{Batches: slices.Delete(slices.Clone(in.Batches), i, i+1)}
				if v := checkStreams(t, rest)[agent]; v.forked || len(v.events) <= begin {
					t.Fatalf("without %+v there is %+v", gone, v)
				}
			}
		}
	}
}

func TestForksOfEqualEvents(t *testing.T) { // P12.6: other sizes, or another Low, are a fork, too; marks are none
	l := []api.Event{event(3, 0, 7), event(3, 1, 8), event(3, 2, 9)}
	one, two, low := part(3, l[:1], 0, 0), part(3, l[:2], 0, 0), part(3, l[:1], 0, 1)
	rest, last := part(3, l, 1, 0), part(3, l, 2, 0)
	for _, c := range []struct {
		in     []api.Batch
		forked bool
		events int
	}{
		{[]api.Batch{one, two, rest, last}, true, 0},
		{[]api.Batch{one, low, rest}, true, 0},
		{[]api.Batch{one, low, two}, true, 0},
		{[]api.Batch{one, rest, last}, false, 3},
		{[]api.Batch{two, rest, last}, false, 3},
		{[]api.Batch{one, rest, part(3, l[:2], 1, 0)}, true, 1},
		{[]api.Batch{two, last, part(3, l, 2, 5)}, true, 2},
		{append(marks(3, 7), one, rest), false, 3},
		{[]api.Batch{one, rest, part(3, l[:1], 1, 0), part(3, l[:1], 1, 5), part(3, l, 3, 999), part(3, l, 3, 1000)}, false, 3},
	} {
		v := checkStreams(t, inboxOf(c.in...))[3]
		if v.forked != c.forked || v.broken || len(v.events) != c.events {
			t.Errorf("%+v is the view of%s", v, text(inboxOf(c.in...)))
		}
	}
}

func TestBrokenWords(t *testing.T) { // P12.6: an event below each of the Lows before it
	random := rand.New(rand.NewSource(8))
	for range 100 {
		agent, count := random.Intn(6), 2+random.Intn(10)
		l := stream(random, agent, count)
		sizes := append([]int{1}, cut(random, count-1, 3)...)
		all := parts(random, agent, l, sizes)
		for i := range all {
			place := all[i].First + len(all[i].Events)
			for low := range 11 {
				want := slices.ContainsFunc(l[place:], func(e api.Event) bool { return e.Trace < low })
				changed := slices.Clone(all)
				changed[i].Low = low
				v := checkStreams(t, inboxOf(changed...))[agent]
				if set, err := inbox.Forks(inboxOf(changed...)); set != map[bool]int{want: 1 << agent}[true] || err != api.OK || v.forked || !slices.Equal(v.events, l) {
					t.Fatalf("Forks = %b, %d with the Low %d at %d in %v", set, err, low, place, l)
				}
			}
		}
	}
}

func TestOtherAgents(t *testing.T) { // P12.7: the batches of each agent alone
	random := rand.New(rand.NewSource(9))
	for range 300 {
		in := inboxOf(pool(random, random.Intn(10))...)
		set, _ := inbox.Forks(in)
		for agent := range 6 {
			own := api.Inbox{Batches: slices.DeleteFunc(slices.Clone(in.Batches), func(b api.Batch) bool { return b.Agent != agent })}
			events, _ := inbox.Stream(in, agent)
			low, _ := inbox.Low(in, agent)
			alone, _ := inbox.Stream(own, agent)
			lowAlone, _ := inbox.Low(own, agent)
			setAlone, _ := inbox.Forks(own)
			if !slices.Equal(events, alone) || low != lowAlone || set&(1<<agent) != setAlone {
				t.Fatalf("the agent %d depends on others in%s", agent, text(in))
			}
		}
	}
}

func TestAllAgents(t *testing.T) { // P12.7: each agent in its own way
	var all []api.Batch
	for agent := range 6 {
		l := []api.Event{event(agent, 0, 4), event(agent, 1, 2+agent), event(agent, 2, 9)}
		all = append(all, part(agent, l[:1], 0, 5), part(agent, l, 1, agent))
	}
	for set := range 1 << 6 {
		l := slices.Clone(all)
		for agent := range 6 {
			if set>>agent%2 == 1 {
				l = append(l, part(agent, []api.Event{event(agent, 0, 3)}, 0, 5))
			}
		}
		want := set | 7 // 2, 3 and 4 are less than 5
		if got, err := inbox.Forks(inboxOf(l...)); got != want || err != api.OK {
			t.Errorf("Forks = %b, %d; want %b", got, err, want)
		}
		checkStreams(t, inboxOf(l...))
	}
	for agent := range 6 {
		if low, err := inbox.Low(inboxOf(all...), agent); low != 5 || err != api.OK {
			t.Errorf("Low of %d = %d, %d", agent, low, err)
		}
	}
}

func TestWrongAgents(t *testing.T) { // P12.1
	in := inboxOf(append(marks(0, 3), marks(5, 3)...)...)
	for _, agent := range outside() {
		if l, err := inbox.Stream(in, agent); len(l) != 0 || err != api.ErrInbox {
			t.Errorf("Stream of %d = %v, %d", agent, l, err)
		}
		if low, err := inbox.Low(in, agent); low != 0 || err != api.ErrInbox {
			t.Errorf("Low of %d = %d, %d", agent, low, err)
		}
	}
}

func TestRoots(t *testing.T) { // P12.7: no two sets of batches have the same root
	random := rand.New(rand.NewSource(10))
	roots := map[string]string{}
	for range 20 {
		l := pool(random, 7)
		for set := range 1 << len(l) {
			in := subset(l, set)
			root, err := inbox.Root(in)
			if len(root) != 32 || err != api.OK {
				t.Fatalf("Root = %x, %d", root, err)
			}
			if other, ok := roots[root]; ok && other != text(in) {
				t.Fatalf("this has the same root:%s\nand%s", text(in), other)
			}
			roots[root] = text(in)
		}
	}
	if len(roots) < 1000 {
		t.Errorf("there are %d roots", len(roots))
	}
	if root, err := inbox.Root(api.Inbox{}); root != digest.Sum("") || err != api.OK {
		t.Errorf("Root of no batches = %x, %d", root, err)
	}
}

// spared returns a copy of in with spare capacity, in all its lists, that is full of other elements.
func spared(in api.Inbox) api.Inbox {
	l := slices.Clone(in.Batches)
	for i, b := range l {
		l[i].Events = append(slices.Clone(b.Events), api.Event{Agent: 99}, api.Event{Agent: 98})[:len(b.Events)]
	}
	return api.Inbox{Batches: append(l, api.Batch{Agent: 97}, api.Batch{Agent: 96})[:len(l)]}
}

// extent tells all of an inbox with its spare capacity.
func extent(in api.Inbox) string {
	l := slices.Clone(in.Batches[:cap(in.Batches)])
	for i := range l {
		l[i].Events = l[i].Events[:cap(l[i].Events)]
	}
	return text(api.Inbox{Batches: l})
}

// pieces returns the addresses of the memory of in, from and to: batches, events and heads, with spare capacity.
func pieces(in api.Inbox) [][2]uintptr {
	var all [][2]uintptr
	add := func(p unsafe.Pointer, size uintptr) {
		if size > 0 {
			all = append(all, [2]uintptr{uintptr(p), uintptr(p) + size})
		}
	}
	add(unsafe.Pointer(unsafe.SliceData(in.Batches)), uintptr(cap(in.Batches))*unsafe.Sizeof(api.Batch{}))
	for _, b := range in.Batches {
		add(unsafe.Pointer(unsafe.SliceData(b.Events)), uintptr(cap(b.Events))*unsafe.Sizeof(api.Event{}))
		add(unsafe.Pointer(unsafe.StringData(b.Head)), uintptr(len(b.Head)))
	}
	return all
}

func TestResultsAreNew(t *testing.T) { // P12.1
	random := rand.New(rand.NewSource(11))
	for try := range 200 {
		l := pool(random, 2+try%9)
		a, b := spared(subset(l, random.Int())), spared(subset(l, random.Int()))
		one := spared(api.Inbox{Batches: l[:1]}).Batches[0]
		before := [3]string{extent(a), extent(b), extent(api.Inbox{Batches: []api.Batch{one}})}
		merged, _ := inbox.Merge(a, b)
		put, _ := inbox.Put(a, one)
		args := slices.Concat(pieces(a), pieces(b), pieces(api.Inbox{Batches: []api.Batch{one}}))
		for _, got := range []api.Inbox{merged, put} {
			own := pieces(got)
			for i, p := range own {
				for _, q := range slices.Concat(args, own[:i]) {
					if p[0] < q[1] && q[0] < p[1] {
						t.Fatalf("memory is shared by%s", text(got))
					}
				}
			}
		}
		for agent := range 2 {
			first, _ := inbox.Stream(a, agent)
			want := slices.Clone(first)
			clear(first[:cap(first)])
			if again, _ := inbox.Stream(a, agent); !slices.Equal(again, want) {
				t.Fatalf("Stream was %v, and is %v", want, again)
			}
		}
		inbox.Valid(a)
		inbox.Same(a, b)
		inbox.Low(a, 0)
		inbox.Forks(a)
		inbox.Root(a)
		if before != [3]string{extent(a), extent(b), extent(api.Inbox{Batches: []api.Batch{one}})} {
			t.Fatalf("an argument was changed:%s", text(a))
		}
	}
}

func TestManyThatFit(t *testing.T) { // P12.6: as many batches as an inbox may have, in the same place
	var all []api.Batch
	for i := range 400 {
		all = append(all, part(4, []api.Event{event(4, 0, i), event(4, 1, 9)}, 0, 0))
	}
	if bits.OnesCount(uint(forks(inboxOf(all...)))) != 1 {
		t.Error("there is no fork")
	}
	checkStreams(t, inboxOf(all...))
	checkStreams(t, inboxOf(all[:1]...))
	checkStreams(t, inboxOf(all[:2]...))
}
