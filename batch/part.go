package batch

import (
	"iter"
	"strings"

	"latecomer/api"
	"latecomer/digest"
)

// chain returns the chain of head and l.
func chain(head string, l []api.Event) string {
	for _, e := range l {
		head = digest.Chain(head, encoding(e))
	}
	return strings.Clone(head) // without events it would share memory with the argument
}

// parts yields the parts of the stream l of the agent by sizes, each with the events behind it.
func parts(agent int, l []api.Event, sizes, lows []int) iter.Seq2[api.Batch, []api.Event] {
	return func(yield func(api.Batch, []api.Event) bool) {
		first, head := 0, strings.Repeat("\x00", api.DigestSize)
		for i, size := range sizes {
			end := first + size
			own := append([]api.Event(nil), l[first:end]...)
			head = chain(head, own)
			b := api.Batch{Agent: agent, First: first, Events: own, Low: lows[i], Head: head}
			if !yield(b, l[end:]) {
				return
			}
			first = end
		}
	}
}
