package belief

import (
	"iter"
	"math/bits"

	"latecomer/api"
	"latecomer/bounds"
)

// set is a set of agents: agent a is the bit 1<<a.
type set int

// everyone returns the set of all agents of f.
func everyone(f api.Fleet) set { return 1<<len(f.Drift) - 1 }

// size returns the number of agents in s.
func (s set) size() int { return bits.OnesCount(uint(s)) }

// contains reports whether all agents of other are in s.
func (s set) contains(other set) bool { return other&^s == 0 }

// without returns the agents of s who are not in the choice c.
func (s set) without(c choice) set { return s &^ c.set }

// choice is a possible choice: the agents who are believed, and the bounds of the constraints that rest on them alone.
type choice struct {
	set
	api.Bounds
}

// interval is from the least difference of two variables to the greatest one.
type interval struct{ least, greatest int }

// possible yields the possible choices, in ascending order.
func possible(f api.Fleet, n int, l []api.Constraint) iter.Seq[choice] {
	return func(yield func(choice) bool) {
		for s := range everyone(f) + 1 {
			if s.size() != len(f.Drift)-f.Liars {
				continue
			}
			b, _, err := bounds.Close(n, Part(l, int(s)))
			if err == api.OK && !yield(choice{s, b}) {
				return
			}
		}
	}
}

// gather returns what take makes of value with the possible choices, one after the other.
func gather[T any](f api.Fleet, n int, l []api.Constraint, value T, take func(T, choice) T) (T, api.Errno) {
	var zero T
	if !areValid(f, n, l) {
		return zero, api.ErrArg
	}
	found := false
	for c := range possible(f, n, l) {
		value = take(value, c)
		found = true
	}
	if !found {
		return zero, api.ErrBelief
	}
	return value, api.OK
}
