package tally

import (
	"iter"

	"landfall/api"
	"landfall/wide"
)

// sum is a sum of power.
type sum api.Wide

// plus adds a validator's power, or nothing if that is below 0. Neither call fails: no list is so long that 128 bits do not hold its sum.
func (s sum) plus(v api.Validator) sum {
	more, _ := wide.Of(max(v.Power, 0))
	all, _ := wide.Plus(api.Wide(s), more)
	return sum(all)
}

// power tells the power of some validators together.
func power(validators iter.Seq[api.Validator]) api.Wide {
	return api.Wide(fold(validators, sum.plus))
}

// fold puts elements together one after the other, from zero on.
func fold[S, T any](elements iter.Seq[T], f func(S, T) S) S {
	var s S
	for x := range elements {
		s = f(s, x)
	}
	return s
}
