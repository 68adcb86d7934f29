package pace

import "math"

// share is how many steps a difference would take, if it stayed as great.
const share = 8

// Smooth tells what becomes of a mean when x comes: a part of the way to x, and x itself if there is no mean yet.
func Smooth(old, x float64) float64 {
	if math.IsNaN(old) {
		return x
	}
	// Only a conversion makes sure that a result is rounded: some machines would divide and add in one step.
	step := float64(float64(x-old) / share)
	return float64(old + step)
}

// Mean tells a mean that forgets, of a list: a NaN if that is empty.
func Mean(l []float64) float64 {
	return fold(l, math.NaN(), Smooth)
}

// fold puts the elements of a list to a start, one after the other.
func fold[T, S any](l []T, sum S, f func(S, T) S) S {
	for _, x := range l {
		sum = f(sum, x)
	}
	return sum
}
