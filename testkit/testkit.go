// Package testkit is what the tests of several packages share. The program itself does not use it.
package testkit

import "slices"

// Walk tells numbers below most, spread, always the same ones: tests that mix things by it fail the same way each time.
func Walk() func(most int) int {
	state := uint64(1)
	return func(most int) int {
		state = state*6364136223846793005 + 1442695040888963407
		return int(state >> 33 % uint64(most))
	}
}

// Spoil overwrites a list and its spare room, so that whoever shares its memory is seen to.
func Spoil[T any](l []T, with T) {
	full := l[:cap(l)]
	for i := range full {
		full[i] = with
	}
}

// WithRoom is l in new memory, with spare room behind it that holds junk, so that whoever reads or writes there is seen to.
func WithRoom[T any](l []T, junk T) []T {
	full := slices.Concat(l, slices.Repeat([]T{junk}, 9))
	return full[:len(l)]
}
