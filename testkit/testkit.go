// Package testkit is what the tests of several packages share. The program itself does not use it.
package testkit

// Walk tells numbers below most, spread, always the same ones: tests that mix things by it fail the same way each time.
func Walk() func(most int) int {
	state := uint64(1)
	return func(most int) int {
		state = state*6364136223846793005 + 1442695040888963407
		return int(state >> 33 % uint64(most))
	}
}

// Spoil overwrites a list and its spare room, so that whoever shares its memory is seen to.
func Spoil[T any](l []T, with T) {
	full := l[:cap(l)]
	for i := range full {
		full[i] = with
	}
}
