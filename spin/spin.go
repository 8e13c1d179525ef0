// Package spin is layer 1: see shared/doc/01-spin.md.
package spin

// modulus is M, 2^19 - 1: a prime that is 3 modulo 4, so that right numbers are a field.
const modulus = 524287

// Spin is a row of numbers that is turned on.
type Spin struct {
	z complex128
	// z comes to 0 on some rows, so a spin that New or Copy answered can't be told by z alone.
	made bool
}

// New is a spin that hangs on the seed alone.
func New(seed int) *Spin {
	return &Spin{z: complex(residue(int64(seed)), 1), made: true}
}

// Next turns the spin on and tells a number from 0 to n - 1.
func (s *Spin) Next(n int) int {
	if !s.there() {
		return 0
	}
	s.z = reduce(s.z*complex(3, 2) + 1)
	if n < 1 {
		return 0
	}
	return int(real(s.z)+imag(s.z)) % n
}

// Shuffle is l in another order.
func (s *Spin) Shuffle(l []int) []int {
	if !s.there() {
		return nil
	}
	out := make([]int, len(l))
	copy(out, l)
	for i := len(out) - 1; i >= 1; i-- {
		j := s.Next(i + 1)
		out[i], out[j] = out[j], out[i]
	}
	return out
}

// Copy is another spin that goes on as this one would.
func (s *Spin) Copy() *Spin {
	if !s.there() {
		return nil
	}
	return &Spin{z: s.z, made: true}
}

func (s *Spin) there() bool {
	return s != nil && s.made
}

// Right tells whether both parts of z are whole, from 0 to M - 1.
func Right(z complex128) bool {
	return rightPart(real(z)) && rightPart(imag(z))
}

// Plus is the sum of right numbers.
func Plus(a, b complex128) (complex128, bool) {
	if !Right(a) || !Right(b) {
		return 0, false
	}
	return reduce(a + b), true
}

// Times is the product of right numbers.
func Times(a, b complex128) (complex128, bool) {
	if !Right(a) || !Right(b) {
		return 0, false
	}
	return reduce(a * b), true
}

// Power is z multiplied with itself, n times in all.
func Power(z complex128, n int) (complex128, bool) {
	if !Right(z) || n < 0 {
		return 0, false
	}
	product := complex128(1)
	// By squares: n may be the greatest int, and the call must end.
square:
	if n == 0 {
		return product, true
	}
	if n%2 == 1 {
		product = reduce(product * z)
	}
	z = reduce(z * z)
	n /= 2
	goto square
}

// rightPart asks for the range first: a NaN fails it, and what is in it fits an int64.
func rightPart(part float64) bool {
	return part >= 0 && part < modulus && part == float64(int64(part))
}

// reduce takes sums and products of right numbers, whose parts are whole and below 2^53, back to right ones.
func reduce(z complex128) complex128 {
	return complex(residue(int64(real(z))), residue(int64(imag(z))))
}

// residue goes by whole numbers, so that no part is rounded on the way and no 0 comes out as -0.
func residue(n int64) float64 {
	n %= modulus
	if n < 0 {
		n += modulus
	}
	return float64(n)
}
