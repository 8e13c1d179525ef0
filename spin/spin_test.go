package spin_test

import (
	"math"
	"slices"
	"testing"

	"beadle/spin"
)

const m = 524287

// pair is a number by whole parts: the tests reckon with these, apart from any float.
type pair struct{ re, im int }

func mod(n int) int { return ((n % m) + m) % m }

func (a pair) plus(b pair) pair { return pair{mod(a.re + b.re), mod(a.im + b.im)} }

func (a pair) times(b pair) pair {
	return pair{mod(a.re*b.re - a.im*b.im), mod(a.re*b.im + a.im*b.re)}
}

func (a pair) complex() complex128 { return complex(float64(a.re), float64(a.im)) }

// turn is a spin as P1.2 tells it.
type turn struct{ z pair }

func newTurn(seed int) *turn { return &turn{pair{mod(seed), 1}} }

func (s *turn) next(n int) int {
	s.z = s.z.times(pair{3, 2}).plus(pair{1, 0})
	if n < 1 {
		return 0
	}
	return (s.z.re + s.z.im) % n
}

func (s *turn) shuffle(l []int) []int {
	out := slices.Clone(l)
	for i := len(l) - 1; i >= 1; i-- {
		j := s.next(i + 1)
		out[i], out[j] = out[j], out[i]
	}
	return out
}

// somePairs: all edges of both parts, and a row of others.
func somePairs() []pair {
	edges := []int{0, 1, 2, m / 2, m/2 + 1, m - 2, m - 1}
	var out []pair
	for _, re := range edges {
		for _, im := range edges {
			out = append(out, pair{re, im})
		}
	}
	for i := range 40 {
		out = append(out, pair{mod(i*i*7919 + 12345), mod(i*104729 + 77)})
	}
	return out
}

var negZero = math.Copysign(0, -1)

// wrongNumbers: each wrong part, first and second.
func wrongNumbers() []complex128 {
	var out []complex128
	for _, part := range []float64{
		-1, -0.5, 0.5, 1.25, m - 1.5, m - 0.5, m, m + 1, -m, 1 << 20, 1 << 53, 1 << 62, 1 << 63, 1 << 64, -(1 << 63),
		math.NaN(), math.Inf(1), math.Inf(-1), math.MaxFloat64, -math.MaxFloat64,
		math.SmallestNonzeroFloat64, -math.SmallestNonzeroFloat64,
		math.Nextafter(m, 0), math.Nextafter(1, 0), math.Nextafter(1, 2),
	} {
		out = append(out, complex(part, 0), complex(0, part), complex(part, part), complex(m-1, part), complex(part, 1))
	}
	return out
}

// plainZero: 0 as it is written, not -0, so that nobody can tell one 0 from another.
func plainZero(z complex128) bool {
	return !math.Signbit(real(z)) && !math.Signbit(imag(z))
}

func TestRight(t *testing.T) {
	for _, p := range somePairs() {
		if !spin.Right(p.complex()) {
			t.Errorf("Right(%v) is false", p)
		}
	}
	for _, z := range []complex128{complex(negZero, 0), complex(0, negZero), complex(negZero, negZero), complex(negZero, m-1)} {
		if !spin.Right(z) {
			t.Errorf("Right(%v) is false: -0 is 0", z)
		}
	}
	for _, z := range wrongNumbers() {
		if spin.Right(z) {
			t.Errorf("Right(%v) is true", z)
		}
	}
}

func TestPlusAndTimes(t *testing.T) {
	for _, a := range somePairs() {
		for _, b := range somePairs() {
			sum, ok := spin.Plus(a.complex(), b.complex())
			if !ok || sum != a.plus(b).complex() || !plainZero(sum) {
				t.Errorf("Plus(%v, %v) = %v, %v", a, b, sum, ok)
			}
			product, ok := spin.Times(a.complex(), b.complex())
			if !ok || product != a.times(b).complex() || !plainZero(product) {
				t.Errorf("Times(%v, %v) = %v, %v", a, b, product, ok)
			}
		}
	}
}

func TestExamples(t *testing.T) {
	if z, ok := spin.Times(1+2i, 3+4i); !ok || z != 524282+10i {
		t.Error("Times", z, ok)
	}
	if z, ok := spin.Plus(524286+1i, 1+1i); !ok || z != 2i {
		t.Error("Plus", z, ok)
	}
	if z, ok := spin.Power(1i, 2); !ok || z != 524286 {
		t.Error("Power", z, ok)
	}
	if spin.Right(-1) || spin.Right(0.5) {
		t.Error("Right")
	}
	if n := spin.New(0).Next(10); n != 9 {
		t.Error("Next", n)
	}
}

func TestMinusZeroIsZero(t *testing.T) {
	zeros := []complex128{0, complex(negZero, 0), complex(0, negZero), complex(negZero, negZero)}
	for _, a := range zeros {
		for _, b := range zeros {
			sum, ok := spin.Plus(a, b)
			product, fine := spin.Times(a, b)
			if !ok || !fine || sum != 0 || product != 0 || !plainZero(sum) || !plainZero(product) {
				t.Error(a, b, sum, product)
			}
		}
		for n := range 4 {
			want := complex128(0)
			if n == 0 {
				want = 1
			}
			if z, ok := spin.Power(a, n); !ok || z != want || !plainZero(z) {
				t.Error(a, n, z)
			}
		}
	}
	if z, ok := spin.Times(complex(5, negZero), complex(negZero, 7)); !ok || z != 35i {
		t.Error(z)
	}
}

func TestWrongNumbers(t *testing.T) {
	for _, z := range wrongNumbers() {
		for _, other := range []complex128{0, 1, 5 + 7i, z} {
			for _, p := range [][2]complex128{{z, other}, {other, z}} {
				if sum, ok := spin.Plus(p[0], p[1]); ok || sum != 0 {
					t.Errorf("Plus(%v, %v) = %v, %v", p[0], p[1], sum, ok)
				}
				if product, ok := spin.Times(p[0], p[1]); ok || product != 0 {
					t.Errorf("Times(%v, %v) = %v, %v", p[0], p[1], product, ok)
				}
			}
		}
		for _, n := range []int{0, 1, 2, -1, math.MaxInt, math.MinInt} {
			if w, ok := spin.Power(z, n); ok || w != 0 {
				t.Errorf("Power(%v, %d) = %v, %v", z, n, w, ok)
			}
		}
	}
}

func TestPower(t *testing.T) {
	for _, p := range somePairs() {
		want := pair{1, 0}
		for n := range 70 {
			if z, ok := spin.Power(p.complex(), n); !ok || z != want.complex() {
				t.Errorf("Power(%v, %d) = %v, %v", p, n, z, ok)
			}
			want = want.times(p)
		}
		for _, n := range []int{-1, -2, -m, math.MinInt} {
			if z, ok := spin.Power(p.complex(), n); ok || z != 0 {
				t.Errorf("Power(%v, %d) = %v, %v", p, n, z, ok)
			}
		}
	}
}

// A power by the greatest int must end; what it comes to follows from P1.4.
func TestGreatPower(t *testing.T) {
	order := m*m - 1
	for _, p := range somePairs() {
		if p == (pair{}) {
			if z, ok := spin.Power(0, math.MaxInt); !ok || z != 0 {
				t.Error(z, ok)
			}
			continue
		}
		great, ok := spin.Power(p.complex(), math.MaxInt)
		small, fine := spin.Power(p.complex(), math.MaxInt%order)
		if !ok || !fine || great != small {
			t.Error(p, great, small)
		}
	}
}

func TestOrderAndConjugate(t *testing.T) {
	for _, p := range somePairs() {
		conjugate, ok := spin.Power(p.complex(), m)
		if !ok || conjugate != (pair{p.re, mod(-p.im)}).complex() {
			t.Errorf("Power(%v, M) = %v", p, conjugate)
		}
		want := complex128(1)
		if p == (pair{}) {
			want = 0
		}
		if z, ok := spin.Power(p.complex(), m*m-1); !ok || z != want {
			t.Errorf("Power(%v, M^2 - 1) = %v", p, z)
		}
	}
}

func TestOrderAndGrouping(t *testing.T) {
	plus := func(a, b complex128) complex128 { z, _ := spin.Plus(a, b); return z }
	times := func(a, b complex128) complex128 { z, _ := spin.Times(a, b); return z }
	all := somePairs()
	for i := range all {
		a := all[i].complex()
		for j := range all {
			b, c := all[j].complex(), all[(i*5+j*3+1)%len(all)].complex()
			if plus(a, b) != plus(b, a) || times(a, b) != times(b, a) {
				t.Error("order", a, b)
			}
			if plus(plus(a, b), c) != plus(a, plus(b, c)) || times(times(a, b), c) != times(a, times(b, c)) {
				t.Error("grouping", a, b, c)
			}
			if times(a, plus(b, c)) != plus(times(a, b), times(a, c)) {
				t.Error("products of sums", a, b, c)
			}
		}
	}
}

func someSeeds() []int {
	return []int{0, 1, 2, 77, m - 1, m, m + 1, 5*m + 3, -1, -3, -m, -m - 1, 1<<53 + 1, -(1<<53 + 1), math.MaxInt, math.MinInt}
}

func TestNext(t *testing.T) {
	numbers := []int{1, 2, 3, 7, 10, 1000, m - 1, m, m + 1, 2*m - 2, 2*m - 1, 1 << 30, math.MaxInt, 0, -1, -7, math.MinInt}
	for _, seed := range someSeeds() {
		s, want := spin.New(seed), newTurn(seed)
		for i := range 500 {
			n := numbers[(i+i/len(numbers))%len(numbers)]
			if got, w := s.Next(n), want.next(n); got != w {
				t.Fatalf("seed %d, turn %d: Next(%d) = %d, not %d", seed, i, n, got, w)
			}
		}
	}
}

func TestNextBelowOneTurnsAllTheSame(t *testing.T) {
	for _, n := range []int{0, -1, math.MinInt} {
		s, once := spin.New(9), spin.New(9)
		if got := s.Next(n); got != 0 {
			t.Errorf("Next(%d) = %d", n, got)
		}
		once.Next(10)
		if s.Next(math.MaxInt) != once.Next(math.MaxInt) {
			t.Errorf("Next(%d) did not turn", n)
		}
	}
}

func TestSeedModuloM(t *testing.T) {
	for _, seed := range someSeeds() {
		a, b := spin.New(seed), spin.New(mod(seed))
		for range 20 {
			if x, y := a.Next(math.MaxInt), b.Next(math.MaxInt); x != y {
				t.Fatal(seed, x, y)
			}
		}
	}
}

// The row of this seed comes to z = 0 at this turn: the spin is still one that New made.
func TestRowThroughZero(t *testing.T) {
	const seed, turns = 294389, 85646
	s, want := spin.New(seed), newTurn(seed)
	for range turns {
		if s.Next(math.MaxInt) != want.next(math.MaxInt) {
			t.Fatal("Next")
		}
	}
	if want.z != (pair{}) {
		t.Fatal("this row was to come to 0", want.z)
	}
	c := s.Copy()
	if c == nil {
		t.Fatal("Copy of a spin at 0 is nil")
	}
	if l := s.Copy().Shuffle([]int{1, 2, 3}); len(l) != 3 {
		t.Error("Shuffle of a spin at 0", l)
	}
	if n := s.Next(10); n != 1 {
		t.Error("Next of a spin at 0", n)
	}
	if n := c.Next(10); n != 1 {
		t.Error("Next of the copy of a spin at 0", n)
	}
}

func TestShuffle(t *testing.T) {
	lists := [][]int{nil, {}, {5}, {1, 2}, {1, 2, 3, 4, 5, 6, 7}, {3, 3, 3}, {9, -1, 9, 0, math.MinInt, math.MaxInt, 9}, make([]int, 300)}
	for i := range lists[len(lists)-1] {
		lists[len(lists)-1][i] = i % 50
	}
	for _, seed := range someSeeds() {
		s, want := spin.New(seed), newTurn(seed)
		for _, l := range lists {
			before := slices.Clone(l)
			got := s.Shuffle(l)
			if !slices.Equal(got, want.shuffle(l)) {
				t.Errorf("seed %d: Shuffle(%v) = %v", seed, l, got)
			}
			if !slices.Equal(l, before) {
				t.Errorf("seed %d: Shuffle changed %v to %v", seed, before, l)
			}
			slices.Sort(got)
			slices.Sort(before)
			if !slices.Equal(got, before) {
				t.Errorf("seed %d: Shuffle(%v) has other numbers: %v", seed, l, got)
			}
		}
		if s.Next(math.MaxInt) != want.next(math.MaxInt) {
			t.Errorf("seed %d: Shuffle turned more or less often than it must", seed)
		}
	}
}

func TestShuffleOfNoneAndOneDoesNotTurn(t *testing.T) {
	s, still := spin.New(4), spin.New(4)
	if l := s.Shuffle(nil); len(l) != 0 {
		t.Error(l)
	}
	if l := s.Shuffle([]int{}); len(l) != 0 {
		t.Error(l)
	}
	if l := s.Shuffle([]int{8}); !slices.Equal(l, []int{8}) {
		t.Error(l)
	}
	if s.Next(math.MaxInt) != still.Next(math.MaxInt) {
		t.Error("turned")
	}
}

func TestShuffleSharesNothing(t *testing.T) {
	for _, n := range []int{0, 1, 5} {
		room := []int{1, 2, 3, 4, 5, 6, 7, 8}
		whole := slices.Clone(room)
		s := spin.New(1)
		a, b := s.Shuffle(room[:n]), s.Shuffle(room[:n])
		kept := slices.Clone(b)
		a = a[:cap(a)]
		for i := range a {
			a[i] = -1
		}
		_ = append(a[:min(n, len(a))], -2)
		if !slices.Equal(room, whole) {
			t.Error("what was handed in has changed", room)
		}
		if !slices.Equal(b, kept) {
			t.Error("two answers share memory", b)
		}
	}
}

func TestCopy(t *testing.T) {
	s, want := spin.New(-12), newTurn(-12)
	s.Next(3)
	want.next(3)
	c := s.Copy()
	if c == nil || c == s {
		t.Fatal("Copy is no spin of its own")
	}
	var first []int
	for range 30 {
		first = append(first, c.Next(math.MaxInt))
	}
	for i := range 30 {
		if n := s.Next(math.MaxInt); n != first[i] || n != want.next(math.MaxInt) {
			t.Fatal("the copy and the spin hang together, or go apart", i)
		}
	}
	again := c.Copy()
	if again == nil || again.Next(math.MaxInt) != c.Next(math.MaxInt) {
		t.Error("copy of a copy")
	}
}

func TestSpinsAreApart(t *testing.T) {
	a := spin.New(5)
	first := a.Next(math.MaxInt)
	b := spin.New(5)
	a.Next(1)
	if n := b.Next(math.MaxInt); n != first {
		t.Error(n, first)
	}
}

func TestNoSpin(t *testing.T) {
	for i, s := range []*spin.Spin{nil, {}, new(spin.Spin)} {
		for range 3 {
			for _, n := range []int{1, 5, 10, 0, -1, math.MaxInt, math.MinInt} {
				if got := s.Next(n); got != 0 {
					t.Errorf("%d: Next(%d) = %d", i, n, got)
				}
			}
			for _, l := range [][]int{nil, {}, {1}, {1, 2, 3}} {
				if got := s.Shuffle(l); len(got) != 0 {
					t.Errorf("%d: Shuffle(%v) = %v", i, l, got)
				}
			}
			if s.Copy() != nil {
				t.Errorf("%d: Copy is a spin", i)
			}
		}
	}
}
