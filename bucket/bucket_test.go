package bucket_test

import (
	"math"
	"math/big"
	"math/rand"
	"testing"

	"scantling/bucket"
)

const mostBits = 4

// noBits are some of which there are no buckets.
var noBits = []int{-1, -2, -4, -63, -64, 5, 6, 8, 16, 62, 63, 64, 65, 1 << 32, -1 << 32, math.MaxInt, math.MinInt}

// slowOf is the bucket of n by the words of the document, in whole numbers of
// any length.
func slowOf(bits int, n int64) int {
	m := new(big.Int).Abs(big.NewInt(n))
	e := 0
	if m.Cmp(power(bits)) >= 0 {
		e = m.BitLen() - 1 - bits
	}
	at := new(big.Int).Mul(big.NewInt(int64(e)), power(bits))
	at.Add(at, new(big.Int).Div(m, power(e)))
	if n < 0 {
		at.Neg(at)
	}
	return int(at.Int64())
}

func power(of int) *big.Int { return new(big.Int).Lsh(big.NewInt(1), uint(of)) }

// ofHolds asks for the bucket of n, and whether n is within its bounds.
func ofHolds(t *testing.T, bits int, n int64) int {
	t.Helper()
	want := slowOf(bits, n)
	if at, ok := bucket.Of(bits, n); at != want || !ok {
		t.Fatalf("Of(%d, %d): %d %v, not %d", bits, n, at, ok, want)
	}
	low, high, ok := bucket.Bounds(bits, want)
	if !ok || n < low || n > high {
		t.Fatalf("Bounds(%d, %d): %d %d %v, and %d stands in it", bits, want, low, high, ok, n)
	}
	return want
}

// some numbers: all that are near to 0, to a power of 2, to a half or a
// sixteenth more than it, and to both ends.
func some() []int64 {
	var l []int64
	for n := int64(-300); n <= 300; n++ {
		l = append(l, n, math.MinInt64+300+n, math.MaxInt64-300+n)
	}
	for shift := range 63 {
		one := int64(1) << shift
		for part := range int64(33) {
			for by := int64(-2); by <= 2; by++ {
				n := one + one/32*part + by
				l = append(l, n, -n)
			}
		}
	}
	return l
}

// P5.1: the bucket of a number, worked out by hand.
func TestOf(t *testing.T) {
	for _, c := range []struct {
		bits int
		n    int64
		at   int
	}{
		{1, 6, 5}, // the example of the document
		{0, 0, 0}, {0, 1, 1}, {0, 2, 2}, {0, 3, 2}, {0, 4, 3}, {0, 7, 3}, {0, 8, 4},
		{0, -1, -1}, {0, -2, -2}, {0, -3, -2}, {0, -4, -3},
		{1, 0, 0}, {1, 1, 1}, {1, 2, 2}, {1, 3, 3}, {1, 4, 4}, {1, 5, 4}, {1, 7, 5}, {1, 8, 6}, {1, 11, 6}, {1, 12, 7}, {1, 16, 8},
		{1, -1, -1}, {1, -5, -4}, {1, -6, -5},
		{2, 3, 3}, {2, 4, 4}, {2, 7, 7}, {2, 8, 8}, {2, 9, 8}, {2, 10, 9}, {2, 16, 12},
		{3, 7, 7}, {3, 8, 8}, {3, 15, 15}, {3, 16, 16}, {3, 17, 16}, {3, 18, 17}, {3, 32, 24},
		{4, 15, 15}, {4, 16, 16}, {4, 31, 31}, {4, 32, 32}, {4, 33, 32}, {4, 34, 33}, {4, 64, 48}, {4, -33, -32}, {4, -34, -33},
		{4, 1000000, 270}, // 20 bits: 15 times 16, and 1000000 divided by 2^15
		{0, 1<<62 - 1, 62}, {0, 1 << 62, 63}, {0, math.MaxInt64, 63},
		{0, -1 << 62, -63}, {0, math.MinInt64 + 1, -63}, {0, math.MinInt64, -64},
		{1, math.MaxInt64, 125}, {1, math.MinInt64 + 1, -125}, {1, math.MinInt64, -126},
		{2, math.MaxInt64, 247}, {2, math.MinInt64, -248},
		{3, math.MaxInt64, 487}, {3, math.MinInt64, -488},
		{4, math.MaxInt64, 959}, {4, math.MinInt64 + 1, -959}, {4, math.MinInt64, -960},
	} {
		if at, ok := bucket.Of(c.bits, c.n); at != c.at || !ok {
			t.Errorf("Of(%d, %d): %d %v, not %d", c.bits, c.n, at, ok, c.at)
		}
	}
}

// P5.1: the bucket of a number, by the words of the document.
func TestOfByTheWords(t *testing.T) {
	chance := rand.New(rand.NewSource(5))
	for bits := range mostBits + 1 {
		for n := int64(-5000); n <= 5000; n++ {
			ofHolds(t, bits, n)
		}
		for _, n := range some() {
			ofHolds(t, bits, n)
		}
		for range 20000 {
			ofHolds(t, bits, int64(chance.Uint64())>>chance.Intn(64))
		}
	}
}

// P5.1: below 0 it is what it is above, but told below 0.
func TestOfBelow(t *testing.T) {
	for bits := range mostBits + 1 {
		for _, n := range some() {
			at, ok := bucket.Of(bits, n)
			below, okBelow := bucket.Of(bits, -n)
			if n != math.MinInt64 && (below != -at || !ok || !okBelow) {
				t.Fatalf("of %d bits: %d of %d, %d of %d", bits, at, n, below, -n)
			}
		}
	}
}

// P5.1, P5.2: bits of which there are no buckets.
func TestNoBits(t *testing.T) {
	numbers := []int64{0, 1, -1, 7, 1 << 62, math.MaxInt64, math.MinInt64}
	for _, bits := range noBits {
		for _, n := range numbers {
			if at, ok := bucket.Of(bits, n); at != 0 || ok {
				t.Errorf("Of(%d, %d): %d %v", bits, n, at, ok)
			}
			if low, high, ok := bucket.Bounds(bits, int(n)); low != 0 || high != 0 || ok {
				t.Errorf("Bounds(%d, %d): %d %d %v", bits, n, low, high, ok)
			}
			if bucket.Near(bits, n, n) || bucket.Near(bits, n, 0) {
				t.Errorf("Near(%d, %d)", bits, n)
			}
		}
		if most := bucket.Most(bits); most != -1 {
			t.Errorf("Most(%d): %d", bits, most)
		}
	}
}

// P5.1: the greatest bucket is that of 2^63 - 1.
func TestMost(t *testing.T) {
	for bits, want := range []int{63, 125, 247, 487, 959} {
		if most := bucket.Most(bits); most != want || most != slowOf(bits, math.MaxInt64) {
			t.Errorf("Most(%d): %d, not %d", bits, most, want)
		}
	}
	if bucket.MostBits != mostBits {
		t.Errorf("MostBits is %d", bucket.MostBits)
	}
}

// P5.2: the bounds of a bucket, worked out by hand.
func TestBounds(t *testing.T) {
	for _, c := range []struct {
		bits, at  int
		low, high int64
	}{
		{0, 0, 0, 0}, {0, 1, 1, 1}, {0, 2, 2, 3}, {0, 3, 4, 7}, {0, 4, 8, 15},
		{0, -1, -1, -1}, {0, -2, -3, -2}, {0, -3, -7, -4},
		{0, 62, 1 << 61, 1<<62 - 1}, {0, 63, 1 << 62, math.MaxInt64},
		{0, -63, math.MinInt64 + 1, -1 << 62}, {0, -64, math.MinInt64, math.MinInt64},
		{1, 0, 0, 0}, {1, 1, 1, 1}, {1, 2, 2, 2}, {1, 3, 3, 3}, {1, 4, 4, 5}, {1, 5, 6, 7}, {1, 6, 8, 11}, {1, 7, 12, 15},
		{1, -3, -3, -3}, {1, -4, -5, -4}, {1, -5, -7, -6},
		{1, 125, 3 << 61, math.MaxInt64}, {1, -125, math.MinInt64 + 1, -3 << 61}, {1, -126, math.MinInt64, math.MinInt64},
		{2, 7, 7, 7}, {2, 8, 8, 9}, {2, 11, 14, 15}, {2, 12, 16, 19},
		{3, 15, 15, 15}, {3, 16, 16, 17}, {3, 24, 32, 35},
		{4, 31, 31, 31}, {4, 32, 32, 33}, {4, 47, 62, 63}, {4, 48, 64, 67}, {4, -48, -67, -64},
		{4, 959, 31 << 58, math.MaxInt64}, {4, -959, math.MinInt64 + 1, -31 << 58}, {4, -960, math.MinInt64, math.MinInt64},
	} {
		if low, high, ok := bucket.Bounds(c.bits, c.at); low != c.low || high != c.high || !ok {
			t.Errorf("Bounds(%d, %d): %d %d %v, not %d %d", c.bits, c.at, low, high, ok, c.low, c.high)
		}
	}
}

// P5.2: a bucket in which no number stands has no bounds.
func TestBoundsOfNone(t *testing.T) {
	for bits := range mostBits + 1 {
		most := slowOf(bits, math.MaxInt64)
		l := []int{
			most + 1, most + 2, most + 1<<bits, most + 1<<(bits+1), 2*most + 2, 4096, 1 << 31, 1 << 32, 1 << 62,
			math.MaxInt, math.MaxInt - 1, math.MinInt, math.MinInt + 1,
		}
		for _, at := range l {
			// Below 0 there is one bucket more, that of -2^63.
			for _, at := range []int{at, -at - 1} {
				if low, high, ok := bucket.Bounds(bits, at); low != 0 || high != 0 || ok {
					t.Errorf("Bounds(%d, %d): %d %d %v", bits, at, low, high, ok)
				}
			}
		}
	}
}

// P5.2, P5.3: from the first to the last the buckets are all numbers, each
// once and rising, and each is those of its own bounds.
func TestBucketsAreAllNumbers(t *testing.T) {
	for bits := range mostBits + 1 {
		first, last := slowOf(bits, math.MinInt64), slowOf(bits, math.MaxInt64)
		next := int64(math.MinInt64)
		for at := first; at <= last; at++ {
			low, high, ok := bucket.Bounds(bits, at)
			if !ok || low != next || high < low {
				t.Fatalf("Bounds(%d, %d): %d %d %v, not from %d on", bits, at, low, high, ok, next)
			}
			for _, n := range []int64{low, low + (high-low)/2, high} {
				if of := ofHolds(t, bits, n); of != at {
					t.Fatalf("Of(%d, %d): %d, not %d", bits, n, of, at)
				}
			}
			if at == last && high != math.MaxInt64 {
				t.Fatalf("Bounds(%d, %d): up to %d", bits, at, high)
			}
			next = high + 1
		}
	}
}

// P5.3: the buckets rise with the numbers.
func TestBucketsRise(t *testing.T) {
	chance := rand.New(rand.NewSource(53))
	for bits := range mostBits + 1 {
		for range 20000 {
			a := int64(chance.Uint64()) >> chance.Intn(64)
			b := int64(chance.Uint64()) >> chance.Intn(64)
			a, b = min(a, b), max(a, b)
			atA, _ := bucket.Of(bits, a)
			atB, _ := bucket.Of(bits, b)
			if atA > atB {
				t.Fatalf("of %d bits: %d of %d, %d of %d", bits, atA, a, atB, b)
			}
		}
	}
}

// P5.3: a bucket is one number wide, or at most 2^-bits of that number of it
// that is nearest to 0.
func TestBucketsAreNarrow(t *testing.T) {
	for bits := range mostBits + 1 {
		for at := slowOf(bits, math.MinInt64); at <= slowOf(bits, math.MaxInt64); at++ {
			low, high, _ := bucket.Bounds(bits, at)
			wide := new(big.Int).Sub(big.NewInt(high), big.NewInt(low))
			wide.Add(wide, big.NewInt(1))
			near := new(big.Int).Abs(big.NewInt(low))
			if far := new(big.Int).Abs(big.NewInt(high)); far.Cmp(near) < 0 {
				near = far
			}
			most := near.Rsh(near, uint(bits))
			if wide.Cmp(big.NewInt(1)) != 0 && wide.Cmp(most) > 0 {
				t.Fatalf("of %d bits: %d is from %d to %d", bits, at, low, high)
			}
		}
	}
}

// P5.2: near to one another are those of the same bucket.
func TestNear(t *testing.T) {
	for _, c := range []struct {
		bits int
		a, b int64
		near bool
	}{
		{0, 0, 0, true}, {0, 0, 1, false}, {0, 0, -1, false}, {0, 1, -1, false}, {0, 2, 3, true}, {0, 3, 4, false}, {0, -2, -3, true}, {0, 2, -2, false},
		{1, 2, 3, false}, {1, 4, 5, true}, {1, 5, 6, false}, {1, -6, -7, true}, {1, 8, 11, true}, {1, 11, 12, false},
		{4, 30, 31, false}, {4, 31, 31, true}, {4, 32, 33, true}, {4, 33, 34, false}, {4, 33, -33, false},
		{0, 1 << 62, math.MaxInt64, true}, {4, 1 << 62, math.MaxInt64, false}, {4, 31 << 58, math.MaxInt64, true}, {4, 31<<58 - 1, math.MaxInt64, false},
		{0, math.MinInt64, math.MinInt64, true}, {0, math.MinInt64, math.MinInt64 + 1, false}, {0, math.MinInt64, math.MaxInt64, false}, {0, math.MinInt64, 0, false},
	} {
		if bucket.Near(c.bits, c.a, c.b) != c.near || bucket.Near(c.bits, c.b, c.a) != c.near {
			t.Errorf("Near(%d, %d, %d) is not %v", c.bits, c.a, c.b, c.near)
		}
	}
	for bits := range mostBits + 1 {
		for a := int64(-70); a <= 70; a++ {
			for b := int64(-70); b <= 70; b++ {
				if bucket.Near(bits, a, b) != (slowOf(bits, a) == slowOf(bits, b)) {
					t.Errorf("Near(%d, %d, %d)", bits, a, b)
				}
			}
		}
	}
}
