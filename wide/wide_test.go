package wide_test

import (
	"math"
	"math/big"
	"math/rand"
	"sort"
	"strings"
	"testing"

	"scantling/wide"
)

var (
	least = wide.Sum{High: math.MinInt64}
	most  = wide.Sum{High: math.MaxInt64, Low: math.MaxUint64}
)

const (
	leastText = "-170141183460469231731687303715884105728"
	mostText  = "170141183460469231731687303715884105727"
)

// known is sums with their texts and bytes, from below upward.
func known() []example {
	return []example{
		{least, leastText, "\x80\x00\x00\x00\x00\x00\x00\x00\x00\x00\x00\x00\x00\x00\x00\x00"},
		{wide.Sum{High: math.MinInt64, Low: 1}, "-170141183460469231731687303715884105727", "\x80\x00\x00\x00\x00\x00\x00\x00\x00\x00\x00\x00\x00\x00\x00\x01"},
		{wide.Sum{High: -2, Low: math.MaxUint64}, "-18446744073709551617", "\xff\xff\xff\xff\xff\xff\xff\xfe\xff\xff\xff\xff\xff\xff\xff\xff"},
		{wide.Sum{High: -1}, "-18446744073709551616", "\xff\xff\xff\xff\xff\xff\xff\xff\x00\x00\x00\x00\x00\x00\x00\x00"},
		{wide.Sum{High: -1, Low: 1}, "-18446744073709551615", "\xff\xff\xff\xff\xff\xff\xff\xff\x00\x00\x00\x00\x00\x00\x00\x01"},
		{wide.Sum{High: -1, Low: 1 << 63}, "-9223372036854775808", "\xff\xff\xff\xff\xff\xff\xff\xff\x80\x00\x00\x00\x00\x00\x00\x00"},
		{wide.Sum{High: -1, Low: math.MaxUint64 - 9}, "-10", "\xff\xff\xff\xff\xff\xff\xff\xff\xff\xff\xff\xff\xff\xff\xff\xf6"},
		{wide.Sum{High: -1, Low: math.MaxUint64}, "-1", "\xff\xff\xff\xff\xff\xff\xff\xff\xff\xff\xff\xff\xff\xff\xff\xff"},
		{wide.Sum{}, "0", "\x00\x00\x00\x00\x00\x00\x00\x00\x00\x00\x00\x00\x00\x00\x00\x00"},
		{wide.Sum{Low: 1}, "1", "\x00\x00\x00\x00\x00\x00\x00\x00\x00\x00\x00\x00\x00\x00\x00\x01"},
		{wide.Sum{Low: 9}, "9", "\x00\x00\x00\x00\x00\x00\x00\x00\x00\x00\x00\x00\x00\x00\x00\x09"},
		{wide.Sum{Low: 10}, "10", "\x00\x00\x00\x00\x00\x00\x00\x00\x00\x00\x00\x00\x00\x00\x00\x0a"},
		{wide.Sum{Low: 0x0123456789abcdef}, "81985529216486895", "\x00\x00\x00\x00\x00\x00\x00\x00\x01\x23\x45\x67\x89\xab\xcd\xef"},
		{wide.Sum{Low: math.MaxInt64}, "9223372036854775807", "\x00\x00\x00\x00\x00\x00\x00\x00\x7f\xff\xff\xff\xff\xff\xff\xff"},
		{wide.Sum{Low: 1 << 63}, "9223372036854775808", "\x00\x00\x00\x00\x00\x00\x00\x00\x80\x00\x00\x00\x00\x00\x00\x00"},
		{wide.Sum{Low: 1e19 - 1}, "9999999999999999999", "\x00\x00\x00\x00\x00\x00\x00\x00\x8a\xc7\x23\x04\x89\xe7\xff\xff"},
		{wide.Sum{Low: 1e19}, "10000000000000000000", "\x00\x00\x00\x00\x00\x00\x00\x00\x8a\xc7\x23\x04\x89\xe8\x00\x00"},
		{wide.Sum{Low: 1e19 + 7}, "10000000000000000007", "\x00\x00\x00\x00\x00\x00\x00\x00\x8a\xc7\x23\x04\x89\xe8\x00\x07"},
		{wide.Sum{Low: math.MaxUint64}, "18446744073709551615", "\x00\x00\x00\x00\x00\x00\x00\x00\xff\xff\xff\xff\xff\xff\xff\xff"},
		{wide.Sum{High: 1}, "18446744073709551616", "\x00\x00\x00\x00\x00\x00\x00\x01\x00\x00\x00\x00\x00\x00\x00\x00"},
		{wide.Sum{High: 0x0123456789abcdef, Low: 0xfedcba9876543210}, "1512366075204170947332355369683137040", "\x01\x23\x45\x67\x89\xab\xcd\xef\xfe\xdc\xba\x98\x76\x54\x32\x10"},
		{wide.Sum{High: math.MaxInt64, Low: math.MaxUint64 - 1}, "170141183460469231731687303715884105726", "\x7f\xff\xff\xff\xff\xff\xff\xff\xff\xff\xff\xff\xff\xff\xff\xfe"},
		{most, mostText, "\x7f\xff\xff\xff\xff\xff\xff\xff\xff\xff\xff\xff\xff\xff\xff\xff"},
	}
}

type example struct {
	sum       wide.Sum
	text, put string
}

// whole is the number that a is, by the words of the document.
func whole(a wide.Sum) *big.Int {
	n := new(big.Int).Lsh(big.NewInt(a.High), 64)
	return n.Add(n, new(big.Int).SetUint64(a.Low))
}

// modulo is the Sum that n is, modulo 2^128.
func modulo(n *big.Int) wide.Sum {
	word := new(big.Int).SetUint64(math.MaxUint64)
	low := new(big.Int).And(n, word)
	high := new(big.Int).And(new(big.Int).Rsh(n, 64), word)
	return wide.Sum{High: int64(high.Uint64()), Low: low.Uint64()}
}

// many is sums of all lengths, about the powers of 2 and of 10 and by chance,
// below 0 and above.
func many() []wide.Sum {
	var sums []wide.Sum
	about := func(n *big.Int) {
		for near := int64(-2); near <= 2; near++ {
			a := modulo(new(big.Int).Add(n, big.NewInt(near)))
			sums = append(sums, a, modulo(new(big.Int).Neg(whole(a))))
		}
	}
	for bit := range uint(128) {
		about(new(big.Int).Lsh(big.NewInt(1), bit))
	}
	for ten := range int64(39) {
		about(new(big.Int).Exp(big.NewInt(10), big.NewInt(ten), nil))
	}
	chance := rand.New(rand.NewSource(2))
	for range 1000 {
		high, low := int64(chance.Uint64()), chance.Uint64()
		sums = append(sums, wide.Sum{High: high >> chance.Intn(65), Low: low >> chance.Intn(65)})
	}
	return sums
}

// P2.1
func TestOf(t *testing.T) {
	for _, c := range []struct {
		n    int64
		want wide.Sum
	}{
		{0, wide.Sum{}},
		{1, wide.Sum{Low: 1}},
		{-1, wide.Sum{High: -1, Low: math.MaxUint64}},
		{-2, wide.Sum{High: -1, Low: math.MaxUint64 - 1}},
		{math.MaxInt64, wide.Sum{Low: math.MaxInt64}},
		{math.MinInt64, wide.Sum{High: -1, Low: 1 << 63}},
		{math.MinInt64 + 1, wide.Sum{High: -1, Low: 1<<63 + 1}},
	} {
		if got := wide.Of(c.n); got != c.want {
			t.Errorf("%d: %v, not %v", c.n, got, c.want)
		}
	}
	for _, a := range many() {
		n := int64(a.Low)
		if got := wide.Of(n); whole(got).Cmp(big.NewInt(n)) != 0 {
			t.Errorf("%d: %v", n, got)
		}
	}
}

// P2.1
func TestAdd(t *testing.T) {
	for _, c := range []struct{ a, b, want wide.Sum }{
		{wide.Of(2), wide.Of(3), wide.Of(5)},
		{wide.Of(2), wide.Of(-3), wide.Of(-1)},
		{wide.Of(-2), wide.Of(-3), wide.Of(-5)},
		{wide.Of(1), wide.Of(-1), wide.Sum{}},
		{wide.Sum{Low: math.MaxUint64}, wide.Of(1), wide.Sum{High: 1}},
		{wide.Sum{High: 1}, wide.Of(-1), wide.Sum{Low: math.MaxUint64}},
		{wide.Of(math.MaxInt64), wide.Of(math.MaxInt64), wide.Sum{Low: math.MaxUint64 - 1}},
		{wide.Of(math.MinInt64), wide.Of(math.MinInt64), wide.Sum{High: -1}},
		{most, wide.Of(1), least},
		{least, wide.Of(-1), most},
		{most, least, wide.Of(-1)},
		{most, most, wide.Of(-2)},
		{least, least, wide.Sum{}},
		{most, wide.Sum{}, most},
		{least, wide.Sum{}, least},
	} {
		if got := c.a.Add(c.b); got != c.want {
			t.Errorf("%v and %v: %v, not %v", c.a, c.b, got, c.want)
		}
	}
	sums := many()
	for i, a := range sums {
		for _, b := range sums[i%17:][:200] {
			want := modulo(new(big.Int).Add(whole(a), whole(b)))
			if got := a.Add(b); got != want {
				t.Fatalf("%v and %v: %v, not %v", a, b, got, want)
			}
		}
	}
}

// P2.1
func TestNeg(t *testing.T) {
	for _, c := range []struct{ a, want wide.Sum }{
		{wide.Sum{}, wide.Sum{}},
		{wide.Of(1), wide.Of(-1)},
		{wide.Of(-7), wide.Of(7)},
		{wide.Sum{High: 1}, wide.Sum{High: -1}},
		{wide.Of(math.MinInt64), wide.Sum{Low: 1 << 63}},
		{most, wide.Sum{High: math.MinInt64, Low: 1}},
		{least, least},
	} {
		if got := c.a.Neg(); got != c.want {
			t.Errorf("%v: %v, not %v", c.a, got, c.want)
		}
	}
	for _, a := range many() {
		if got, want := a.Neg(), modulo(new(big.Int).Neg(whole(a))); got != want {
			t.Errorf("%v: %v, not %v", a, got, want)
		}
		if got := a.Add(a.Neg()); got != (wide.Sum{}) {
			t.Errorf("%v: with its Neg it is %v", a, got)
		}
	}
}

// P2.1
func TestLess(t *testing.T) {
	sums := known()
	for i, a := range sums {
		for j, b := range sums {
			if got := a.sum.Less(b.sum); got != (i < j) {
				t.Errorf("%s below %s: %v", a.text, b.text, got)
			}
		}
	}
	all := many()
	for i, a := range all {
		for _, b := range all[i%17:][:200] {
			if got, want := a.Less(b), whole(a).Cmp(whole(b)) < 0; got != want {
				t.Fatalf("%v below %v: %v", a, b, got)
			}
		}
	}
}

// P2.1
func TestSign(t *testing.T) {
	for _, c := range []struct {
		a    wide.Sum
		want int
	}{
		{wide.Sum{}, 0},
		{wide.Of(1), 1}, {wide.Of(-1), -1},
		{wide.Sum{High: 1}, 1}, {wide.Sum{High: -1}, -1},
		{wide.Sum{Low: 1 << 63}, 1}, {wide.Sum{Low: math.MaxUint64}, 1},
		{most, 1}, {least, -1},
	} {
		if got := c.a.Sign(); got != c.want {
			t.Errorf("%v: %d, not %d", c.a, got, c.want)
		}
	}
	for _, a := range many() {
		if got, want := a.Sign(), whole(a).Sign(); got != want {
			t.Errorf("%v: %d, not %d", a, got, want)
		}
	}
}

// P2.2
func TestTextAndRead(t *testing.T) {
	for _, c := range known() {
		if got := c.sum.Text(); got != c.text {
			t.Errorf("%v: %q, not %q", c.sum, got, c.text)
		}
		if got, ok := wide.Read(c.text); got != c.sum || !ok {
			t.Errorf("%q: %v %v, not %v", c.text, got, ok, c.sum)
		}
	}
	for _, a := range many() {
		text := a.Text()
		if want := whole(a).String(); text != want {
			t.Errorf("%v: %q, not %q", a, text, want)
		}
		if got, ok := wide.Read(text); got != a || !ok {
			t.Errorf("%q: %v %v, not %v", text, got, ok, a)
		}
	}
}

// P2.2: texts that no sum has.
func TestReadOfNoSum(t *testing.T) {
	for _, s := range []string{
		"", "-", "--", "--1", "-1-", "1-", "1-1", "+", "+1", "+0", "-+1", "+-1",
		"-0", "00", "-00", "01", "-01", "007", "0" + mostText, "-0" + leastText[1:],
		" ", " 1", "1 ", "- 1", "1 2", "\t1", "1\n", "1\x00", "\x001", "\x00",
		"x", "1x", "x1", "-x", "a", "0x1", "1e3", "1.0", "1.", ".5", "1_000", "1,000",
		"/", ":", "1/", "1:", "/1", "12:3", "\xff", "1\xff", "\u0661", "\uff11", "1\u0660", "−1",
		"170141183460469231731687303715884105728", // one above the most
		"170141183460469231731687303715884105729",
		"-170141183460469231731687303715884105729", // one below the least
		"-170141183460469231731687303715884105730",
		"170141183460469231731687303715884105730",
		"1701411834604692317316873037158841057270",
		"-1701411834604692317316873037158841057280",
		"340282366920938463463374607431768211455", // 2^128 - 1, which would wrap to -1
		"340282366920938463463374607431768211456",
		"-340282366920938463463374607431768211455",
		"340282366920938463463374607431768211457",
		"3402823669209384634633746074317682114560",                   // ten times 2^128
		"6277101735386680763835789423207666416102355444464034512896", // 2^192
		"99999999999999999999999999999999999999999999999",
		strings.Repeat("0", 40), strings.Repeat("0", 1<<20) + "1",
		strings.Repeat("9", 39), strings.Repeat("9", 1<<20), "-" + strings.Repeat("1", 1<<20),
		mostText + " ", " " + mostText, leastText + "x", mostText + mostText,
	} {
		if got, ok := wide.Read(s); got != (wide.Sum{}) || ok {
			t.Errorf("%.60q: %v %v", s, got, ok)
		}
	}
}

// P2.2: each text of a few bytes, and each text that differs from a sum's in
// one byte, is read just if it is some sum's.
func TestReadOfTextsNearby(t *testing.T) {
	const bytes = "-+0129 /:x\x00\xff"
	var texts []string
	for level, from := 0, []string{""}; level < 4; level++ {
		var next []string
		for _, s := range from {
			for i := range len(bytes) {
				next = append(next, s+bytes[i:i+1])
			}
		}
		texts, from = append(texts, next...), next
	}
	for _, c := range known() {
		for at := range len(c.text) + 1 {
			for i := range len(bytes) {
				texts = append(texts, c.text[:at]+bytes[i:i+1]+c.text[at:])
				if at < len(c.text) {
					texts = append(texts, c.text[:at]+bytes[i:i+1]+c.text[at+1:])
				}
			}
			texts = append(texts, c.text[:at], c.text[at:])
		}
	}
	for _, s := range texts {
		want, ok := readSlowly(s)
		if got, gotOK := wide.Read(s); got != want || gotOK != ok {
			t.Errorf("%q: %v %v, not %v %v", s, got, gotOK, want, ok)
		}
	}
}

// readSlowly is Read by the words of the document, over numbers of any length.
func readSlowly(s string) (wide.Sum, bool) {
	if strings.Trim(s, "-0123456789") != "" {
		return wide.Sum{}, false
	}
	n, ok := new(big.Int).SetString(s, 10)
	if !ok || n.String() != s || n.Cmp(whole(least)) < 0 || n.Cmp(whole(most)) > 0 {
		return wide.Sum{}, false
	}
	return modulo(n), true
}

// P2.2
func TestPutAndGet(t *testing.T) {
	for _, c := range known() {
		if got := c.sum.Put(); got != c.put {
			t.Errorf("%s: %x, not %x", c.text, got, c.put)
		}
		if got, ok := wide.Get(c.put); got != c.sum || !ok {
			t.Errorf("%x: %v %v, not %v", c.put, got, ok, c.sum)
		}
	}
}

// P2.2: each byte has a place of its own, and any sixteen are some sum's.
func TestGetOfEachByte(t *testing.T) {
	for at := range 16 {
		for value := range 256 {
			b := make([]byte, 16)
			b[at] = byte(value)
			want := modulo(new(big.Int).SetBytes(b))
			if got, ok := wide.Get(string(b)); got != want || !ok {
				t.Errorf("%x: %v %v, not %v", b, got, ok, want)
			}
			if got := want.Put(); got != string(b) {
				t.Errorf("%v: %x, not %x", want, got, b)
			}
		}
	}
}

// P2.2: bytes that no sum has.
func TestGetOfNoSum(t *testing.T) {
	for _, long := range []string{strings.Repeat("\x00", 64), strings.Repeat("\xff", 64), most.Put() + least.Put(), strings.Repeat("1", 64)} {
		for length := range len(long) {
			if got, ok := wide.Get(long[:length]); length != 16 && (got != (wide.Sum{}) || ok) {
				t.Errorf("%d bytes: %v %v", length, got, ok)
			}
		}
	}
	if got, ok := wide.Get(strings.Repeat("x", 1<<20)); got != (wide.Sum{}) || ok {
		t.Errorf("many bytes: %v %v", got, ok)
	}
}

// P2.3
func TestAddedInAnyOrder(t *testing.T) {
	sums := many()
	sums = append(sums, most, most, least, least, wide.Of(1))
	want := new(big.Int)
	for _, a := range sums {
		want.Add(want, whole(a))
	}
	chance := rand.New(rand.NewSource(3))
	for range 50 {
		chance.Shuffle(len(sums), func(i, j int) { sums[i], sums[j] = sums[j], sums[i] })
		var forward wide.Sum
		for _, a := range sums {
			forward = forward.Add(a)
		}
		if forward != modulo(want) {
			t.Fatalf("one by one: %v, not %v", forward, modulo(want))
		}
		if pairs := inPairs(sums); pairs != modulo(want) {
			t.Fatalf("in halves: %v, not %v", pairs, modulo(want))
		}
	}
}

// inPairs adds the halves of sums, each added in the same way.
func inPairs(sums []wide.Sum) wide.Sum {
	if len(sums) == 1 {
		return sums[0]
	}
	return inPairs(sums[len(sums)/2:]).Add(inPairs(sums[:len(sums)/2]))
}

// P2.3
func TestWhatWasPutIsGot(t *testing.T) {
	seen := map[string]wide.Sum{}
	for _, a := range many() {
		put := a.Put()
		if got, ok := wide.Get(put); got != a || !ok {
			t.Errorf("%v: %v %v", a, got, ok)
		}
		if other, ok := seen[put]; ok && other != a {
			t.Errorf("%v and %v have one Put", a, other)
		}
		seen[put] = a
	}
}

// P2.1: sorted by Less they stand as the numbers do.
func TestSortedByLess(t *testing.T) {
	sums := many()
	sort.Slice(sums, func(i, j int) bool { return sums[i].Less(sums[j]) })
	for i := 1; i < len(sums); i++ {
		if whole(sums[i-1]).Cmp(whole(sums[i])) > 0 {
			t.Fatalf("%v stands ahead of %v", sums[i-1], sums[i])
		}
	}
}
