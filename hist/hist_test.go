package hist_test

import (
	"cmp"
	"math"
	"math/big"
	"math/rand"
	"slices"
	"strings"
	"testing"

	"scantling/api"
	"scantling/bucket"
	"scantling/hist"
)

const (
	mostBits  = 4
	mostCount = 1 << 40
)

// noBits are some of which there are no buckets.
var noBits = []int{-1, -2, -4, -64, 5, 6, 8, 64, 255, 256, 256 + 2, 1<<32 + 2, math.MaxInt, math.MinInt, math.MinInt + 2}

func newHist(t *testing.T, bits int) *hist.Hist {
	t.Helper()
	h, err := hist.New(bits)
	if h == nil || err != api.OK {
		t.Fatalf("New(%d): %v %d", bits, h, err)
	}
	return h
}

func add(t *testing.T, h *hist.Hist, numbers ...int64) {
	t.Helper()
	for _, n := range numbers {
		if err := h.Add(n); err != api.OK {
			t.Fatalf("Add(%d): %d", n, err)
		}
	}
}

func merge(t *testing.T, h, g *hist.Hist) {
	t.Helper()
	if err := h.Merge(g); err != api.OK {
		t.Fatalf("Merge of %v into %v: %d", g.Items(), h.Items(), err)
	}
}

// of is the Hist of these items.
func of(t *testing.T, bits int, items ...hist.Item) *hist.Hist {
	t.Helper()
	h, rest, err := hist.Get(bytesOf(bits, items...))
	if h == nil || rest != "" || err != api.OK {
		t.Fatalf("of %d bits, %v: %v %q %d", bits, items, h, rest, err)
	}
	return h
}

// bytesOf is what the document says is put of these items, whether they may be
// so or not.
func bytesOf(bits int, items ...hist.Item) string {
	out := []byte{byte(bits), byte(len(items) >> 8), byte(len(items))}
	for _, item := range items {
		at := uint32(int64(item.At) + 1<<31)
		out = append(out, byte(at>>24), byte(at>>16), byte(at>>8), byte(at))
		for shift := 40; shift >= 0; shift -= 8 {
			out = append(out, byte(item.Many>>shift))
		}
	}
	return string(out)
}

func countOf(items []hist.Item) uint64 {
	var count uint64
	for _, item := range items {
		count += item.Many
	}
	return count
}

// holds asks of h all that it tells but the quantiles.
func holds(t *testing.T, h *hist.Hist, bits int, want ...hist.Item) {
	t.Helper()
	if got := h.Items(); !slices.Equal(got, want) {
		t.Fatalf("items %v, not %v", got, want)
	}
	if got := h.Count(); got != countOf(want) {
		t.Fatalf("count %d of %v", got, want)
	}
	if got := h.Bits(); got != bits {
		t.Fatalf("bits %d, not %d", got, bits)
	}
	if got := h.Put(); got != bytesOf(bits, want...) {
		t.Fatalf("%v is put as %x, not %x", want, got, bytesOf(bits, want...))
	}
	ahead := uint64(0)
	for _, item := range want {
		for _, r := range []uint64{ahead + 1, ahead + (item.Many+1)/2, ahead + item.Many} {
			rankHolds(t, h, r, item.At, true)
		}
		ahead += item.Many
	}
	for _, r := range []uint64{0, ahead + 1, ahead + 2, ahead + 1<<32, ahead + 1<<48, 1 << 63, math.MaxUint64} {
		rankHolds(t, h, r, 0, false)
	}
}

func rankHolds(t *testing.T, h *hist.Hist, r uint64, want int, wantOK bool) {
	t.Helper()
	if r == 0 {
		wantOK, want = false, 0
	}
	if at, ok := h.Rank(r); at != want || ok != wantOK {
		t.Fatalf("Rank(%d) of %v: %d %v, not %d %v", r, h.Items(), at, ok, want, wantOK)
	}
}

// itemsOf is the items of numbers, by the words of the document.
func itemsOf(bits int, numbers []int64) []hist.Item {
	many := map[int]uint64{}
	for _, n := range numbers {
		at, _ := bucket.Of(bits, n)
		many[at]++
	}
	var items []hist.Item
	for at, m := range many {
		items = append(items, hist.Item{At: at, Many: m})
	}
	slices.SortFunc(items, func(a, b hist.Item) int { return cmp.Compare(a.At, b.At) })
	return items
}

// someNumber is a number by chance: a few near to 0, and some up to both ends.
func someNumber(chance *rand.Rand) int64 {
	switch chance.Intn(12) {
	case 0:
		return math.MinInt64
	case 1:
		return math.MaxInt64
	}
	return int64(chance.Uint64()) >> chance.Intn(64)
}

func someNumbers(chance *rand.Rand, most int) []int64 {
	numbers := make([]int64, chance.Intn(most+1))
	for i := range numbers {
		numbers[i] = someNumber(chance)
	}
	return numbers
}

// P6.1
func TestNew(t *testing.T) {
	for bits := range mostBits + 1 {
		h := newHist(t, bits)
		holds(t, h, bits)
		add(t, h, 3)
		at, _ := bucket.Of(bits, 3)
		holds(t, h, bits, hist.Item{At: at, Many: 1})
		holds(t, newHist(t, bits), bits)
	}
}

// P6.1, P6: wrong inputs.
func TestNewOfNoBits(t *testing.T) {
	for _, bits := range noBits {
		if h, err := hist.New(bits); h != nil || err != api.ErrArg {
			t.Errorf("New(%d): %v %d", bits, h, err)
		}
	}
}

// P6.1: items worked out by hand.
func TestAdd(t *testing.T) {
	h := newHist(t, 0)
	for _, step := range []struct {
		n    int64
		want []hist.Item
	}{
		{5, []hist.Item{{At: 3, Many: 1}}},
		{0, []hist.Item{{At: 0, Many: 1}, {At: 3, Many: 1}}},
		{-1, []hist.Item{{At: -1, Many: 1}, {At: 0, Many: 1}, {At: 3, Many: 1}}},
		{7, []hist.Item{{At: -1, Many: 1}, {At: 0, Many: 1}, {At: 3, Many: 2}}},
		{1, []hist.Item{{At: -1, Many: 1}, {At: 0, Many: 1}, {At: 1, Many: 1}, {At: 3, Many: 2}}},
		{-1, []hist.Item{{At: -1, Many: 2}, {At: 0, Many: 1}, {At: 1, Many: 1}, {At: 3, Many: 2}}},
		{math.MinInt64, []hist.Item{{At: -64, Many: 1}, {At: -1, Many: 2}, {At: 0, Many: 1}, {At: 1, Many: 1}, {At: 3, Many: 2}}},
		{math.MaxInt64, []hist.Item{{At: -64, Many: 1}, {At: -1, Many: 2}, {At: 0, Many: 1}, {At: 1, Many: 1}, {At: 3, Many: 2}, {At: 63, Many: 1}}},
		{0, []hist.Item{{At: -64, Many: 1}, {At: -1, Many: 2}, {At: 0, Many: 2}, {At: 1, Many: 1}, {At: 3, Many: 2}, {At: 63, Many: 1}}},
	} {
		add(t, h, step.n)
		holds(t, h, 0, step.want...)
	}
}

// P6.1: each bucket that there is, with both its ends in it.
func TestAddToEachBucket(t *testing.T) {
	for bits := range mostBits + 1 {
		h, want := newHist(t, bits), []hist.Item{}
		last := bucket.Most(bits)
		for at := -last - 1; at <= last; at++ {
			low, high, ok := bucket.Bounds(bits, at)
			if !ok {
				t.Fatalf("Bounds(%d, %d)", bits, at)
			}
			add(t, h, high, low)
			want = append(want, hist.Item{At: at, Many: 2})
		}
		holds(t, h, bits, want...)
		holds(t, of(t, bits, want...), bits, want...)
		for at := last; at >= -last-1; at-- {
			low, _, _ := bucket.Bounds(bits, at)
			add(t, h, low)
			want[at+last+1].Many++
		}
		holds(t, h, bits, want...)
	}
}

// P6.1: a Count of 2^40, and one above it.
func TestAddUpToMostCount(t *testing.T) {
	for _, items := range [][]hist.Item{
		{{At: 0, Many: mostCount - 1}},
		{{At: -3, Many: 1 << 39}, {At: 4, Many: 1<<39 - 1}},
		{{At: -64, Many: mostCount - 2}, {At: 63, Many: 1}},
	} {
		for _, n := range []int64{0, 1, -5, 8, math.MinInt64, math.MaxInt64} {
			h := of(t, 0, items...)
			add(t, h, n)
			if got := h.Count(); got != mostCount {
				t.Fatalf("count %d", got)
			}
			full := h.Items()
			for _, more := range []int64{n, 0, 2, -2, math.MinInt64, math.MaxInt64} {
				if err := h.Add(more); err != api.ErrRange {
					t.Errorf("Add(%d) to %v: %d", more, full, err)
				}
				holds(t, h, 0, full...)
			}
		}
	}
}

// P6.1: items worked out by hand.
func TestMerge(t *testing.T) {
	for _, c := range []struct{ h, g, want []hist.Item }{
		{nil, nil, nil},
		{[]hist.Item{{At: 1, Many: 2}}, nil, []hist.Item{{At: 1, Many: 2}}},
		{nil, []hist.Item{{At: 1, Many: 2}}, []hist.Item{{At: 1, Many: 2}}},
		{[]hist.Item{{At: 1, Many: 2}}, []hist.Item{{At: 1, Many: 3}}, []hist.Item{{At: 1, Many: 5}}},
		{[]hist.Item{{At: 1, Many: 2}}, []hist.Item{{At: 2, Many: 3}}, []hist.Item{{At: 1, Many: 2}, {At: 2, Many: 3}}},
		{[]hist.Item{{At: 1, Many: 2}}, []hist.Item{{At: -2, Many: 3}}, []hist.Item{{At: -2, Many: 3}, {At: 1, Many: 2}}},
		{
			[]hist.Item{{At: -3, Many: 1}, {At: 0, Many: 2}, {At: 4, Many: 3}},
			[]hist.Item{{At: -4, Many: 9}, {At: -3, Many: 8}, {At: 2, Many: 7}, {At: 3, Many: 6}, {At: 4, Many: 5}, {At: 5, Many: 4}},
			[]hist.Item{{At: -4, Many: 9}, {At: -3, Many: 9}, {At: 0, Many: 2}, {At: 2, Many: 7}, {At: 3, Many: 6}, {At: 4, Many: 8}, {At: 5, Many: 4}},
		},
		{[]hist.Item{{At: 0, Many: mostCount}}, nil, []hist.Item{{At: 0, Many: mostCount}}},
		{nil, []hist.Item{{At: 0, Many: mostCount}}, []hist.Item{{At: 0, Many: mostCount}}},
		{[]hist.Item{{At: 0, Many: mostCount - 1}}, []hist.Item{{At: 1, Many: 1}}, []hist.Item{{At: 0, Many: mostCount - 1}, {At: 1, Many: 1}}},
		{[]hist.Item{{At: 0, Many: 1 << 39}}, []hist.Item{{At: 0, Many: 1 << 39}}, []hist.Item{{At: 0, Many: mostCount}}},
	} {
		for bits := range mostBits + 1 {
			h, g := of(t, bits, c.h...), of(t, bits, c.g...)
			merge(t, h, g)
			holds(t, h, bits, c.want...)
			holds(t, g, bits, c.g...)
		}
	}
}

// P6.1: of other Bits, which is told ahead of too many.
func TestMergeOfOtherBits(t *testing.T) {
	for bits := range mostBits + 1 {
		for other := range mostBits + 1 {
			if other == bits {
				continue
			}
			for _, items := range [][]hist.Item{nil, {{At: 1, Many: 2}}, {{At: 0, Many: mostCount}}} {
				h, g := of(t, bits, items...), of(t, other, items...)
				if err := h.Merge(g); err != api.ErrArg {
					t.Errorf("of %d bits into %d: %d", other, bits, err)
				}
				holds(t, h, bits, items...)
				holds(t, g, other, items...)
			}
		}
	}
}

// P6.1: both Counts one above 2^40, and far above it.
func TestMergeOfTooMany(t *testing.T) {
	for _, c := range []struct{ h, g []hist.Item }{
		{[]hist.Item{{At: 0, Many: mostCount}}, []hist.Item{{At: 0, Many: 1}}},
		{[]hist.Item{{At: 0, Many: 1}}, []hist.Item{{At: 0, Many: mostCount}}},
		{[]hist.Item{{At: 0, Many: mostCount}}, []hist.Item{{At: 1, Many: mostCount}}},
		{[]hist.Item{{At: 0, Many: 1 << 39}}, []hist.Item{{At: 3, Many: 1<<39 + 1}}},
		{[]hist.Item{{At: 0, Many: 1 << 39}, {At: 1, Many: 1 << 38}}, []hist.Item{{At: -3, Many: 1}, {At: 1, Many: 1 << 38}}},
	} {
		h, g := of(t, 2, c.h...), of(t, 2, c.g...)
		if err := h.Merge(g); err != api.ErrRange {
			t.Errorf("%v into %v: %d", c.g, c.h, err)
		}
		holds(t, h, 2, c.h...)
		holds(t, g, 2, c.g...)
	}
}

// P6.1: merged into itself all stand there twice.
func TestMergeOfItself(t *testing.T) {
	for _, items := range [][]hist.Item{nil, {{At: 0, Many: 1}}, {{At: -2, Many: 5}, {At: 0, Many: 1}, {At: 7, Many: 1 << 30}}, {{At: 5, Many: 1 << 39}}} {
		h := of(t, 1, items...)
		merge(t, h, h)
		twice := slices.Clone(items)
		for i := range twice {
			twice[i].Many *= 2
		}
		holds(t, h, 1, twice...)
	}
	items := []hist.Item{{At: 5, Many: 1 << 39}, {At: 6, Many: 1}}
	h := of(t, 1, items...)
	if err := h.Merge(h); err != api.ErrRange {
		t.Errorf("above 2^40: %d", err)
	}
	holds(t, h, 1, items...)
}

// P6.1, P3: neither of two that were merged follows the other one any more.
func TestMergedAreAlone(t *testing.T) {
	for _, into := range [][]hist.Item{nil, {{At: 2, Many: 4}}, {{At: -9, Many: 4}, {At: 9, Many: 4}}} {
		items := []hist.Item{{At: 1, Many: 1}, {At: 2, Many: 1}}
		h, g := of(t, 3, into...), of(t, 3, items...)
		merge(t, h, g)
		merged := h.Items()
		add(t, g, 1, 2, 0, 3)
		holds(t, h, 3, merged...)
		told := g.Items()
		add(t, h, 1, 2, 0, 3, 4, -1)
		merge(t, h, g)
		holds(t, g, 3, told...)
	}
}

// P3: what was told is new memory, spare room too.
func TestItemsAreNew(t *testing.T) {
	h := newHist(t, 2)
	add(t, h, 9, 1, 5)
	want := []hist.Item{{At: 1, Many: 1}, {At: 5, Many: 1}, {At: 8, Many: 1}}
	first, second := h.Items(), h.Items()
	for _, l := range [][]hist.Item{first, second} {
		clear(l[:cap(l)])
		_ = append(l[:0], hist.Item{At: 3, Many: 9}, hist.Item{At: 2, Many: 8}, hist.Item{At: 1, Many: 7}, hist.Item{At: 0, Many: 6})
		holds(t, h, 2, want...)
	}
	told := h.Items()
	add(t, h, 1, 0, 2, 77)
	if !slices.Equal(told, want) {
		t.Errorf("what was told is another thing: %v", told)
	}
}

// P6.2: ranks worked out by hand.
func TestRank(t *testing.T) {
	h := of(t, 0, hist.Item{At: -2, Many: 1}, hist.Item{At: 0, Many: 3}, hist.Item{At: 5, Many: 2})
	for r, want := range []int{0, -2, 0, 0, 0, 5, 5, 0, 0} {
		rankHolds(t, h, uint64(r), want, r >= 1 && r <= 6)
	}
	empty := newHist(t, 0)
	for _, r := range []uint64{0, 1, 2, 1 << 40, 1 << 63, math.MaxUint64} {
		rankHolds(t, empty, r, 0, false)
	}
	full := of(t, 4, hist.Item{At: -960, Many: 1}, hist.Item{At: 3, Many: mostCount - 2}, hist.Item{At: 959, Many: 1})
	for r, want := range map[uint64]int{1: -960, 2: 3, 1 << 39: 3, mostCount - 1: 3, mostCount: 959} {
		rankHolds(t, full, r, want, true)
	}
	for _, r := range []uint64{0, mostCount + 1, 2 * mostCount, 1<<63 + 1, math.MaxUint64} {
		rankHolds(t, full, r, 0, false)
	}
}

// quantileHolds asks for the bounds of one bucket.
func quantileHolds(t *testing.T, h *hist.Hist, num, den uint64, at int) {
	t.Helper()
	wantLow, wantHigh, _ := bucket.Bounds(h.Bits(), at)
	low, high, err := h.Quantile(num, den)
	if low != wantLow || high != wantHigh || err != api.OK {
		t.Fatalf("Quantile(%d, %d) of %v: %d %d %d, not %d %d", num, den, h.Items(), low, high, err, wantLow, wantHigh)
	}
}

// P6.2: quantiles worked out by hand.
func TestQuantile(t *testing.T) {
	h := newHist(t, 0)
	add(t, h, -6, 0, 1, 2, 3, 9, math.MaxInt64)
	for _, c := range []struct {
		num, den  uint64
		low, high int64
	}{
		{0, 1, -7, -4}, {0, api.Million, -7, -4}, {1, api.Million, -7, -4}, {1, 7, -7, -4},
		{142857, api.Million, -7, -4}, {142858, api.Million, 0, 0}, {2, 7, 0, 0},
		{1, 3, 1, 1}, {3, 7, 1, 1}, {1, 2, 2, 3}, {4, 7, 2, 3}, {5, 7, 2, 3},
		{6, 7, 8, 15}, {857142, api.Million, 8, 15}, {857143, api.Million, 1 << 62, math.MaxInt64},
		{999999, api.Million, 1 << 62, math.MaxInt64}, {7, 7, 1 << 62, math.MaxInt64}, {1, 1, 1 << 62, math.MaxInt64}, {api.Million, api.Million, 1 << 62, math.MaxInt64},
	} {
		if low, high, err := h.Quantile(c.num, c.den); low != c.low || high != c.high || err != api.OK {
			t.Errorf("Quantile(%d, %d): %d %d %d, not %d %d", c.num, c.den, low, high, err, c.low, c.high)
		}
	}
}

// P6.2: parts that are none are told ahead of that there are no numbers.
func TestQuantileOfNone(t *testing.T) {
	one, empty := newHist(t, 1), newHist(t, 1)
	add(t, one, 5)
	for _, c := range [][2]uint64{
		{0, 0}, {1, 0}, {math.MaxUint64, 0}, {2, 1}, {1000001, 1000000}, {math.MaxUint64, 1000000}, {1<<32 + 1, 1 << 4},
		{0, 1000001}, {1, 1000001}, {1000001, 1000001}, {1, 1 << 32}, {1, 1<<32 + 1}, {0, math.MaxUint64}, {math.MaxUint64, math.MaxUint64}, {1 << 63, 1 << 63},
	} {
		for _, h := range []*hist.Hist{one, empty} {
			if low, high, err := h.Quantile(c[0], c[1]); low != 0 || high != 0 || err != api.ErrArg {
				t.Errorf("Quantile(%d, %d) of %v: %d %d %d", c[0], c[1], h.Items(), low, high, err)
			}
		}
	}
	for _, c := range [][2]uint64{{0, 1}, {1, 1}, {1, 2}, {0, 1000000}, {1000000, 1000000}} {
		if low, high, err := empty.Quantile(c[0], c[1]); low != 0 || high != 0 || err != api.ErrNone {
			t.Errorf("Quantile(%d, %d) of no numbers: %d %d %d", c[0], c[1], low, high, err)
		}
	}
	quantileHolds(t, one, 0, 1, 4)
	quantileHolds(t, one, 1, api.Million, 4)
}

// P6.2: quantiles by the words of the document, in whole numbers of any length.
func TestQuantileByTheWords(t *testing.T) {
	chance := rand.New(rand.NewSource(62))
	for range 3000 {
		var items []hist.Item
		room := uint64(mostCount)
		for at := -30 + chance.Intn(20); at < 40; at += 1 + chance.Intn(20) {
			many := 1 + chance.Uint64()%room>>chance.Intn(40)
			items = append(items, hist.Item{At: at, Many: many})
			if room -= many; room == 0 {
				break
			}
		}
		h := of(t, chance.Intn(mostBits+1), items...)
		for range 20 {
			den := 1 + uint64(chance.Intn(api.Million))>>chance.Intn(20)
			num := uint64(chance.Int63n(int64(den) + 1))
			quantileHolds(t, h, num, den, slowQuantile(items, num, den))
		}
		for _, c := range [][2]uint64{{0, 1}, {1, 1}, {1, api.Million}, {api.Million - 1, api.Million}, {api.Million, api.Million}} {
			quantileHolds(t, h, c[0], c[1], slowQuantile(items, c[0], c[1]))
		}
	}
}

// slowQuantile is the bucket at which num of den parts are reached.
func slowQuantile(items []hist.Item, num, den uint64) int {
	whole := func(n uint64) *big.Int { return new(big.Int).SetUint64(n) }
	rank, left := new(big.Int).DivMod(new(big.Int).Mul(whole(countOf(items)), whole(num)), whole(den), new(big.Int))
	if left.Sign() > 0 || rank.Sign() == 0 {
		rank.Add(rank, big.NewInt(1))
	}
	for _, item := range items {
		if rank.Cmp(whole(item.Many)) <= 0 {
			return item.At
		}
		rank.Sub(rank, whole(item.Many))
	}
	panic("past the end")
}

// P6.3: bytes worked out by hand.
func TestPutAndGet(t *testing.T) {
	for _, c := range []struct {
		bits  int
		items []hist.Item
		put   string
	}{
		{0, nil, "\x00\x00\x00"},
		{4, nil, "\x04\x00\x00"},
		{2, []hist.Item{{At: 0, Many: 1}}, "\x02\x00\x01" + "\x80\x00\x00\x00\x00\x00\x00\x00\x00\x01"},
		{0, []hist.Item{{At: -64, Many: 0x0102030405}}, "\x00\x00\x01" + "\x7f\xff\xff\xc0\x00\x01\x02\x03\x04\x05"},
		{4, []hist.Item{{At: -960, Many: 7}, {At: 959, Many: 1 << 39}}, "\x04\x00\x02" + "\x7f\xff\xfc\x40\x00\x00\x00\x00\x00\x07" + "\x80\x00\x03\xbf\x00\x80\x00\x00\x00\x00"},
		{1, []hist.Item{{At: 125, Many: mostCount}}, "\x01\x00\x01" + "\x80\x00\x00\x7d\x01\x00\x00\x00\x00\x00"},
		{0, []hist.Item{{At: -1, Many: 1}, {At: 0, Many: 2}, {At: 3, Many: 3}}, "\x00\x00\x03" + "\x7f\xff\xff\xff\x00\x00\x00\x00\x00\x01" + "\x80\x00\x00\x00\x00\x00\x00\x00\x00\x02" + "\x80\x00\x00\x03\x00\x00\x00\x00\x00\x03"},
	} {
		for _, behind := range []string{"", "\x00", "more", c.put, strings.Repeat("\xff", 100)} {
			h, rest, err := hist.Get(c.put + behind)
			if h == nil || rest != behind || err != api.OK {
				t.Fatalf("Get(%x and %x): %v %x %d", c.put, behind, h, rest, err)
			}
			if got := h.Put(); got != c.put {
				t.Errorf("put as %x, not %x", got, c.put)
			}
			holds(t, h, c.bits, c.items...)
		}
	}
}

func isNone(t *testing.T, fault, s string) {
	t.Helper()
	if h, rest, err := hist.Get(s); h != nil || rest != "" || err != api.ErrForm {
		t.Errorf("%s: Get(%.60x): %v %.60x %d", fault, s, h, rest, err)
	}
}

// P6.3: bytes that are no Hist's.
func TestGetOfNone(t *testing.T) {
	for _, c := range []struct {
		fault string
		bits  int
		items []hist.Item
	}{
		{"no bits", 5, nil},
		{"no bits, with an item", 5, []hist.Item{{At: 0, Many: 1}}},
		{"far more bits", 255, nil},
		{"nothing stands there", 0, []hist.Item{{At: 0}}},
		{"nothing stands in the last", 0, []hist.Item{{At: 0, Many: 1}, {At: 1}}},
		{"twice the same", 0, []hist.Item{{At: 1, Many: 1}, {At: 1, Many: 1}}},
		{"falling", 0, []hist.Item{{At: 1, Many: 1}, {At: 0, Many: 1}}},
		{"falling below 0", 0, []hist.Item{{At: -1, Many: 1}, {At: -2, Many: 1}}},
		{"falling at the end", 0, []hist.Item{{At: 1, Many: 1}, {At: 4, Many: 1}, {At: 3, Many: 1}}},
		{"behind the last bucket", 0, []hist.Item{{At: 64, Many: 1}}},
		{"behind the last bucket, in order", 0, []hist.Item{{At: 63, Many: 1}, {At: 64, Many: 1}}},
		{"ahead of the first bucket", 0, []hist.Item{{At: -65, Many: 1}}},
		{"behind the last of 4 bits", 4, []hist.Item{{At: 960, Many: 1}}},
		{"ahead of the first of 4 bits", 4, []hist.Item{{At: -961, Many: 1}}},
		{"far behind", 4, []hist.Item{{At: math.MaxInt32, Many: 1}}},
		{"far ahead", 4, []hist.Item{{At: math.MinInt32, Many: 1}}},
		{"one above 2^40", 0, []hist.Item{{At: 0, Many: mostCount + 1}}},
		{"one above 2^40, of two", 0, []hist.Item{{At: 0, Many: mostCount}, {At: 1, Many: 1}}},
		{"one above 2^40, of three", 0, []hist.Item{{At: 0, Many: 1 << 39}, {At: 1, Many: 1<<39 - 1}, {At: 2, Many: 2}}},
		{"far above 2^40", 0, []hist.Item{{At: 0, Many: 1<<48 - 1}}},
		{"far above 2^40, of two", 0, []hist.Item{{At: 0, Many: 1<<48 - 1}, {At: 1, Many: 1<<48 - 1}}},
	} {
		for _, behind := range []string{"", "\x00", strings.Repeat("\x80", 100)} {
			isNone(t, c.fault, bytesOf(c.bits, c.items...)+behind)
		}
	}
	isNone(t, "far less items than are told", "\x00\xff\xff"+bytesOf(0, hist.Item{At: 0, Many: 1})[3:])
	isNone(t, "far more items than there are buckets", "\x00\xff\xff"+strings.Repeat("\x80\x00\x00\x01\x00\x00\x00\x00\x00\x01", 1<<16))
	isNone(t, "only zeros behind", "\x00\xff\xff"+strings.Repeat("\x00", 1<<20))
}

// P6.3: each of a few bits begins the bytes of a Hist, and no other byte.
func TestGetOfEachBits(t *testing.T) {
	for bits := range 256 {
		s := string([]byte{byte(bits), 0, 0})
		if bits > mostBits {
			isNone(t, "no bits", s)
			continue
		}
		h, rest, err := hist.Get(s)
		if h == nil || rest != "" || err != api.OK {
			t.Fatalf("of %d bits: %v %q %d", bits, h, rest, err)
		}
		holds(t, h, bits)
	}
}

// P6.3: each bucket that a number has, and none beside, is got.
func TestGetOfEachBucket(t *testing.T) {
	for bits := range mostBits + 1 {
		for at := -2100; at <= 2100; at++ {
			item := hist.Item{At: at, Many: 3}
			if _, _, stand := bucket.Bounds(bits, at); stand {
				holds(t, of(t, bits, item), bits, item)
			} else {
				isNone(t, "no bucket", bytesOf(bits, item))
			}
		}
	}
}

// P6.3: what is short is none's, wherever it ends.
func TestGetOfShort(t *testing.T) {
	for _, items := range [][]hist.Item{nil, {{At: 0, Many: 1}}, {{At: -2, Many: 1}, {At: 0, Many: 1 << 33}, {At: 40, Many: 9}}} {
		s := bytesOf(0, items...)
		for length := range len(s) {
			isNone(t, "short", s[:length])
		}
	}
}

// slowGet is Get by the words of the document: it tells how many bytes are the
// Hist's; -1, if there is none.
func slowGet(s string) int {
	number := func(from, to int) uint64 { return new(big.Int).SetBytes([]byte(s[from:to])).Uint64() }
	if len(s) < 3 || s[0] > mostBits || len(s) < 3+10*int(number(1, 3)) {
		return -1
	}
	end, count, last := 3, uint64(0), math.MinInt
	for range int(number(1, 3)) {
		at, many := int(number(end, end+4))-1<<31, number(end+4, end+10)
		if _, _, stand := bucket.Bounds(int(s[0]), at); !stand || at <= last || many == 0 {
			return -1
		}
		end, count, last = end+10, count+many, at
	}
	if count > mostCount {
		return -1
	}
	return end
}

func getHolds(t *testing.T, s string) {
	t.Helper()
	end := slowGet(s)
	if end < 0 {
		isNone(t, "another one", s)
		return
	}
	h, rest, err := hist.Get(s)
	if h == nil || rest != s[end:] || err != api.OK || h.Put() != s[:end] {
		t.Fatalf("Get(%x): %v %x %d, not to %d", s, h, rest, err, end)
	}
}

// P6.3: each that differs from a Hist's bytes in one, is got just if it is some
// Hist's; so are bytes by chance.
func TestGetOfBytesNearby(t *testing.T) {
	for _, items := range [][]hist.Item{nil, {{At: 0, Many: 1}}, {{At: -2, Many: 1}, {At: 0, Many: 1 << 39}, {At: 40, Many: 9}}, {{At: -64, Many: 1}, {At: 63, Many: mostCount - 1}}} {
		s := bytesOf(0, items...) + "\x80\x00\x00\x3f\x00\x00\x00\x00\x00\x01"
		for at := range len(s) {
			for value := range 256 {
				b := []byte(s)
				b[at] = byte(value)
				getHolds(t, string(b))
			}
			getHolds(t, s[:at]+s[at+1:])
			getHolds(t, s[:at]+"\x00"+s[at:])
			getHolds(t, s[:at]+"\x01"+s[at:])
		}
	}
	chance := rand.New(rand.NewSource(63))
	for range 100000 {
		b := make([]byte, chance.Intn(40))
		for i := range b {
			b[i] = "\x00\x00\x00\x01\x02\x7f\x80\xff"[chance.Intn(8)]
		}
		getHolds(t, string(b))
	}
}

// P6.3: of what was got one goes on as the one that was put.
func TestGotGoesOn(t *testing.T) {
	chance := rand.New(rand.NewSource(64))
	for range 300 {
		bits := chance.Intn(mostBits + 1)
		h := newHist(t, bits)
		add(t, h, someNumbers(chance, 50)...)
		put := h.Put()
		g := of(t, bits, h.Items()...)
		numbers := someNumbers(chance, 50)
		add(t, h, numbers...)
		add(t, g, numbers...)
		holds(t, g, bits, h.Items()...)
		merge(t, g, of(t, bits, h.Items()...))
		merge(t, h, of(t, bits, h.Items()...))
		holds(t, g, bits, h.Items()...)
		if again, _, err := hist.Get(put); err != api.OK || again.Put() != put {
			t.Fatalf("what was put is another thing: %d", err)
		}
	}
}

// P6.1, P6.2, P6.4: in whatever order numbers were added, and merged, it is the
// same, and each rank's bucket has the number of the sorted list.
func TestInAnyOrder(t *testing.T) {
	chance := rand.New(rand.NewSource(65))
	for range 400 {
		bits, numbers := chance.Intn(mostBits+1), someNumbers(chance, 120)
		want := itemsOf(bits, numbers)
		for range 4 {
			chance.Shuffle(len(numbers), func(i, j int) { numbers[i], numbers[j] = numbers[j], numbers[i] })
			h := newHist(t, bits)
			add(t, h, numbers...)
			holds(t, h, bits, want...)
			holds(t, inParts(t, chance, bits, numbers), bits, want...)
		}
		slices.Sort(numbers)
		h := newHist(t, bits)
		add(t, h, numbers...)
		holds(t, h, bits, want...)
		for i, n := range numbers {
			at, _ := bucket.Of(bits, n)
			rankHolds(t, h, uint64(i+1), at, true)
			quantileHolds(t, h, uint64(i+1), uint64(len(numbers)), at)
		}
	}
}

// inParts adds numbers to parts, and merges these, one of a chance into another.
func inParts(t *testing.T, chance *rand.Rand, bits int, numbers []int64) *hist.Hist {
	t.Helper()
	var parts []*hist.Hist
	for range 1 + chance.Intn(8) {
		parts = append(parts, newHist(t, bits))
	}
	for _, n := range numbers {
		add(t, parts[chance.Intn(len(parts))], n)
	}
	for len(parts) > 1 {
		chance.Shuffle(len(parts), func(i, j int) { parts[i], parts[j] = parts[j], parts[i] })
		last := len(parts) - 1
		merge(t, parts[0], parts[last])
		parts = parts[:last]
	}
	return parts[0]
}
