package cell_test

import (
	"cmp"
	"math"
	"math/big"
	"math/rand"
	"slices"
	"strings"
	"testing"

	"scantling/api"
	"scantling/bucket"
	"scantling/cell"
	"scantling/hist"
	"scantling/wide"
)

const (
	mostBits  = 4
	mostCount = 1 << 40
)

// noBits are some of which there are no buckets.
var noBits = []int{-1, -2, -64, 5, 6, 64, 255, 256, 256 + 2, 1<<32 + 2, math.MaxInt, math.MinInt, math.MinInt + 2}

// froms are times from end to end.
var froms = []int64{0, 1, -1, 60, -7, 1 << 60, 1<<60 + 1, math.MaxInt64, math.MinInt64}

// parts is all that a cell tells, by the words of the document.
type parts struct {
	from        int64
	sum         *big.Int
	least, most int64
	bits        int
	items       []hist.Item
}

// of is what the cell of these numbers tells.
func of(from int64, bits int, numbers ...int64) parts {
	p := parts{from: from, sum: new(big.Int), bits: bits}
	many := map[int]uint64{}
	for _, n := range numbers {
		p.sum.Add(p.sum, big.NewInt(n))
		at, _ := bucket.Of(bits, n)
		many[at]++
	}
	for at, m := range many {
		p.items = append(p.items, hist.Item{At: at, Many: m})
	}
	slices.SortFunc(p.items, func(a, b hist.Item) int { return cmp.Compare(a.At, b.At) })
	if len(numbers) > 0 {
		p.least, p.most = slices.Min(numbers), slices.Max(numbers)
	}
	return p
}

// same are so many times one number.
func same(bits int, many uint64, n int64) parts {
	p := of(0, bits, n)
	p.items[0].Many = many
	p.sum.Mul(p.sum, new(big.Int).SetUint64(many))
	return p
}

func (p parts) count() uint64 {
	var count uint64
	for _, item := range p.items {
		count += item.Many
	}
	return count
}

// word is eight bytes of n, the highest first.
func word(n int64) string {
	var out []byte
	for shift := 56; shift >= 0; shift -= 8 {
		out = append(out, byte(uint64(n)>>shift))
	}
	return string(out)
}

// double is sixteen bytes of n, modulo 2^128, the highest first.
func double(n *big.Int) string {
	all := new(big.Int).Lsh(big.NewInt(1), 128)
	return string(new(big.Int).Mod(n, all).FillBytes(make([]byte, 16)))
}

// spread is what is put of the items, whether they may be so or not.
func (p parts) spread() string {
	out := []byte{byte(p.bits), byte(len(p.items) >> 8), byte(len(p.items))}
	for _, item := range p.items {
		at := uint32(int64(item.At) + 1<<31)
		out = append(out, byte(at>>24), byte(at>>16), byte(at>>8), byte(at))
		out = append(out, word(int64(item.Many))[2:]...)
	}
	return string(out)
}

// put is what is put of p, whether it may be so or not.
func (p parts) put() string {
	return word(p.from) + double(p.sum) + word(p.least) + word(p.most) + p.spread()
}

func newCell(t *testing.T, from int64, bits int, numbers ...int64) *cell.Cell {
	t.Helper()
	c, e := cell.New(from, bits)
	if c == nil || e != api.OK {
		t.Fatalf("New(%d, %d): %v %d", from, bits, c, e)
	}
	add(t, c, numbers...)
	return c
}

func add(t *testing.T, c *cell.Cell, numbers ...int64) {
	t.Helper()
	for _, n := range numbers {
		if e := c.Add(n); e != api.OK {
			t.Fatalf("Add(%d): %d", n, e)
		}
	}
}

func merge(t *testing.T, c, d *cell.Cell) {
	t.Helper()
	if e := c.Merge(d); e != api.OK {
		t.Fatalf("Merge: %d", e)
	}
}

// get is the cell of all bytes of s.
func get(t *testing.T, s string) *cell.Cell {
	t.Helper()
	c, rest, e := cell.Get(s)
	if c == nil || rest != "" || e != api.OK {
		t.Fatalf("Get(%x): %v %x %d", s, c, rest, e)
	}
	return c
}

// holds asks of c all that it tells.
func holds(t *testing.T, what string, c *cell.Cell, want parts) {
	t.Helper()
	if c.From() != want.from || c.Count() != want.count() {
		t.Fatalf("%s: from %d, count %d, not %d, %d", what, c.From(), c.Count(), want.from, want.count())
	}
	if got := c.Sum(); got.Text() != want.sum.String() {
		t.Fatalf("%s: sum %s, not %s", what, got.Text(), want.sum)
	}
	if least, most, ok := c.Bounds(); least != want.least || most != want.most || ok != (want.count() > 0) {
		t.Fatalf("%s: bounds %d %d %v, not %d %d of %d", what, least, most, ok, want.least, want.most, want.count())
	}
	spread := c.Spread()
	if spread.Bits() != want.bits || !slices.Equal(spread.Items(), want.items) {
		t.Fatalf("%s: spread %d %v, not %d %v", what, spread.Bits(), spread.Items(), want.bits, want.items)
	}
	for _, q := range quantiles {
		low, high, e := c.Quantile(q[0], q[1])
		wantLow, wantHigh, wantE := spread.Quantile(q[0], q[1])
		if low != wantLow || high != wantHigh || e != wantE {
			t.Fatalf("%s: Quantile(%d, %d): %d %d %d, not %d %d %d", what, q[0], q[1], low, high, e, wantLow, wantHigh, wantE)
		}
	}
	if got := c.Put(); got != want.put() {
		t.Fatalf("%s: put as %x, not %x", what, got, want.put())
	}
	if !cell.Same(c, c) {
		t.Fatalf("%s: not the same as itself", what)
	}
}

// quantiles are some that there are, and some that there are none of.
var quantiles = [][2]uint64{
	{0, 1}, {1, 1}, {1, 2}, {1, 3}, {2, 3}, {9, 10}, {1, api.Million}, {999999, api.Million}, {api.Million, api.Million},
	{0, 0}, {1, 0}, {2, 1}, {0, api.Million + 1}, {math.MaxUint64, math.MaxUint64},
}

// someNumber is a number by chance: a few near to 0, and some up to both ends.
func someNumber(chance *rand.Rand) int64 {
	switch chance.Intn(12) {
	case 0:
		return math.MinInt64
	case 1:
		return math.MaxInt64
	}
	return int64(chance.Uint64()) >> chance.Intn(64)
}

func someNumbers(chance *rand.Rand, most int) []int64 {
	numbers := make([]int64, chance.Intn(most+1))
	for i := range numbers {
		numbers[i] = someNumber(chance)
	}
	return numbers
}

// P15.1
func TestNew(t *testing.T) {
	for bits := range mostBits + 1 {
		for _, from := range froms {
			c := newCell(t, from, bits)
			holds(t, "new", c, of(from, bits))
			add(t, c, 3)
			holds(t, "with one", c, of(from, bits, 3))
			holds(t, "another new one", newCell(t, from, bits), of(from, bits))
		}
	}
}

// P15.1, P6: wrong inputs.
func TestNewOfNoBits(t *testing.T) {
	for _, bits := range noBits {
		for _, from := range froms {
			if c, e := cell.New(from, bits); c != nil || e != api.ErrArg {
				t.Errorf("New(%d, %d): %v %d", from, bits, c, e)
			}
		}
	}
}

// P15.1: told by hand, number by number.
func TestAdd(t *testing.T) {
	c := newCell(t, 7, 0)
	for _, step := range []struct {
		n           int64
		sum         string
		least, most int64
	}{
		{5, "5", 5, 5},
		{5, "10", 5, 5},
		{6, "16", 5, 6},
		{-3, "13", -3, 6},
		{0, "13", -3, 6},
		{-20, "-7", -20, 6},
		{-19, "-26", -20, 6},
		{math.MaxInt64, "9223372036854775781", -20, math.MaxInt64},
		{math.MaxInt64, "18446744073709551588", -20, math.MaxInt64},
		{100, "18446744073709551688", -20, math.MaxInt64},
		{math.MinInt64, "9223372036854775880", math.MinInt64, math.MaxInt64},
		{math.MinInt64, "72", math.MinInt64, math.MaxInt64},
		{math.MinInt64, "-9223372036854775736", math.MinInt64, math.MaxInt64},
	} {
		add(t, c, step.n)
		if got := c.Sum().Text(); got != step.sum {
			t.Fatalf("with %d: sum %s, not %s", step.n, got, step.sum)
		}
		if least, most, ok := c.Bounds(); least != step.least || most != step.most || !ok {
			t.Fatalf("with %d: %d %d %v, not %d %d", step.n, least, most, ok, step.least, step.most)
		}
	}
	if c.From() != 7 || c.Count() != 13 {
		t.Errorf("from %d, count %d", c.From(), c.Count())
	}
}

// P15.1: the first number, whichever it is, is the least and the most.
func TestAddOfTheFirst(t *testing.T) {
	for bits := range mostBits + 1 {
		for _, n := range []int64{0, 1, -1, 2, -2, 1 << 40, -1 << 40, math.MaxInt64, math.MaxInt64 - 1, math.MinInt64, math.MinInt64 + 1} {
			c := newCell(t, 0, bits, n)
			holds(t, "with one", c, of(0, bits, n))
			for _, m := range []int64{n, 0, math.MaxInt64, math.MinInt64} {
				d := c.Copy()
				add(t, d, m)
				holds(t, "with two", d, of(0, bits, n, m))
			}
		}
	}
}

// P15.1, P2: a Count of 2^40, and one above it, of which nothing is taken in.
func TestAddUpToMostCount(t *testing.T) {
	for _, n := range []int64{4, -4, 0, math.MaxInt64, math.MinInt64} {
		full := get(t, same(2, mostCount-1, n).put())
		add(t, full, n)
		want := same(2, mostCount, n)
		holds(t, "full", full, want)
		for _, more := range []int64{n, 0, 1, -1, math.MaxInt64, math.MinInt64} {
			if e := full.Add(more); e != api.ErrRange {
				t.Errorf("Add(%d) to 2^40 times %d: %d", more, n, e)
			}
			holds(t, "full", full, want)
		}
	}
}

// P15.1: the numbers of both, in the cell that was there.
func TestMerge(t *testing.T) {
	lists := [][]int64{
		nil, {0}, {5}, {-5}, {5, 6}, {-6, 5}, {1, 2, 3}, {-9, -8}, {100, -100, 7},
		{math.MaxInt64}, {math.MinInt64}, {math.MaxInt64, math.MaxInt64, math.MaxInt64}, {math.MinInt64, math.MinInt64}, {math.MinInt64, math.MaxInt64},
	}
	for bits := range mostBits + 1 {
		for i, ofC := range lists {
			for j, ofD := range lists {
				from, other := froms[i%len(froms)], froms[j%len(froms)]
				c, d := newCell(t, from, bits, ofC...), newCell(t, other, bits, ofD...)
				merge(t, c, d)
				holds(t, "merged", c, of(from, bits, slices.Concat(ofC, ofD)...))
				holds(t, "what was merged", d, of(other, bits, ofD...))
				add(t, c, 50, -60)
				holds(t, "gone on", c, of(from, bits, slices.Concat(ofC, ofD, []int64{50, -60})...))
				holds(t, "what was merged, gone on", d, of(other, bits, ofD...))
			}
		}
	}
}

// P15.1, P3: neither of two that were merged follows the other one any more.
func TestMergedAreAlone(t *testing.T) {
	for _, list := range [][]int64{nil, {4}, {-9, 9}} {
		c, d := newCell(t, 1, 3, list...), newCell(t, 2, 3, 5, 6)
		merge(t, c, d)
		add(t, d, 5, 6, 0, 77, -77)
		holds(t, "merged", c, of(1, 3, slices.Concat(list, []int64{5, 6})...))
		add(t, c, 8, 1000, -1000)
		merge(t, c, newCell(t, 0, 3, 6))
		holds(t, "what was merged", d, of(2, 3, 5, 6, 5, 6, 0, 77, -77))
	}
}

// P15.1: merged into itself all are there twice.
func TestMergeOfItself(t *testing.T) {
	for _, list := range [][]int64{nil, {0}, {5}, {-3, 8, 8}, {math.MinInt64, -1}, {math.MaxInt64}} {
		c := newCell(t, 3, 1, list...)
		merge(t, c, c)
		holds(t, "twice", c, of(3, 1, slices.Concat(list, list)...))
	}
	c := get(t, same(1, mostCount/2, 9).put())
	merge(t, c, c)
	holds(t, "full", c, same(1, mostCount, 9))
	if e := c.Merge(c); e != api.ErrRange {
		t.Errorf("above 2^40: %d", e)
	}
	holds(t, "full", c, same(1, mostCount, 9))
}

// P15.1, P2: other bits are told ahead of too many; nothing is taken in.
func TestMergeOfOtherBits(t *testing.T) {
	for bits := range mostBits + 1 {
		for other := range mostBits + 1 {
			if other == bits {
				continue
			}
			for _, many := range []uint64{1, mostCount} {
				wantC, wantD := same(bits, many, 3), same(other, many, -8)
				c, d := get(t, wantC.put()), get(t, wantD.put())
				none := newCell(t, 9, other)
				for _, merged := range []*cell.Cell{d, none} {
					if e := c.Merge(merged); e != api.ErrArg {
						t.Errorf("of %d bits into %d: %d", other, bits, e)
					}
					holds(t, "of those bits", c, wantC)
				}
				if e := none.Merge(c); e != api.ErrArg {
					t.Errorf("of %d bits into %d, of no numbers: %d", bits, other, e)
				}
				holds(t, "of the other bits", d, wantD)
				holds(t, "of no numbers", none, of(9, other))
			}
		}
	}
}

// P15.1, P2: both Counts at 2^40, one above it, and far above it.
func TestMergeOfTooMany(t *testing.T) {
	for _, counts := range [][3]uint64{
		{mostCount - 1, 1, 1}, {1, mostCount - 1, 1}, {mostCount / 2, mostCount / 2, 1},
		{mostCount, 1, 0}, {1, mostCount, 0}, {mostCount/2 + 1, mostCount / 2, 0}, {mostCount, mostCount, 0},
	} {
		wantC, wantD := same(0, counts[0], 9), same(0, counts[1], -70)
		c, d := get(t, wantC.put()), get(t, wantD.put())
		e := c.Merge(d)
		if fits := counts[2] == 1; fits != (e == api.OK) || !fits && e != api.ErrRange {
			t.Errorf("%d into %d: %d", counts[1], counts[0], e)
		}
		if counts[2] == 1 {
			wantC.sum.Add(wantC.sum, wantD.sum)
			wantC.least, wantC.items = -70, slices.Concat(wantD.items, wantC.items)
		}
		holds(t, "merged or not", c, wantC)
		holds(t, "what was merged or not", d, wantD)
	}
	full, none := get(t, same(0, mostCount, 9).put()), newCell(t, 0, 0)
	merge(t, full, none)
	holds(t, "full, with none", full, same(0, mostCount, 9))
	merge(t, none, full)
	holds(t, "none, with full", none, same(0, mostCount, 9))
}

// P15.1, P3: another one is the same, but where it begins, and goes on alone.
func TestCopyAndMove(t *testing.T) {
	for _, list := range [][]int64{nil, {0}, {6}, {-5, 5, 4}, {math.MinInt64, math.MaxInt64, math.MaxInt64}} {
		for i, from := range froms {
			to := froms[(i+4)%len(froms)]
			c := newCell(t, from, 2, list...)
			copied, moved, stays := c.Copy(), c.Move(to), c.Move(from)
			all := []*cell.Cell{c, copied, moved, stays}
			wants := []parts{of(from, 2, list...), of(from, 2, list...), of(to, 2, list...), of(from, 2, list...)}
			for j, one := range all {
				holds(t, "another one", one, wants[j])
			}
			if !cell.Same(c, copied) || !cell.Same(c, stays) || cell.Same(c, moved) {
				t.Errorf("from %d to %d: the same as %v, %v, %v", from, to, cell.Same(c, copied), cell.Same(c, stays), cell.Same(c, moved))
			}
			for j, one := range all {
				more := []int64{int64(j), 6, -1000 * int64(j), 1 << (20 + j)}
				add(t, one, more...)
				merge(t, one, newCell(t, 0, 2, more...))
				wants[j] = of(wants[j].from, 2, slices.Concat(list, more, more)...)
				for k, other := range all {
					holds(t, "gone on", other, wants[k])
				}
			}
		}
	}
}

// P15.1: of a full one, too, there is another one.
func TestCopyOfTheFull(t *testing.T) {
	for bits := range mostBits + 1 {
		want := same(bits, mostCount, math.MinInt64)
		c := get(t, want.put())
		holds(t, "copied", c.Copy(), want)
		if e := c.Copy().Add(1); e != api.ErrRange {
			t.Errorf("of %d bits: %d", bits, e)
		}
		if got := c.Spread().Count(); got != mostCount {
			t.Errorf("of %d bits: %d", bits, got)
		}
	}
}

// P15.1, P3: neither a cell nor its Spread follows the other one.
func TestSpreadIsAlone(t *testing.T) {
	for _, list := range [][]int64{nil, {6}, {-5, 5, 4}} {
		c := newCell(t, 4, 1, list...)
		first, second := c.Spread(), c.Spread()
		for _, n := range []int64{6, 0, -9000, math.MaxInt64} {
			if e := first.Add(n); e != api.OK {
				t.Fatal(e)
			}
		}
		holds(t, "its Spread gone on", c, of(4, 1, list...))
		told := second.Put()
		add(t, c, 6, 1, -1, 1<<50)
		if got := second.Put(); got != told || got != of(4, 1, list...).spread() {
			t.Errorf("of %v: the Spread is %x", list, got)
		}
	}
}

// P15.1: told by hand.
func TestCountAndQuantile(t *testing.T) {
	c := newCell(t, 0, 0, -6, 0, 1, 2, 3, 9, math.MaxInt64)
	for _, q := range []struct {
		num, den  uint64
		low, high int64
		e         api.Errno
	}{
		{0, 1, -7, -4, api.OK}, {1, 7, -7, -4, api.OK}, {2, 7, 0, 0, api.OK}, {3, 7, 1, 1, api.OK}, {1, 2, 2, 3, api.OK},
		{6, 7, 8, 15, api.OK}, {857143, api.Million, 1 << 62, math.MaxInt64, api.OK}, {1, 1, 1 << 62, math.MaxInt64, api.OK},
		{1, 0, 0, 0, api.ErrArg}, {2, 1, 0, 0, api.ErrArg}, {1, api.Million + 1, 0, 0, api.ErrArg},
	} {
		if low, high, e := c.Quantile(q.num, q.den); low != q.low || high != q.high || e != q.e {
			t.Errorf("Quantile(%d, %d): %d %d %d, not %d %d %d", q.num, q.den, low, high, e, q.low, q.high, q.e)
		}
	}
	none := newCell(t, 0, 0)
	if low, high, e := none.Quantile(1, 2); low != 0 || high != 0 || e != api.ErrNone {
		t.Errorf("of no numbers: %d %d %d", low, high, e)
	}
	if c.Count() != 7 || none.Count() != 0 {
		t.Errorf("count %d and %d", c.Count(), none.Count())
	}
}

// P15.1: cells are the same just if all that is put of them is.
func TestSame(t *testing.T) {
	cells := []*cell.Cell{
		newCell(t, 0, 0), newCell(t, 1, 0), newCell(t, 0, 1), newCell(t, math.MinInt64, 0),
		newCell(t, 0, 0, 0), newCell(t, 0, 0, 5), newCell(t, 1, 0, 5), newCell(t, 0, 1, 5), newCell(t, 0, 0, -5), newCell(t, 0, 0, 5, 5),
		newCell(t, 0, 0, 4, 6, 5, 5), // of one Count, and one Spread: another Sum, least, or most
		newCell(t, 0, 0, 4, 6, 5, 6), newCell(t, 0, 0, 4, 7, 5, 4), newCell(t, 0, 0, 5, 5, 5, 5), newCell(t, 0, 0, 5, 6, 5, 4, 8), newCell(t, 0, 0, 5, 6, 5, 4, 9),
		get(t, word(0)+wide.Of(11).Put()+word(4)+word(6)+of(0, 0, 4, 6).spread()),
		get(t, word(0)+wide.Of(11).Put()+word(4)+word(7)+of(0, 0, 4, 6).spread()),
		get(t, word(0)+wide.Of(11).Put()+word(5)+word(6)+of(0, 0, 4, 6).spread()),
		get(t, word(0)+wide.Of(11).Put()+word(5)+word(7)+of(0, 0, 4, 6).spread()),
	}
	for i, c := range cells {
		for j, d := range cells {
			if got := cell.Same(c, d); got != (i == j) {
				t.Errorf("%d and %d: %v", i, j, got)
			}
		}
		if !cell.Same(c, c.Copy()) || !cell.Same(c.Copy(), c) {
			t.Errorf("%d: not the same as its copy", i)
		}
	}
}

// P15.2: bytes worked out by hand.
func TestPutAndGet(t *testing.T) {
	for _, c := range []struct {
		from    int64
		bits    int
		numbers []int64
		put     string
	}{
		{0, 0, nil, strings.Repeat("\x00", 43)},
		{-7, 3, nil, "\xff\xff\xff\xff\xff\xff\xff\xf9" + strings.Repeat("\x00", 32) + "\x03\x00\x00"},
		{
			0x0102030405060708, 2, []int64{5, 6},
			"\x01\x02\x03\x04\x05\x06\x07\x08" + "\x00\x00\x00\x00\x00\x00\x00\x00\x00\x00\x00\x00\x00\x00\x00\x0b" +
				"\x00\x00\x00\x00\x00\x00\x00\x05" + "\x00\x00\x00\x00\x00\x00\x00\x06" +
				"\x02\x00\x02" + "\x80\x00\x00\x05\x00\x00\x00\x00\x00\x01" + "\x80\x00\x00\x06\x00\x00\x00\x00\x00\x01",
		},
		{
			math.MinInt64, 0, []int64{-3, 0x1122334455667788},
			"\x80\x00\x00\x00\x00\x00\x00\x00" + "\x00\x00\x00\x00\x00\x00\x00\x00\x11\x22\x33\x44\x55\x66\x77\x85" +
				"\xff\xff\xff\xff\xff\xff\xff\xfd" + "\x11\x22\x33\x44\x55\x66\x77\x88" +
				"\x00\x00\x02" + "\x7f\xff\xff\xfe\x00\x00\x00\x00\x00\x01" + "\x80\x00\x00\x3d\x00\x00\x00\x00\x00\x01",
		},
		{
			math.MaxInt64, 0, []int64{math.MinInt64, math.MinInt64, math.MinInt64},
			"\x7f\xff\xff\xff\xff\xff\xff\xff" + "\xff\xff\xff\xff\xff\xff\xff\xfe\x80\x00\x00\x00\x00\x00\x00\x00" +
				"\x80\x00\x00\x00\x00\x00\x00\x00" + "\x80\x00\x00\x00\x00\x00\x00\x00" +
				"\x00\x00\x01" + "\x7f\xff\xff\xc0\x00\x00\x00\x00\x00\x03",
		},
	} {
		if got := newCell(t, c.from, c.bits, c.numbers...).Put(); got != c.put {
			t.Errorf("of %v: %x, not %x", c.numbers, got, c.put)
		}
		for _, behind := range []string{"", "\x00", "more", c.put, strings.Repeat("\xff", 100)} {
			got, rest, e := cell.Get(c.put + behind)
			if got == nil || rest != behind || e != api.OK {
				t.Fatalf("Get(%x and %x): %v %x %d", c.put, behind, got, rest, e)
			}
			holds(t, "got", got, of(c.from, c.bits, c.numbers...))
		}
	}
}

func isNone(t *testing.T, fault, s string) {
	t.Helper()
	if c, rest, e := cell.Get(s); c != nil || rest != "" || e != api.ErrForm {
		t.Errorf("%s: Get(%.80x): %v %.60x %d", fault, s, c, rest, e)
	}
}

// P15.2: what is short is none's, wherever it ends.
func TestGetOfShort(t *testing.T) {
	for _, list := range [][]int64{nil, {0}, {5, 6}, {math.MinInt64, -1, 0, 1, math.MaxInt64}} {
		s := newCell(t, 5, 1, list...).Put()
		for length := range len(s) {
			isNone(t, "short", s[:length])
		}
	}
	for length := range 43 {
		isNone(t, "zeros alone", strings.Repeat("\x00", length))
		isNone(t, "ones alone", strings.Repeat("\xff", length))
	}
	isNone(t, "many ones", strings.Repeat("\xff", 1<<20))
}

// P15.2: histograms that are none.
func TestGetOfNoSpread(t *testing.T) {
	for fault, p := range map[string]parts{
		"no bits":                 {bits: 5},
		"far more bits":           {bits: 255},
		"nothing in a bucket":     {items: []hist.Item{{At: 0, Many: 0}}},
		"falling":                 {items: []hist.Item{{At: 0, Many: 1}, {At: 0, Many: 1}}},
		"no bucket":               {items: []hist.Item{{At: 64, Many: 1}}, least: math.MaxInt64, most: math.MaxInt64},
		"one above 2^40":          {items: []hist.Item{{At: 0, Many: mostCount + 1}}},
		"one above 2^40, of more": {items: []hist.Item{{At: -1, Many: mostCount / 2}, {At: 0, Many: mostCount / 2}, {At: 1, Many: 1}}, least: -1, most: 1},
	} {
		p.sum = new(big.Int)
		for _, behind := range []string{"", "\x00", strings.Repeat("\x80", 100)} {
			isNone(t, fault, p.put()+behind)
		}
	}
}

// P15.2: of no numbers nothing else may be told.
func TestGetOfNoNumbers(t *testing.T) {
	for bits := range mostBits + 1 {
		for _, n := range []int64{1, -1, 256, math.MaxInt64, math.MinInt64, 1 << 56} {
			for fault, p := range map[string]parts{
				"a sum":                        {sum: big.NewInt(n)},
				"a high sum":                   {sum: new(big.Int).Lsh(big.NewInt(n), 64)},
				"a least":                      {sum: new(big.Int), least: n},
				"a most":                       {sum: new(big.Int), most: n},
				"a least and a most":           {sum: new(big.Int), least: n, most: n},
				"a sum, a least and a most":    {sum: big.NewInt(n), least: n, most: n},
				"the last and the first":       {sum: new(big.Int), least: math.MaxInt64, most: math.MinInt64},
				"a least, and a most above it": {sum: new(big.Int), least: math.MinInt64, most: math.MaxInt64},
			} {
				p.bits, p.from = bits, n
				isNone(t, fault, p.put())
			}
			holds(t, "of no numbers", get(t, of(n, bits).put()), of(n, bits))
		}
	}
}

// P15.2: the least in the first bucket, the most in the last one, not below it.
func TestGetOfBounds(t *testing.T) {
	lists := [][]int64{{0}, {5}, {-5}, {4, 7}, {-3, 9}, {-100, -1, 0, 77}, {math.MinInt64}, {math.MaxInt64}, {math.MinInt64, math.MaxInt64}, {1 << 62, 1<<62 + 1}}
	for bits := range mostBits + 1 {
		for _, list := range lists {
			p := of(3, bits, list...)
			low, firstHigh, _ := bucket.Bounds(bits, p.items[0].At)
			lastLow, high, _ := bucket.Bounds(bits, p.items[len(p.items)-1].At)
			ends := []int64{low, low + 1, low - 1, firstHigh, firstHigh - 1, firstHigh + 1, lastLow, lastLow - 1, lastLow + 1, high, high - 1, high + 1, 0, math.MinInt64, math.MaxInt64, -low, -high}
			for _, least := range append(ends, list...) {
				for _, most := range append(ends, list...) {
					p.least, p.most = least, most
					// A sum that all such numbers may have, if they are any.
					p.sum = times(p.count(), least)
					getHolds(t, p.put())
					p.sum = times(p.count(), most)
					getHolds(t, p.put())
				}
			}
		}
	}
}

// times is many times n.
func times(many uint64, n int64) *big.Int {
	return new(big.Int).Mul(new(big.Int).SetUint64(many), big.NewInt(n))
}

// P15.2: at both ends of what the Sum may be, one beyond them, and far beyond.
func TestGetOfSum(t *testing.T) {
	far := new(big.Int).Lsh(big.NewInt(1), 127)
	for _, many := range []uint64{1, 2, 3, 1 << 20, 1<<32 + 1, mostCount - 1, mostCount} {
		for _, ends := range [][2]int64{
			{0, 0}, {1, 1}, {-1, -1}, {4, 7}, {-7, -4}, {5, 5}, {math.MaxInt64, math.MaxInt64}, {math.MinInt64, math.MinInt64},
			{1 << 62, math.MaxInt64}, {-math.MaxInt64, -1 << 62}, {1<<32 - 1, 1<<32 - 1}, {1 << 31, 1<<32 - 1},
		} {
			p := same(0, many, ends[0])
			p.least, p.most = ends[0], ends[1]
			below, above := times(many, ends[0]), times(many, ends[1])
			for near := int64(-2); near <= 2; near++ {
				for _, end := range []*big.Int{below, above} {
					p.sum = new(big.Int).Add(end, big.NewInt(near))
					getHolds(t, p.put())
				}
			}
			for _, sum := range []*big.Int{
				new(big.Int), big.NewInt(math.MaxInt64), big.NewInt(math.MinInt64), new(big.Int).Neg(far), new(big.Int).Sub(far, big.NewInt(1)),
				new(big.Int).Neg(below), new(big.Int).Neg(above), new(big.Int).Add(below, new(big.Int).Lsh(big.NewInt(1), 64)), new(big.Int).Sub(above, new(big.Int).Lsh(big.NewInt(1), 64)),
			} {
				p.sum = sum
				getHolds(t, p.put())
			}
		}
	}
	for _, ends := range [][2]int64{{-8, 5}, {math.MinInt64, math.MaxInt64}, {-1, 1 << 40}} {
		p := of(0, 2, ends[0], ends[1])
		for _, many := range [][2]uint64{{1, 1}, {9, 1}, {1, 9}, {mostCount / 2, mostCount / 2}, {1, mostCount - 1}, {mostCount - 1, 1}} {
			p.items[0].Many, p.items[1].Many = many[0], many[1]
			for near := int64(-1); near <= 1; near++ {
				for _, end := range ends {
					p.sum = times(p.count(), end)
					p.sum.Add(p.sum, big.NewInt(near))
					getHolds(t, p.put())
				}
			}
		}
	}
}

// slowGet is Get by the words of the document: it tells how many bytes are the
// cell's, and what that tells; -1, if there is none.
func slowGet(s string) (int, parts) {
	if len(s) < 40 {
		return -1, parts{}
	}
	h, rest, e := hist.Get(s[40:])
	if e != api.OK {
		return -1, parts{}
	}
	whole := func(from, to int) *big.Int {
		n := new(big.Int).SetBytes([]byte(s[from:to]))
		if s[from] >= 0x80 {
			n.Sub(n, new(big.Int).Lsh(big.NewInt(1), uint(8*(to-from))))
		}
		return n
	}
	p := parts{
		from: whole(0, 8).Int64(), sum: whole(8, 24), least: whole(24, 32).Int64(), most: whole(32, 40).Int64(),
		bits: h.Bits(), items: h.Items(),
	}
	many := p.count()
	if many == 0 {
		if p.sum.Sign() != 0 || p.least != 0 || p.most != 0 {
			return -1, parts{}
		}
		return len(s) - len(rest), p
	}
	first, _ := bucket.Of(p.bits, p.least)
	last, _ := bucket.Of(p.bits, p.most)
	if p.least > p.most || first != p.items[0].At || last != p.items[len(p.items)-1].At || p.sum.Cmp(times(many, p.least)) < 0 || p.sum.Cmp(times(many, p.most)) > 0 {
		return -1, parts{}
	}
	return len(s) - len(rest), p
}

// getHolds asks whether s is got just if it begins with some cell's bytes, and
// tells whether it does.
func getHolds(t *testing.T, s string) bool {
	t.Helper()
	end, want := slowGet(s)
	if end < 0 {
		isNone(t, "no cell", s)
		return false
	}
	c, rest, e := cell.Get(s)
	if c == nil || rest != s[end:] || e != api.OK {
		t.Fatalf("Get(%x): %v %x %d, not to %d", s, c, rest, e, end)
	}
	holds(t, "got", c, want)
	return true
}

// P15.2: each that differs from a cell's bytes in one, is got just if it is some
// cell's.
func TestGetOfBytesNearby(t *testing.T) {
	got := 0
	for _, p := range []parts{
		of(0, 0), of(-1, 4), of(0, 0, 0), of(5, 0, 5, 6), of(1<<60, 2, -8, -3, 0, 9, 9, 1000), of(0, 1, math.MinInt64, math.MaxInt64),
		same(3, mostCount, 70), same(0, mostCount/2, math.MinInt64),
	} {
		s := p.put() + "\x80\x00\x00\x3f\x00\x00\x00\x00\x00\x01"
		for at := range len(s) {
			for value := range 256 {
				b := []byte(s)
				b[at] = byte(value)
				if getHolds(t, string(b)) {
					got++
				}
			}
			getHolds(t, s[:at]+s[at+1:])
			getHolds(t, s[:at]+"\x00"+s[at:])
			getHolds(t, s[:at]+"\x01"+s[at:])
		}
	}
	if got < 256*8*8 { // any From is one
		t.Errorf("only %d are cells", got)
	}
}

// P15.2: parts by chance, of which some can't be together.
func TestGetOfPartsByChance(t *testing.T) {
	chance := rand.New(rand.NewSource(151))
	got, none := 0, 0
	for range 30000 {
		p := of(someNumber(chance), chance.Intn(mostBits+1), someNumbers(chance, 4)...)
		for i := range p.items {
			p.items[i].Many = 1 + chance.Uint64()>>(24+chance.Intn(40))/4
		}
		count := p.count()
		p.sum = new(big.Int).Add(times(count, p.least), new(big.Int).Rsh(times(count, p.most), uint(chance.Intn(100))))
		switch chance.Intn(8) {
		case 0:
			p.sum = times(count, p.most)
		case 1:
			p.least += int64(chance.Intn(5) - 2)
		case 2:
			p.most += int64(chance.Intn(5) - 2)
		case 3:
			p.least, p.most = p.most, p.least
		case 4:
			p.sum = big.NewInt(someNumber(chance))
		}
		if getHolds(t, p.put()+strings.Repeat("\x01", chance.Intn(3))) {
			got++
		} else {
			none++
		}
	}
	if got < 5000 || none < 5000 {
		t.Errorf("%d are cells, %d are none", got, none)
	}
}

// P15.2, P15.3: what was got goes on as what was put would have; so does what no
// numbers have, but the document lets be.
func TestGotGoesOn(t *testing.T) {
	chance := rand.New(rand.NewSource(152))
	for range 400 {
		from, bits, list, more := someNumber(chance), chance.Intn(mostBits+1), someNumbers(chance, 40), someNumbers(chance, 40)
		c := newCell(t, from, bits, list...)
		put := c.Put()
		d := get(t, put)
		if !cell.Same(c, d) {
			t.Fatalf("got of %x: another one", put)
		}
		add(t, d, more...)
		holds(t, "gone on", d, of(from, bits, slices.Concat(list, more)...))
		holds(t, "what was put", c, of(from, bits, list...))
		merge(t, c, d)
		holds(t, "merged", c, of(from, bits, slices.Concat(list, list, more)...))
		holds(t, "got again", get(t, put), of(from, bits, list...))
	}
	// 5 and 6 alone have another sum, but twice 6 is not below 12.
	want := of(0, 0, 5, 6)
	want.sum = big.NewInt(12)
	c := get(t, want.put())
	holds(t, "told so", c, want)
	merge(t, c, newCell(t, 0, 0, 9))
	want = of(0, 0, 5, 6, 9)
	want.sum = big.NewInt(21)
	holds(t, "told so, with 9", c, want)
}

// P15.1, P15.3: in whatever order numbers were added, and merged, it is the same.
func TestInAnyOrder(t *testing.T) {
	chance := rand.New(rand.NewSource(153))
	for range 300 {
		bits, list := chance.Intn(mostBits+1), someNumbers(chance, 60)
		want := of(4, bits, list...)
		for range 4 {
			chance.Shuffle(len(list), func(i, j int) { list[i], list[j] = list[j], list[i] })
			c := newCell(t, 4, bits, list...)
			holds(t, "one by one", c, want)
			parts := inParts(t, chance, bits, list)
			holds(t, "in parts", parts, want)
			if !cell.Same(c, parts) || !cell.Same(c, get(t, parts.Put())) {
				t.Fatalf("of %v: not the same", list)
			}
		}
	}
}

// inParts adds numbers to parts, and merges these, one of a chance into another:
// all into the one that begins at 4.
func inParts(t *testing.T, chance *rand.Rand, bits int, list []int64) *cell.Cell {
	t.Helper()
	parts := []*cell.Cell{newCell(t, 4, bits)}
	for range chance.Intn(8) {
		parts = append(parts, newCell(t, someNumber(chance), bits))
	}
	for _, n := range list {
		add(t, parts[chance.Intn(len(parts))], n)
	}
	for len(parts) > 1 {
		last := len(parts) - 1
		into := parts[chance.Intn(last)]
		switch chance.Intn(3) {
		case 0:
			merge(t, into, parts[last])
		case 1:
			merge(t, into, parts[last].Move(someNumber(chance)))
		case 2:
			merge(t, into, get(t, parts[last].Copy().Put()))
		}
		parts = parts[:last]
	}
	return parts[0]
}
