package tier_test

import (
	"encoding/binary"
	"fmt"
	"maps"
	"math"
	"math/rand"
	"slices"
	"strings"
	"testing"

	"scantling/api"
	"scantling/cell"
	"scantling/policy"
	"scantling/tier"
)

const (
	latest    = 1 << 60
	longest   = 1000000000
	mostBits  = 4
	mostCount = 1 << 40
)

// may is the policy with these times; of its Fine, too.
func may(late, future int64, fine int, tiers ...int64) policy.Policy {
	p := policy.Base()
	p.Late, p.Future, p.Fine, p.Tiers = late, future, fine, tiers
	return p
}

// wrong are policies that are not right, each for another reason.
func wrong() map[string]policy.Policy {
	all := map[string]policy.Policy{"of nothing": {}}
	for name, change := range map[string]func(p *policy.Policy){
		"no slots":        func(p *policy.Policy) { p.Slots = 0 },
		"low above high":  func(p *policy.Policy) { p.Low = p.High + 1 },
		"no top":          func(p *policy.Policy) { p.Top = 0 },
		"no sketch":       func(p *policy.Policy) { p.Sketch = 11 },
		"no idle":         func(p *policy.Policy) { p.Idle = 0 },
		"no window":       func(p *policy.Policy) { p.Window = 0 },
		"fine too low":    func(p *policy.Policy) { p.Fine = -1 },
		"fine too high":   func(p *policy.Policy) { p.Fine = mostBits + 1 },
		"late too low":    func(p *policy.Policy) { p.Late = -1 },
		"late too high":   func(p *policy.Policy) { p.Late = longest + 1 },
		"late far off":    func(p *policy.Policy) { p.Late = math.MinInt64 },
		"future too low":  func(p *policy.Policy) { p.Future = -1 },
		"future too high": func(p *policy.Policy) { p.Future = longest + 1 },
		"future far off":  func(p *policy.Policy) { p.Future = math.MaxInt64 },
		"no tiers":        func(p *policy.Policy) { p.Tiers = nil },
		"a tier of 0":     func(p *policy.Policy) { p.Tiers = []int64{0} },
		"a tier below 0":  func(p *policy.Policy) { p.Tiers = []int64{-10, 60} },
		"a tier too long": func(p *policy.Policy) { p.Tiers = []int64{10, longest + 10} },
		"no multiple":     func(p *policy.Policy) { p.Tiers = []int64{10, 65} },
		"tiers alike":     func(p *policy.Policy) { p.Tiers = []int64{10, 10} },
		"four tiers":      func(p *policy.Policy) { p.Tiers = []int64{1, 2, 4, 8} },
	} {
		p := policy.Base()
		change(&p)
		all[name] = p
	}
	return all
}

func newTiers(t *testing.T, p policy.Policy) *tier.Tiers {
	t.Helper()
	x, e := tier.New(p)
	if x == nil || e != api.OK {
		t.Fatalf("New(%s): %v %d", policy.Text(p), x, e)
	}
	return x
}

// add adds values that come at that time, each at once.
func add(t *testing.T, x *tier.Tiers, time int64, values ...int64) {
	t.Helper()
	for _, v := range values {
		if e := x.Add(time, time, v); e != api.OK {
			t.Fatalf("Add(%d, %d, %d): %d", time, time, v, e)
		}
	}
}

// get is the Tiers of all bytes of s.
func get(t *testing.T, p policy.Policy, s string) *tier.Tiers {
	t.Helper()
	x, rest, e := tier.Get(p, s)
	if x == nil || rest != "" || e != api.OK {
		t.Fatalf("Get(%.60x): %v %.60x %d", s, x, rest, e)
	}
	return x
}

// cellOf is the cell of these numbers.
func cellOf(t *testing.T, from int64, fine int, numbers ...int64) *cell.Cell {
	t.Helper()
	c, e := cell.New(from, fine)
	if e != api.OK {
		t.Fatalf("cell of %d bits: %d", fine, e)
	}
	for _, n := range numbers {
		if e := c.Add(n); e != api.OK {
			t.Fatalf("cell of %d: %d", n, e)
		}
	}
	return c
}

// times is the cell of so many times one number.
func times(t *testing.T, from int64, fine int, many uint64, n int64) *cell.Cell {
	t.Helper()
	all, some := cellOf(t, from, fine), cellOf(t, from, fine, n)
	for left := many; left > 0; left /= 2 {
		if left%2 == 1 {
			if e := all.Merge(some); e != api.OK {
				t.Fatalf("%d times %d: %d", many, n, e)
			}
		}
		some.Merge(some)
	}
	if all.Count() != many {
		t.Fatalf("%d times %d: %d", many, n, all.Count())
	}
	return all
}

// bytes is what is put of tiers with these cells, whether they may be so or not.
func bytes(tiers ...[]*cell.Cell) string {
	var out []byte
	for _, cells := range tiers {
		out = binary.BigEndian.AppendUint32(out, uint32(len(cells)))
		for _, c := range cells {
			out = append(out, c.Put()...)
		}
	}
	return string(out)
}

// word tells a cell by how it begins, how many numbers it has, and their sum.
func word(at int, c *cell.Cell) string {
	return fmt.Sprintf("%d@%d:%d=%s", at, c.From(), c.Count(), c.Sum().Text())
}

// told is what was told, as words; each partial one with a mark.
func told(list []tier.Closed) string {
	var words []string
	for _, x := range list {
		w := word(x.Tier, x.Cell)
		if x.Partial {
			w += "!"
		}
		words = append(words, w)
	}
	return strings.Join(words, " ")
}

// open is all cells, as words.
func open(x *tier.Tiers) string {
	var words []string
	for at := range 3 {
		for _, c := range x.Open(at) {
			words = append(words, word(at, c))
		}
	}
	return strings.Join(words, " ")
}

func isTold(t *testing.T, what string, list []tier.Closed, want string) {
	t.Helper()
	if got := told(list); got != want {
		t.Errorf("%s: told %q, not %q", what, got, want)
	}
}

// isOpen asks for the cells in each way that they are told.
func isOpen(t *testing.T, what string, x *tier.Tiers, want string) {
	t.Helper()
	if got := open(x); got != want {
		t.Errorf("%s: open %q, not %q", what, got, want)
	}
	if got, many := x.Many(), len(strings.Fields(want)); got != many {
		t.Errorf("%s: Many %d, not %d", what, got, many)
	}
}

// P16.1
func TestStart(t *testing.T) {
	for _, c := range []struct{ time, size, want int64 }{
		{25, 10, 20}, {20, 10, 20}, {19, 10, 10}, {29, 10, 20}, {30, 10, 30}, {9, 10, 0}, {0, 10, 0}, {1, 1, 1}, {7, 7, 7}, {6, 7, 0},
		{latest, 1, latest}, {latest, 1 << 30, latest}, {latest - 1, 1 << 30, latest - 1<<30}, {latest, longest, 1152921504000000000},
		{math.MaxInt64, 1, math.MaxInt64}, {math.MaxInt64, 2, math.MaxInt64 - 1}, {math.MaxInt64, math.MaxInt64, math.MaxInt64},
		{math.MaxInt64 - 1, math.MaxInt64, 0}, {math.MaxInt64, 1 << 62, 1 << 62},
		{25, 0, 0}, {25, -1, 0}, {25, -10, 0}, {25, math.MinInt64, 0}, {math.MaxInt64, 0, 0}, {math.MaxInt64, -1, 0},
		{-1, 10, 0}, {-10, 10, 0}, {-25, 10, 0}, {-1, 1, 0}, {math.MinInt64, 1, 0}, {math.MinInt64, 10, 0},
		{-1, 0, 0}, {-20, -10, 0}, {math.MinInt64, -1, 0}, {math.MinInt64, 0, 0}, {math.MinInt64, math.MinInt64, 0}, {0, 0, 0},
	} {
		if got := tier.Start(c.time, c.size); got != c.want {
			t.Errorf("Start(%d, %d): %d, not %d", c.time, c.size, got, c.want)
		}
	}
	for size := int64(1); size < 20; size++ {
		multiple := int64(0)
		for time := range int64(200) {
			if multiple+size <= time {
				multiple += size
			}
			if got := tier.Start(time, size); got != multiple {
				t.Errorf("Start(%d, %d): %d, not %d", time, size, got, multiple)
			}
		}
	}
}

// P16.1, P6: at each end, and one beyond it.
func TestMay(t *testing.T) {
	p := may(10, 3, 2, 5, 15)
	for _, c := range []struct {
		now, time int64
		want      api.Errno
	}{
		{50, 50, api.OK}, {50, 40, api.OK}, {50, 39, api.ErrOld}, {50, 0, api.ErrOld}, {50, 53, api.OK}, {50, 54, api.ErrFuture}, {50, latest, api.ErrFuture},
		{0, 0, api.OK}, {0, 3, api.OK}, {0, 4, api.ErrFuture}, {10, 0, api.OK}, {11, 0, api.ErrOld}, {11, 1, api.OK},
		{latest, latest, api.OK}, {latest, latest - 10, api.OK}, {latest, latest - 11, api.ErrOld}, {latest, 0, api.ErrOld},
		{latest - 3, latest, api.OK}, {latest - 4, latest, api.ErrFuture}, {0, latest, api.ErrFuture},
		{-1, 0, api.ErrArg}, {0, -1, api.ErrArg}, {-1, -1, api.ErrArg}, {5, -1, api.ErrArg}, {50, -1, api.ErrArg}, {-1, 50, api.ErrArg},
		{latest + 1, latest, api.ErrArg}, {latest, latest + 1, api.ErrArg}, {latest + 1, latest + 1, api.ErrArg}, {latest + 1, 0, api.ErrArg}, {0, latest + 1, api.ErrArg},
		{math.MaxInt64, 0, api.ErrArg}, {0, math.MaxInt64, api.ErrArg}, {math.MaxInt64, math.MaxInt64, api.ErrArg},
		{math.MinInt64, 0, api.ErrArg}, {0, math.MinInt64, api.ErrArg}, {math.MinInt64, math.MaxInt64, api.ErrArg}, {math.MaxInt64, math.MinInt64, api.ErrArg},
	} {
		if got := tier.May(p, c.now, c.time); got != c.want {
			t.Errorf("May(%d, %d): %d, not %d", c.now, c.time, got, c.want)
		}
	}
}

// P16.1: of the least and the greatest Late and Future.
func TestMayOfOtherPolicies(t *testing.T) {
	for _, late := range []int64{0, 1, 7, longest} {
		for _, future := range []int64{0, 1, 9, longest} {
			p := may(late, future, 0, 1)
			for _, now := range []int64{0, 5, longest - 1, longest, longest + 1, 5 * longest, latest - longest, latest - 1, latest} {
				for _, time := range []int64{now, now - late, now - late - 1, now - late + 1, now + future, now + future + 1, now + future - 1} {
					want := api.OK
					switch {
					case time < 0 || time > latest:
						want = api.ErrArg
					case now-time > late:
						want = api.ErrOld
					case time-now > future:
						want = api.ErrFuture
					}
					if got := tier.May(p, now, time); got != want {
						t.Errorf("Late %d, Future %d: May(%d, %d): %d, not %d", late, future, now, time, got, want)
					}
				}
			}
		}
	}
}

// P16.1: wrong policies, whatever the times.
func TestMayOfWrongPolicies(t *testing.T) {
	for name, p := range wrong() {
		for _, now := range []int64{0, 50, latest, -1, math.MaxInt64} {
			for _, time := range []int64{0, now, now - 1, now / 2, latest} {
				if got := tier.May(p, now, time); got != api.ErrArg {
					t.Errorf("%s: May(%d, %d): %d", name, now, time, got)
				}
			}
		}
	}
}

// P16.1
func TestNew(t *testing.T) {
	for _, p := range []policy.Policy{
		policy.Base(), may(0, 0, 0, 1), may(longest, longest, 4, longest), may(1, 2, 1, 5, 15, 30), may(3, 0, 3, 1, 2, longest),
	} {
		x := newTiers(t, p)
		isOpen(t, "new", x, "")
		if got, want := x.Put(), strings.Repeat("\x00", 4*len(p.Tiers)); got != want {
			t.Errorf("of %v: put as %x", p.Tiers, got)
		}
		isTold(t, "new", x.Tick(math.MaxInt64), "")
		isTold(t, "new", x.Flush(), "")
	}
	for name, p := range wrong() {
		if x, e := tier.New(p); x != nil || e != api.ErrArg {
			t.Errorf("%s: New: %v %d", name, x, e)
		}
	}
}

// P3: what stands in a policy is neither written into, nor kept.
func TestPolicyIsAlone(t *testing.T) {
	p := may(0, 0, 1, 10, 60, 120)
	all := slices.Clone(p.Tiers)
	x := newTiers(t, p)
	add(t, x, 25, 7)
	y := get(t, p, x.Put())
	if !slices.Equal(p.Tiers, all) {
		t.Fatalf("tiers are %v now", p.Tiers)
	}
	clear(p.Tiers)
	for _, one := range []*tier.Tiers{x, y} {
		add(t, one, 25, 8)
		add(t, one, 30, 9)
		isOpen(t, "the policy changed", one, "0@20:2=15 0@30:1=9")
		isTold(t, "the policy changed", one.Tick(40), "0@20:2=15 0@30:1=9")
		isOpen(t, "the policy changed", one, "1@0:3=24")
	}
}

// P16.2
func TestAdd(t *testing.T) {
	x := newTiers(t, may(20, 5, 2, 10, 60))
	for _, step := range []struct {
		now, time, value int64
		want             string
	}{
		{0, 0, 5, "0@0:1=5"},
		{0, 5, 6, "0@0:2=11"},
		{9, 9, -20, "0@0:3=-9"},
		{9, 10, 1, "0@0:3=-9 0@10:1=1"},
		{10, 9, 4, "0@0:4=-5 0@10:1=1"},
		{29, 34, 100, "0@0:4=-5 0@10:1=1 0@30:1=100"},
		{29, 29, 50, "0@0:4=-5 0@10:1=1 0@20:1=50 0@30:1=100"},
		{29, 9, 0, "0@0:5=-5 0@10:1=1 0@20:1=50 0@30:1=100"},
		{200, 200, math.MaxInt64, "0@0:5=-5 0@10:1=1 0@20:1=50 0@30:1=100 0@200:1=9223372036854775807"},
		{200, 205, math.MaxInt64, "0@0:5=-5 0@10:1=1 0@20:1=50 0@30:1=100 0@200:2=18446744073709551614"},
		{5, 9, math.MinInt64, "0@0:6=-9223372036854775813 0@10:1=1 0@20:1=50 0@30:1=100 0@200:2=18446744073709551614"},
	} {
		if e := x.Add(step.now, step.time, step.value); e != api.OK {
			t.Fatalf("Add(%d, %d, %d): %d", step.now, step.time, step.value, e)
		}
		isOpen(t, fmt.Sprintf("with %d", step.value), x, step.want)
	}
	if least, most, ok := x.Open(0)[0].Bounds(); least != math.MinInt64 || most != 6 || !ok {
		t.Errorf("bounds %d %d %v", least, most, ok)
	}
}

// P16.2: the first and the last time, in tiers of the least and the greatest
// size.
func TestAddAtTheEnds(t *testing.T) {
	for size, last := range map[int64]int64{1: latest, 7: latest - 1, longest: 1152921504000000000, 1 << 29: latest} {
		p := may(0, 0, 0, size)
		x := newTiers(t, p)
		add(t, x, latest, 2)
		add(t, x, 0, 1)
		want := fmt.Sprintf("0@0:1=1 0@%d:1=2", last)
		isOpen(t, "at the ends", x, want)
		isOpen(t, "at the ends, got", get(t, p, x.Put()), want)
		isTold(t, "ahead of the end", x.Tick(last+size-1), "0@0:1=1")
		isTold(t, "at the end", x.Tick(last+size), fmt.Sprintf("0@%d:1=2", last))
	}
}

// P16.2, P2: with an error there is nothing new.
func TestAddOfWrongTimes(t *testing.T) {
	p := may(10, 3, 2, 5, 15)
	empty, x := newTiers(t, p), newTiers(t, p)
	add(t, x, 50, 7)
	add(t, x, 38, 8)
	put := x.Put()
	for _, now := range []int64{50, 0, 5, 38, latest, -1, latest + 1, math.MaxInt64, math.MinInt64} {
		for _, time := range []int64{39, 54, 0, 4, 27, 60, 65, latest, latest - 11, -1, -5, latest + 1, math.MaxInt64, math.MinInt64} {
			want := tier.May(p, now, time)
			if want == api.OK {
				continue
			}
			for _, one := range []*tier.Tiers{x, empty} {
				if got := one.Add(now, time, 1); got != want {
					t.Errorf("Add(%d, %d, 1): %d, not %d", now, time, got, want)
				}
			}
			if x.Put() != put || empty.Many() != 0 {
				t.Fatalf("Add(%d, %d, 1) changed it: %q, %q", now, time, open(x), open(empty))
			}
		}
	}
}

// P16.2, P2: a cell of 2^40 numbers takes no more in; others do.
func TestAddToTheFull(t *testing.T) {
	p := may(100, 0, 3, 10, 20)
	x := get(t, p, bytes([]*cell.Cell{times(t, 10, 3, mostCount-1, 4)}, nil))
	add(t, x, 19, 5)
	want := "0@10:1099511627776=4398046511105"
	isOpen(t, "full", x, want)
	put := x.Put()
	for _, time := range []int64{10, 15, 19} {
		if e := x.Add(20, time, 1); e != api.ErrRange || x.Put() != put {
			t.Errorf("Add at %d to a full cell: %d, %q", time, e, open(x))
		}
	}
	add(t, x, 20, 6)
	add(t, x, 9, 7)
	isOpen(t, "others", x, "0@0:1=7 "+want+" 0@20:1=6")
}

// P16.1, P16.3: cells are of the policy's Fine, in each tier.
func TestFine(t *testing.T) {
	for fine := range mostBits + 1 {
		x := newTiers(t, may(0, 0, fine, 1, 2, 4))
		add(t, x, 4, 1000, 1001, -70)
		for at, now := range []int64{4, 5, 6} {
			x.Tick(now)
			cells := x.Open(at)
			if len(cells) != 1 || !cell.Same(cells[0], cellOf(t, 4, fine, -70, 1000, 1001)) {
				t.Errorf("of %d bits, tier %d: %q", fine, at, open(x))
			}
		}
	}
}

// P16.2, P6: by From, in whatever order they came; nothing of no tier.
func TestOpen(t *testing.T) {
	p := may(100, 0, 1, 10, 40)
	for _, order := range [][]int64{{5, 15, 25, 35}, {35, 25, 15, 5}, {25, 5, 35, 15}, {15, 35, 5, 25}} {
		x := newTiers(t, p)
		for _, time := range order {
			add(t, x, time, time)
		}
		isOpen(t, "of one tier", x, "0@0:1=5 0@10:1=15 0@20:1=25 0@30:1=35")
		for _, at := range []int{-1, 2, 3, 255, 256, 1 << 32, math.MaxInt, math.MinInt} {
			if got := x.Open(at); len(got) > 0 {
				t.Errorf("Open(%d): %d cells", at, len(got))
			}
		}
		if got := x.Open(1); len(got) > 0 {
			t.Errorf("of the second tier: %d cells", len(got))
		}
		isTold(t, "up to 120", x.Tick(120), "0@0:1=5 0@10:1=15")
		isOpen(t, "of both tiers", x, "0@20:1=25 0@30:1=35 1@0:2=20")
	}
}

// P16.2, P3: copies follow nothing, and nothing follows them.
func TestOpenIsAlone(t *testing.T) {
	x := newTiers(t, may(0, 0, 1, 10, 20))
	add(t, x, 5, 1)
	x.Tick(10)
	add(t, x, 15, 2)
	want := "0@10:1=2 1@0:1=1"
	for at := range 2 {
		first, second := x.Open(at), x.Open(at)
		first[0].Add(100)
		first[0].Merge(cellOf(t, 0, 1, -1000))
		first[0] = nil
		isOpen(t, "a copy changed", x, want)
		if got := second[0].Count(); got != 1 {
			t.Errorf("another copy has %d", got)
		}
	}
	copies := []*cell.Cell{x.Open(0)[0], x.Open(1)[0]}
	add(t, x, 15, 3)
	x.Tick(20)
	if copies[0].Count() != 1 || copies[1].Count() != 1 {
		t.Errorf("copies have %d and %d", copies[0].Count(), copies[1].Count())
	}
	isOpen(t, "all gone", x, "")
}

// P16.3: told by hand, tick by tick; a Late, and three tiers.
func TestTick(t *testing.T) {
	x := newTiers(t, may(10, 3, 2, 5, 15, 30))
	for _, time := range []int64{0, 4, 5, 14, 15, 29, 30} {
		add(t, x, time, time)
	}
	for _, step := range []struct {
		now        int64
		told, open string
	}{
		{-1, "", "0@0:2=4 0@5:1=5 0@10:1=14 0@15:1=15 0@25:1=29 0@30:1=30"},
		{math.MinInt64, "", "0@0:2=4 0@5:1=5 0@10:1=14 0@15:1=15 0@25:1=29 0@30:1=30"},
		{0, "", "0@0:2=4 0@5:1=5 0@10:1=14 0@15:1=15 0@25:1=29 0@30:1=30"},
		{14, "", "0@0:2=4 0@5:1=5 0@10:1=14 0@15:1=15 0@25:1=29 0@30:1=30"},
		{15, "0@0:2=4", "0@5:1=5 0@10:1=14 0@15:1=15 0@25:1=29 0@30:1=30 1@0:2=4"},
		{15, "", "0@5:1=5 0@10:1=14 0@15:1=15 0@25:1=29 0@30:1=30 1@0:2=4"},
		{24, "0@5:1=5", "0@10:1=14 0@15:1=15 0@25:1=29 0@30:1=30 1@0:3=9"},
		{25, "0@10:1=14 1@0:4=23", "0@15:1=15 0@25:1=29 0@30:1=30 2@0:4=23"},
		{7, "", "0@15:1=15 0@25:1=29 0@30:1=30 2@0:4=23"},
		{39, "0@15:1=15", "0@25:1=29 0@30:1=30 1@15:1=15 2@0:4=23"},
		{40, "0@25:1=29 1@15:2=44 2@0:6=67", "0@30:1=30"},
		{69, "0@30:1=30 1@30:1=30", "2@30:1=30"},
		{70, "2@30:1=30", ""},
		{math.MaxInt64, "", ""},
	} {
		what := fmt.Sprintf("at %d", step.now)
		isTold(t, what, x.Tick(step.now), step.told)
		isOpen(t, what, x, step.open)
	}
}

// P16.3: at once, tier by tier: whose cells are told is told ahead of the next
// tier's.
func TestTickOfAll(t *testing.T) {
	for _, now := range []int64{70, 71, latest, latest + 1, math.MaxInt64} {
		x := newTiers(t, may(10, 3, 2, 5, 15, 30))
		for _, time := range []int64{30, 29, 15, 14, 5, 4, 0} {
			add(t, x, time, time)
		}
		isTold(t, "at once", x.Tick(now), "0@0:2=4 0@5:1=5 0@10:1=14 0@15:1=15 0@25:1=29 0@30:1=30 1@0:4=23 1@15:2=44 1@30:1=30 2@0:6=67 2@30:1=30")
		isOpen(t, "at once", x, "")
	}
}

// P16.3: at the end less or more by one, of each Late and size.
func TestTickAtTheEnd(t *testing.T) {
	for _, late := range []int64{0, 1, 9, longest} {
		for _, size := range []int64{1, 2, 10, longest} {
			for _, from := range []int64{0, size, 5 * size} {
				p := may(late, 0, 0, size)
				for time := range 3 {
					x := newTiers(t, p)
					add(t, x, from+int64(time)*(size-1)/2, 8)
					what := fmt.Sprintf("Late %d, tier %d, from %d", late, size, from)
					want := fmt.Sprintf("0@%d:1=8", from)
					isTold(t, what, x.Tick(from+size+late-1), "")
					isOpen(t, what, x, want)
					isTold(t, what, x.Tick(from+size+late), want)
					isOpen(t, what, x, "")
				}
			}
		}
	}
}

// P16.3: one tier has no next one, and each goes to just the next one.
func TestTickOfOneTier(t *testing.T) {
	x := newTiers(t, may(0, 0, 2, 10))
	add(t, x, 5, 1, 2)
	add(t, x, 15, 3)
	isTold(t, "of one tier", x.Tick(10), "0@0:2=3")
	isOpen(t, "of one tier", x, "0@10:1=3")
	isTold(t, "of one tier", x.Tick(20), "0@10:1=3")
	isOpen(t, "of one tier", x, "")
}

// P16.3: what comes for a time whose cells went is told another time; it may
// stand ahead of cells that are there.
func TestTickOfTimesThatWent(t *testing.T) {
	x := newTiers(t, may(0, 0, 2, 10, 20))
	add(t, x, 5, 1)
	add(t, x, 25, 2)
	isTold(t, "at first", x.Tick(30), "0@0:1=1 0@20:1=2 1@0:1=1")
	add(t, x, 5, 3)
	add(t, x, 15, 4)
	add(t, x, 35, 5)
	isOpen(t, "back in time", x, "0@0:1=3 0@10:1=4 0@30:1=5 1@20:1=2")
	isTold(t, "another time", x.Tick(10), "0@0:1=3")
	isOpen(t, "another time", x, "0@10:1=4 0@30:1=5 1@0:1=3 1@20:1=2")
	isTold(t, "all", x.Tick(40), "0@10:1=4 0@30:1=5 1@0:2=7 1@20:2=7")
}

// P16.3: each cell of each tier, Partial, whenever it ends.
func TestFlush(t *testing.T) {
	x := newTiers(t, may(10, 3, 2, 5, 15, 30))
	for _, time := range []int64{0, 4, 14, 15, 30} {
		add(t, x, time, time)
	}
	isTold(t, "at 25", x.Tick(25), "0@0:2=4 0@10:1=14 1@0:3=18")
	isTold(t, "flushed", x.Flush(), "0@15:1=15! 0@30:1=30! 1@15:1=15! 1@30:1=30! 2@0:4=33! 2@30:1=30!")
	isOpen(t, "flushed", x, "")
	isTold(t, "flushed again", x.Flush(), "")
	add(t, x, 0, 6)
	add(t, x, latest, 7)
	isOpen(t, "gone on", x, "0@0:1=6 0@1152921504606846975:1=7")
	isTold(t, "flushed at both ends", x.Flush(), "0@0:1=6! 0@1152921504606846975:1=7! 1@0:1=6! 1@1152921504606846975:1=7! 2@0:1=6! 2@1152921504606846960:1=7!")
	add(t, x, 3, 8)
	isTold(t, "ticked", x.Tick(40), "0@0:1=8 1@0:1=8 2@0:1=8")
}

// P16.3, P3: what was told follows nothing, and nothing follows it, nor does one
// cell that is told another one.
func TestToldIsAlone(t *testing.T) {
	closeAll := map[string]func(x *tier.Tiers) []tier.Closed{
		"Tick":  func(x *tier.Tiers) []tier.Closed { return x.Tick(20) },
		"Flush": func(x *tier.Tiers) []tier.Closed { return x.Flush() },
	}
	for what, closed := range closeAll {
		x := newTiers(t, may(0, 0, 1, 10, 20, 40))
		add(t, x, 5, 1)
		first := x.Tick(10)
		first[0].Cell.Add(1000)
		isOpen(t, what+": what was told changed", x, "1@0:1=1")
		add(t, x, 15, 2)
		list := closed(x)
		want := strings.Fields(told(list))
		open := open(x)
		for i, changed := range list {
			changed.Cell.Add(500)
			changed.Cell.Merge(cellOf(t, 0, 1, 300, -2))
			for j, other := range list[i+1:] {
				if got := told([]tier.Closed{other}); got != want[i+1+j] {
					t.Errorf("%s: %d changed, %d is %q, not %q", what, i, i+1+j, got, want[i+1+j])
				}
			}
		}
		isOpen(t, what+": all that was told changed", x, open)
		add(t, x, 15, 3)
		x.Flush()
		if got := first[0].Cell.Count(); got != 2 {
			t.Errorf("%s: what was told first has %d", what, got)
		}
	}
}

// P16.3: where both are together 2^40 they are one cell; where they are one
// above it the new one counts alone, in each of the tiers, and goes on.
func TestTooManyHandedOn(t *testing.T) {
	p := may(0, 0, 0, 10, 20, 40)
	for _, partial := range []bool{false, true} {
		for _, c := range []struct {
			there, comes uint64
			want         uint64
		}{
			{mostCount - 1, 1, mostCount}, {1, mostCount - 1, mostCount}, {mostCount / 2, mostCount / 2, mostCount}, {1, 1, 2},
			{mostCount, 1, 1}, {1, mostCount, mostCount}, {mostCount/2 + 1, mostCount / 2, mostCount / 2}, {mostCount, mostCount, mostCount},
		} {
			for at := range 2 {
				tiers := make([][]*cell.Cell, 3)
				size := int64(10) << at
				tiers[at] = []*cell.Cell{times(t, size, 0, c.comes, 7)}
				tiers[at+1] = []*cell.Cell{times(t, 0, 0, c.there, -3)}
				x := get(t, p, bytes(tiers...))
				var list []tier.Closed
				if partial {
					list = x.Flush()
				} else {
					list = x.Tick(2 * size)
				}
				merged := times(t, 0, 0, c.comes, 7)
				if c.want > c.comes {
					merged.Merge(times(t, 0, 0, c.there, -3))
				}
				want := []*cell.Cell{times(t, size, 0, c.comes, 7), merged, merged}[:3-at]
				if !partial {
					want = want[:2]
				}
				if len(list) != len(want) {
					t.Fatalf("%d to %d: told %q", c.comes, c.there, told(list))
				}
				for i, x := range list {
					if x.Tier != at+i || x.Partial != partial || !cell.Same(x.Cell, want[i]) || i > 0 && x.Cell.Count() != c.want {
						t.Errorf("%d to %d: told %q", c.comes, c.there, told(list))
					}
				}
			}
		}
	}
}

// P16.3, P3: the new one that took the place is there alone, and takes more in.
func TestTooManyGoOn(t *testing.T) {
	p := may(0, 0, 0, 10, 20)
	x := get(t, p, bytes([]*cell.Cell{cellOf(t, 0, 0, 5)}, []*cell.Cell{times(t, 0, 0, mostCount, 9), cellOf(t, 20, 0, 1)}))
	list, before := x.Tick(10), "1@0:1=5 1@20:1=1"
	isTold(t, "closed", list, "0@0:1=5")
	isOpen(t, "closed", x, before)
	list[0].Cell.Add(70)
	isOpen(t, "what was told changed", x, before)
	add(t, x, 15, 6)
	isTold(t, "gone on", x.Tick(20), "0@10:1=6 1@0:2=11")
	isTold(t, "what was told", list, "0@0:2=75")
}

// P16.4: bytes worked out by hand.
func TestPutAndGet(t *testing.T) {
	zeros := func(n int) string { return strings.Repeat("\x00", n) }
	// From, Sum, least, most; bits, how many items; each item's place and how many.
	five := zeros(8) + zeros(15) + "\x05" + zeros(7) + "\x05" + zeros(7) + "\x05" + "\x02\x00\x01" + "\x80\x00\x00\x05" + zeros(5) + "\x01"
	twice := zeros(7) + "\x0a" + zeros(15) + "\x06" + zeros(7) + "\x03" + zeros(7) + "\x03" + "\x02\x00\x01" + "\x80\x00\x00\x03" + zeros(5) + "\x02"
	x := newTiers(t, may(0, 0, 2, 10, 60))
	for _, step := range []struct {
		do        func()
		put, open string
	}{
		{func() {}, zeros(8), ""},
		{func() { add(t, x, 9, 5) }, zeros(3) + "\x01" + five + zeros(4), "0@0:1=5"},
		{func() { add(t, x, 10, 3, 3) }, zeros(3) + "\x02" + five + twice + zeros(4), "0@0:1=5 0@10:2=6"},
		{func() { x.Tick(10) }, zeros(3) + "\x01" + twice + zeros(3) + "\x01" + five, "0@10:2=6 1@0:1=5"},
	} {
		step.do()
		if got := x.Put(); got != step.put {
			t.Fatalf("put as %x, not %x", got, step.put)
		}
		for _, behind := range []string{"", "\x00", "more", step.put, strings.Repeat("\xff", 100)} {
			y, rest, e := tier.Get(may(0, 0, 2, 10, 60), step.put+behind)
			if y == nil || rest != behind || e != api.OK {
				t.Fatalf("Get(%x and %x): %v %x %d", step.put, behind, y, rest, e)
			}
			isOpen(t, "got", y, step.open)
			if got := y.Put(); got != step.put {
				t.Errorf("got, and put as %x, not %x", got, step.put)
			}
		}
	}
}

// P16.4: of one tier and of three; of more than one byte of cells.
func TestPutAndGetOfMany(t *testing.T) {
	for _, sizes := range [][]int64{{1}, {3, 6}, {2, 4, 8}} {
		p := may(longest, 0, 0, sizes...)
		x := newTiers(t, p)
		tiers := make([][]*cell.Cell, len(sizes))
		for i := range int64(70000) {
			add(t, x, i*sizes[0], i%3)
			tiers[0] = append(tiers[0], cellOf(t, i*sizes[0], 0, i%3))
		}
		put := x.Put()
		if put != bytes(tiers...) || put[:4] != "\x00\x01\x11\x70" {
			t.Fatalf("of %v: put as %.40x", sizes, put)
		}
		y, rest, e := tier.Get(p, put+"\x00")
		if rest != "\x00" || e != api.OK || y.Many() != 70000 || y.Put() != put {
			t.Fatalf("of %v: %x %d", sizes, rest, e)
		}
	}
}

func isNone(t *testing.T, fault string, p policy.Policy, s string) {
	t.Helper()
	if x, rest, e := tier.Get(p, s); x != nil || rest != "" || e != api.ErrForm {
		t.Errorf("%s: Get(%.80x): %v %.60x %d", fault, s, x, rest, e)
	}
}

// P16.4, P2: a wrong policy is told ahead of wrong bytes.
func TestGetOfWrongPolicies(t *testing.T) {
	for name, p := range wrong() {
		for _, s := range []string{"", strings.Repeat("\x00", 4), strings.Repeat("\x00", 8), strings.Repeat("\x00", 20), "\xff\xff\xff\xff", bytes([]*cell.Cell{cellOf(t, 0, 2, 1)}, nil)} {
			if x, rest, e := tier.Get(p, s); x != nil || rest != "" || e != api.ErrArg {
				t.Errorf("%s: Get(%x): %v %x %d", name, s, x, rest, e)
			}
		}
	}
}

// P16.4: what is short is none's, wherever it ends; so is what tells of more.
func TestGetOfShort(t *testing.T) {
	p := may(0, 0, 1, 10, 60)
	zero, ten := cellOf(t, 0, 1, 5), cellOf(t, 10, 1, -6, 7, 900)
	for _, s := range []string{bytes(nil, nil), bytes([]*cell.Cell{zero, ten}, nil), bytes(nil, []*cell.Cell{zero}), bytes([]*cell.Cell{ten}, []*cell.Cell{zero})} {
		for length := range len(s) {
			isNone(t, "short", p, s[:length])
		}
		get(t, p, s)
		for _, many := range []string{"\x00\x00\x00\x03", "\x00\x01\x00\x00", "\x01\x00\x00\x00", "\x7f\xff\xff\xff", "\x80\x00\x00\x00", "\xff\xff\xff\xff"} {
			isNone(t, "of more", p, many+s[4:])
		}
	}
	isNone(t, "of more in the second tier", p, bytes([]*cell.Cell{zero})+"\x00\x00\x00\x02"+zero.Put())
	isNone(t, "of far more in the second tier", p, bytes([]*cell.Cell{zero})+"\xff\xff\xff\xff"+zero.Put())
	isNone(t, "of many ones", p, strings.Repeat("\xff", 1<<20))
	isNone(t, "of other tiers", may(0, 0, 1, 10, 60, 120), bytes([]*cell.Cell{zero, ten}, nil))
	if x, rest, e := tier.Get(may(0, 0, 1, 10), bytes([]*cell.Cell{zero}, nil)); x == nil || rest != bytes(nil) || e != api.OK {
		t.Errorf("of one tier: %v %x %d", x, rest, e)
	}
	// Of one cell less than there are: the other one's From begins as no cells do.
	if x, rest, e := tier.Get(p, bytes([]*cell.Cell{zero})+ten.Put()); x == nil || rest != ten.Put()[4:] || e != api.OK {
		t.Errorf("of less: %v %x %d", x, rest, e)
	}
}

// P16.4: each fault of a cell, wherever in its tier it stands, and in each tier.
func TestGetOfWrongCells(t *testing.T) {
	p := may(0, 0, 2, 10, 20, 40)
	for at, size := range p.Tiers {
		state := func(cells ...*cell.Cell) string {
			tiers := [][]*cell.Cell{{cellOf(t, 40, 2, 1)}, {cellOf(t, 40, 2, 1)}, {cellOf(t, 40, 2, 1)}}
			tiers[at] = cells
			return bytes(tiers...)
		}
		at := func(from int64) *cell.Cell { return cellOf(t, from, 2, 5) }
		get(t, p, state())
		get(t, p, state(at(0)))
		get(t, p, state(at(size), at(3*size), at(4*size)))
		for fault, c := range map[string]*cell.Cell{
			"no numbers":     cellOf(t, 2*size, 2),
			"fewer bits":     cellOf(t, 2*size, 1, 5),
			"more bits":      cellOf(t, 2*size, 3, 5),
			"no multiple":    at(2*size + 1),
			"no multiple, -": at(2*size - 1),
			"half of one":    at(2*size + size/2),
			"a fifth of one": at(2*size - size/5),
			"below 0":        at(-1),
			"a size below 0": at(-size),
			"far below 0":    at(math.MinInt64 / size * size),
			"the least":      at(math.MinInt64),
			"the greatest":   at(math.MaxInt64),
			"above 2^60":     at((latest/size + 1) * size),
			"far above 2^60": at(math.MaxInt64 / size * size),
			"of one ahead":   at(size),
			"of one further": at(0),
		} {
			isNone(t, fault+", last", p, state(at(size), c))
			isNone(t, fault+", amid", p, state(at(size), c, at(3*size)))
			if c.From() == 0 || c.From() == size {
				continue
			}
			isNone(t, fault+", alone", p, state(c))
			isNone(t, fault+", first", p, state(c, at(3*size)))
		}
		isNone(t, "twice", p, state(at(0), at(0)))
		isNone(t, "twice, and others", p, state(at(0), at(size), at(size), at(2*size)))
		isNone(t, "falling", p, state(at(3*size), at(2*size)))
		put := at(size).Put()
		isNone(t, "a cell that is none", p, strings.Replace(state(at(0), at(size)), put, put[:len(put)-1]+"\x00", 1))
	}
}

// P16.4: the last time at which a cell may begin, of each size, and the next.
func TestGetOfTheLastTime(t *testing.T) {
	for _, size := range []int64{1, 2, 3, 7, 10, 1 << 20, 1 << 29, longest - 1, longest} {
		p := may(0, 0, 0, size)
		last := latest / size * size
		x := get(t, p, bytes([]*cell.Cell{cellOf(t, 0, 0, 1), cellOf(t, last-size, 0, 2), cellOf(t, last, 0, 3)}))
		isNone(t, "the next", p, bytes([]*cell.Cell{cellOf(t, last+size, 0, 4)}))
		isTold(t, "all but the last", x.Tick(last+size-1), fmt.Sprintf("0@0:1=1 0@%d:1=2", last-size))
		isTold(t, "the last", x.Tick(last+size), fmt.Sprintf("0@%d:1=3", last))
	}
}

// P16.4, P3: what was got goes on as what was put, and neither follows the other.
func TestGotGoesOn(t *testing.T) {
	p := may(10, 3, 2, 5, 15, 30)
	x := newTiers(t, p)
	for _, time := range []int64{0, 4, 14, 15, 30} {
		add(t, x, time, time)
	}
	x.Tick(25)
	put := x.Put()
	for range 2 {
		y := get(t, p, put)
		if e := y.Add(24, 13, 1); e != api.ErrOld {
			t.Errorf("too old: %d", e)
		}
		if e := y.Add(24, 28, 1); e != api.ErrFuture {
			t.Errorf("too far ahead: %d", e)
		}
		add(t, y, 17, 100)
		isTold(t, "got, at 30", y.Tick(30), "0@15:2=115")
		isOpen(t, "got, at 30", y, "0@30:1=30 1@15:2=115 2@0:3=18")
		isTold(t, "got, flushed", y.Flush(), "0@30:1=30! 1@15:2=115! 1@30:1=30! 2@0:5=133! 2@30:1=30!")
		if got := x.Put(); got != put {
			t.Errorf("what was put is another one: %q", open(x))
		}
	}
}

// slowGet is Get by the words of the document: it tells where the bytes of the
// tiers end, and their cells; -1, if there are none.
func slowGet(p policy.Policy, s string) (int, [][]*cell.Cell) {
	rest, tiers := s, [][]*cell.Cell{}
	for _, size := range p.Tiers {
		if len(rest) < 4 {
			return -1, nil
		}
		many := binary.BigEndian.Uint32([]byte(rest))
		rest = rest[4:]
		var cells []*cell.Cell
		for range many {
			c, behind, e := cell.Get(rest)
			if e != api.OK || c.Spread().Bits() != p.Fine || c.Count() == 0 || c.From() < 0 || c.From() > latest || c.From()%size != 0 {
				return -1, nil
			}
			if len(cells) > 0 && cells[len(cells)-1].From() >= c.From() {
				return -1, nil
			}
			cells, rest = append(cells, c), behind
		}
		tiers = append(tiers, cells)
	}
	return len(s) - len(rest), tiers
}

// getHolds asks whether s is got just if it begins with some tiers' bytes, and
// tells whether it does.
func getHolds(t *testing.T, p policy.Policy, s string) bool {
	t.Helper()
	end, tiers := slowGet(p, s)
	if end < 0 {
		isNone(t, "no tiers", p, s)
		return false
	}
	x, rest, e := tier.Get(p, s)
	if x == nil || rest != s[end:] || e != api.OK {
		t.Fatalf("Get(%x): %v %x %d, not to %d", s, x, rest, e, end)
	}
	if got := x.Put(); got != s[:end] {
		t.Fatalf("Get(%x): put as %x", s, got)
	}
	for at, cells := range tiers {
		opened := x.Open(at)
		if !slices.EqualFunc(opened, cells, cell.Same) {
			t.Fatalf("Get(%x): tier %d has %d cells, not %d, or others", s, at, len(opened), len(cells))
		}
	}
	return true
}

// P16.4: each that differs from the bytes of tiers in one, is got just if it is
// those of some tiers.
func TestGetOfBytesNearby(t *testing.T) {
	got := 0
	p := may(0, 0, 2, 4, 8)
	for _, s := range []string{
		bytes(nil, nil),
		bytes([]*cell.Cell{cellOf(t, 8, 2, 1), cellOf(t, 12, 2, -5, 6), cellOf(t, 256, 2, 1)}, nil),
		bytes([]*cell.Cell{cellOf(t, 0, 2, math.MinInt64)}, []*cell.Cell{cellOf(t, 0, 2, 9), cellOf(t, latest, 2, 0, 0)}),
	} {
		s += cellOf(t, 4, 2, 3).Put()
		for at := range len(s) {
			for value := range 256 {
				b := []byte(s)
				b[at] = byte(value)
				if getHolds(t, p, string(b)) {
					got++
				}
			}
			getHolds(t, p, s[:at])
			getHolds(t, p, s[:at]+s[at+1:])
			getHolds(t, p, s[:at]+"\x00"+s[at:])
			getHolds(t, p, s[:at]+"\x01"+s[at:])
		}
	}
	if got < 1000 {
		t.Errorf("only %d are tiers", got)
	}
}

// slow is what the document says of Tiers, word by word: of each tier its cells
// by From.
type slow struct {
	p     policy.Policy
	cells []map[int64]*cell.Cell
}

func newSlow(p policy.Policy) *slow {
	s := &slow{p: p}
	for range p.Tiers {
		s.cells = append(s.cells, map[int64]*cell.Cell{})
	}
	return s
}

func (s *slow) rising(at int) []int64 { return slices.Sorted(maps.Keys(s.cells[at])) }

// place is the cell of that tier that begins at from, a new one if there is none.
func (s *slow) place(t *testing.T, at int, from int64) *cell.Cell {
	t.Helper()
	if s.cells[at][from] == nil {
		s.cells[at][from] = cellOf(t, from, s.p.Fine)
	}
	return s.cells[at][from]
}

func (s *slow) add(t *testing.T, now, time, value int64) api.Errno {
	t.Helper()
	switch {
	case now < 0 || time < 0 || now > latest || time > latest:
		return api.ErrArg
	case time < now-s.p.Late:
		return api.ErrOld
	case time > now+s.p.Future:
		return api.ErrFuture
	}
	return s.place(t, 0, time/s.p.Tiers[0]*s.p.Tiers[0]).Add(value)
}

// closed closes, and tells, those whose end goes.
func (s *slow) closed(t *testing.T, partial bool, goes func(end int64) bool) []tier.Closed {
	t.Helper()
	var list []tier.Closed
	for at, size := range s.p.Tiers {
		for _, from := range s.rising(at) {
			if !goes(from + size) {
				continue
			}
			c := s.cells[at][from]
			delete(s.cells[at], from)
			list = append(list, tier.Closed{Tier: at, Partial: partial, Cell: c})
			if at+1 == len(s.p.Tiers) {
				continue
			}
			start := from / s.p.Tiers[at+1] * s.p.Tiers[at+1]
			if s.place(t, at+1, start).Merge(c) != api.OK {
				s.cells[at+1][start] = c.Move(start)
			}
		}
	}
	return list
}

func (s *slow) put() string {
	var tiers [][]*cell.Cell
	for at := range s.cells {
		var cells []*cell.Cell
		for _, from := range s.rising(at) {
			cells = append(cells, s.cells[at][from])
		}
		tiers = append(tiers, cells)
	}
	return bytes(tiers...)
}

// holds asks of x all that it tells.
func (s *slow) holds(t *testing.T, what string, x *tier.Tiers) {
	t.Helper()
	if got, want := x.Put(), s.put(); got != want {
		t.Fatalf("%s: put as %x, not %x", what, got, want)
	}
	many := 0
	for at, cells := range s.cells {
		many += len(cells)
		opened := x.Open(at)
		for i, from := range s.rising(at) {
			if len(opened) != len(cells) || !cell.Same(opened[i], cells[from]) {
				t.Fatalf("%s: open is %q", what, open(x))
			}
		}
	}
	if got := x.Many(); got != many {
		t.Fatalf("%s: Many %d, not %d", what, got, many)
	}
}

func sameClosed(a, b tier.Closed) bool {
	return a.Tier == b.Tier && a.Partial == b.Partial && cell.Same(a.Cell, b.Cell)
}

// some are of a few that may be.
func some(chance *rand.Rand, all ...int64) int64 { return all[chance.Intn(len(all))] }

func somePolicy(chance *rand.Rand) policy.Policy {
	sizes := [][]int64{{1}, {7}, {longest}, {1, 2}, {10, 60}, {3, longest - 1}, {5, 15, 30}, {1, 2, 4}, {2, 20, 40}, {10, 100, 1000}}
	return may(some(chance, 0, 1, 10, 30, 100, longest), some(chance, 0, 1, 5, 50, longest), chance.Intn(mostBits+1), sizes[chance.Intn(len(sizes))]...)
}

// walk is a way of a Tiers by chance, held against a slow one; what was taken,
// and what was told, is kept.
type walk struct {
	chance *rand.Rand
	x      *tier.Tiers
	slow   *slow
	now    int64
	taken  []sample
	told   []tier.Closed
}

type sample struct{ time, value int64 }

func newWalk(t *testing.T, chance *rand.Rand) *walk {
	t.Helper()
	p := somePolicy(chance)
	return &walk{chance: chance, x: newTiers(t, p), slow: newSlow(p), now: some(chance, 0, 0, 50, 1000, 7*longest, latest-200)}
}

func (w *walk) step(t *testing.T) {
	t.Helper()
	size := w.slow.p.Tiers[w.chance.Intn(len(w.slow.p.Tiers))]
	switch kind := w.chance.Intn(20); {
	case kind < 12:
		w.add(t, size)
	case kind < 16:
		w.now = min(w.now+w.chance.Int63n(size)+some(w.chance, 0, 1, 3, size, w.slow.p.Late), latest)
		w.tick(t, w.now)
	case kind == 16:
		w.tick(t, w.now-w.chance.Int63n(2*size))
	case kind == 17:
		w.tick(t, some(w.chance, -1, math.MinInt64, 0, w.now+1))
	case kind == 18:
		x, rest, e := tier.Get(w.slow.p, w.x.Put()+"more")
		if x == nil || rest != "more" || e != api.OK {
			t.Fatalf("Get: %v %q %d", x, rest, e)
		}
		w.x = x
	case w.chance.Intn(4) == 0:
		w.tell(t, "Flush", w.x.Flush(), w.slow.closed(t, true, func(int64) bool { return true }))
	}
	w.slow.holds(t, fmt.Sprintf("at %d", w.now), w.x)
}

// add adds a value at a time that may be too old, or too far ahead.
func (w *walk) add(t *testing.T, size int64) {
	t.Helper()
	time := w.now + some(w.chance, 0, 1, -1, size, -size, w.slow.p.Future, w.slow.p.Future+1, -w.slow.p.Late, -w.slow.p.Late-1, w.chance.Int63n(size), -w.chance.Int63n(size))
	value := int64(w.chance.Uint64()) >> w.chance.Intn(64)
	got, want := w.x.Add(w.now, time, value), w.slow.add(t, w.now, time, value)
	if got != want {
		t.Fatalf("Add(%d, %d, %d): %d, not %d", w.now, time, value, got, want)
	}
	if got == api.OK {
		w.taken = append(w.taken, sample{time, value})
	}
}

func (w *walk) tick(t *testing.T, now int64) {
	t.Helper()
	goes := func(end int64) bool { return now >= 0 && end <= now-w.slow.p.Late }
	w.tell(t, fmt.Sprintf("Tick(%d)", now), w.x.Tick(now), w.slow.closed(t, false, goes))
}

func (w *walk) tell(t *testing.T, what string, got, want []tier.Closed) {
	t.Helper()
	if !slices.EqualFunc(got, want, sameClosed) {
		t.Fatalf("%s: told %q, not %q", what, told(got), told(want))
	}
	w.told = append(w.told, got...)
}

// P16.2, P16.3, P16.4: all that is told, in whatever order things are done.
func TestByChance(t *testing.T) {
	chance := rand.New(rand.NewSource(161))
	told, partial := map[int]int{}, 0
	for range 600 {
		w := newWalk(t, chance)
		for range 100 {
			w.step(t)
		}
		for _, c := range w.told {
			told[c.Tier]++
			if c.Partial {
				partial++
			}
		}
	}
	if told[0] < 5000 || told[1] < 1000 || told[2] < 300 || partial < 300 {
		t.Errorf("told were %v, partial %d", told, partial)
	}
}

// P16.5: of each tier, and each time, what was told, and what is open in it and
// ahead of it, is all that was taken.
func TestNothingIsLost(t *testing.T) {
	chance := rand.New(rand.NewSource(162))
	for range 300 {
		w := newWalk(t, chance)
		for range 120 {
			w.step(t)
		}
		for at, size := range w.slow.p.Tiers {
			want, got := map[int64]*cell.Cell{}, map[int64]*cell.Cell{}
			put := func(all map[int64]*cell.Cell, time int64, c *cell.Cell) {
				start := time / size * size
				if all[start] == nil {
					all[start] = cellOf(t, start, w.slow.p.Fine)
				}
				all[start].Merge(c)
			}
			for _, one := range w.taken {
				put(want, one.time, cellOf(t, 0, w.slow.p.Fine, one.value))
			}
			for _, c := range w.told {
				if c.Tier == at {
					put(got, c.Cell.From(), c.Cell)
				}
			}
			for ahead := range at + 1 {
				for _, c := range w.x.Open(ahead) {
					put(got, c.From(), c)
				}
			}
			if !maps.EqualFunc(got, want, cell.Same) {
				t.Fatalf("tier %d of %v: %d cells, not %d, or others", at, w.slow.p.Tiers, len(got), len(want))
			}
		}
	}
}

// P16.3, P16.4: from cells that are full, or all but full, by chance.
func TestFullByChance(t *testing.T) {
	chance := rand.New(rand.NewSource(163))
	p := may(5, 0, 1, 2, 4, 8)
	counts := []uint64{1, 2, mostCount/2 - 1, mostCount / 2, mostCount/2 + 1, mostCount - 1, mostCount}
	var fulls []*cell.Cell
	for i, count := range counts {
		fulls = append(fulls, times(t, 0, p.Fine, count, int64(i-3)))
	}
	for range 500 {
		tiers, s := make([][]*cell.Cell, 3), newSlow(p)
		for at, size := range p.Tiers {
			for from := int64(0); from < 16; from += size {
				if chance.Intn(3) > 0 {
					c := fulls[chance.Intn(len(fulls))].Move(from)
					tiers[at] = append(tiers[at], c)
					s.cells[at][from] = c.Copy()
				}
			}
		}
		w := &walk{chance: chance, x: get(t, p, bytes(tiers...)), slow: s}
		for now := range int64(30) {
			w.now = now
			w.step(t)
			w.tick(t, now)
			w.slow.holds(t, fmt.Sprintf("at %d", now), w.x)
		}
	}
}

// P4: what is told hangs on nothing but on what was done.
func TestSameOfTheSame(t *testing.T) {
	var first string
	for range 3 {
		w := newWalk(t, rand.New(rand.NewSource(164)))
		for range 200 {
			w.step(t)
		}
		if got := told(w.told) + w.x.Put(); first == "" {
			first = got
		} else if got != first {
			t.Fatal("another answer")
		}
	}
}
