package quota_test

import (
	"fmt"
	"math"
	"math/rand"
	"reflect"
	"slices"
	"strings"
	"testing"
	"unsafe"

	"scantling/api"
	"scantling/hll"
	"scantling/policy"
	"scantling/quota"
	"scantling/sip"
	"scantling/top"
)

const (
	longest  = 64      // bytes of a metric
	mostSeen = 1 << 62 // who come to a top
)

// with is Base, but for these.
func with(low, high, room, bits int) policy.Policy {
	p := policy.Base()
	p.Low, p.High, p.Top, p.Sketch = low, high, room, bits
	return p
}

// wrong are policies that are not right, each by one number or two.
func wrong() []policy.Policy {
	tiers := func(tiers ...int64) policy.Policy {
		p := policy.Base()
		p.Tiers = tiers
		return p
	}
	slots, idle, window := policy.Base(), policy.Base(), policy.Base()
	slots.Slots, idle.Idle, window.Window = 257, 0, 0
	return []policy.Policy{
		{}, slots, idle, window, tiers(), tiers(10, 15), tiers(1, 2, 4, 8),
		with(2, 1, 8, 6), with(-1, 1, 8, 6), with(-2, -1, 8, 6), with(0, 1000001, 8, 6), with(math.MinInt, math.MaxInt, 8, 6),
		with(1, 2, 0, 6), with(1, 2, -1, 6), with(1, 2, 17, 6), with(1, 2, math.MaxInt, 6),
		with(1, 2, 8, 3), with(1, 2, 8, 11), with(1, 2, 8, 0), with(1, 2, 8, -4), with(1, 2, 8, 64),
	}
}

func newQuota(t *testing.T, p policy.Policy, window int64) *quota.Quota {
	t.Helper()
	q, e := quota.New(p, window)
	if q == nil || e != api.OK {
		t.Fatalf("New(%v, %d): %v %d", p, window, q, e)
	}
	return q
}

func quotaOf(t *testing.T, p policy.Policy, s quota.State) *quota.Quota {
	t.Helper()
	q, e := quota.Of(p, s)
	if q == nil || e != api.OK {
		t.Fatalf("Of(%v, %v): %v %d", p, s, q, e)
	}
	return q
}

// come admits keys that are there already, so that they are but counted.
func come(t *testing.T, q *quota.Quota, keys ...string) {
	t.Helper()
	for _, key := range keys {
		if e := q.Admit(key, "come", true, false); e != api.OK {
			t.Fatalf("%q, who is known: %d", key, e)
		}
	}
}

// numbered are so many unlike keys.
func numbered(head string, many int) []string {
	var keys []string
	for i := range many {
		keys = append(keys, fmt.Sprint(head, i))
	}
	return keys
}

// sketchOf is a sketch to which these keys were added.
func sketchOf(bits int, keys ...[]string) *hll.Sketch {
	s, e := hll.New(bits)
	if e != api.OK {
		panic(e)
	}
	for _, key := range slices.Concat(keys...) {
		s.Add(sip.Sum(0, 0, key))
	}
	return s
}

// slow is a quota by the words of the document: it keeps who came, and whose
// metrics were refused.
type slow struct {
	window      int64
	closed      bool
	p           policy.Policy
	now, before []string
	refused     []string
}

func (s *slow) many() uint64 { return sketchOf(s.p.Sketch, s.now, s.before).Estimate() }

func (s *slow) roll(window int64, p policy.Policy) int {
	if window <= s.window || !policy.Right(p) {
		return 0
	}
	told, came := 2, s.now
	if s.window < math.MaxInt64 && window == s.window+1 {
		told = 1
	} else {
		came = nil
	}
	s.closed = s.closed && sketchOf(s.p.Sketch, came).Estimate() > uint64(s.p.Low)
	if p.Sketch != s.p.Sketch {
		came = nil
	}
	*s = slow{window: window, closed: s.closed, p: p, before: came}
	return told
}

func (s *slow) admit(key, metric string, known, full bool) api.Errno {
	if len(metric) > longest {
		return api.ErrArg
	}
	s.now = append(s.now, key)
	s.closed = s.closed || s.many() >= uint64(s.p.High)
	switch {
	case known:
		return api.OK
	case s.closed:
		s.refused = append(s.refused, metric)
		return api.ErrGate
	case full:
		s.refused = append(s.refused, metric)
		return api.ErrFull
	}
	return api.OK
}

func (s *slow) state() quota.State {
	often, e := top.New(s.p.Top)
	if e != api.OK {
		panic(e)
	}
	for _, metric := range s.refused {
		often.Add(metric, 1)
	}
	return quota.State{
		Window: s.window, Closed: s.closed,
		Now: sketchOf(s.p.Sketch, s.now).Registers(), Before: sketchOf(s.p.Sketch, s.before).Registers(),
		Seen: uint64(len(s.refused)), Items: often.Items(),
	}
}

func sameState(a, b quota.State) bool {
	items := slices.Equal(a.Items, b.Items)
	a.Items, b.Items = nil, nil
	return items && reflect.DeepEqual(a, b)
}

// wantState holds all that q tells against one state, of a policy of those bits.
func wantState(t *testing.T, what string, q *quota.Quota, bits int, want quota.State) {
	t.Helper()
	if got := q.State(); !sameState(got, want) {
		t.Fatalf("%s: %+v, not %+v", what, got, want)
	}
	if q.Window() != want.Window || q.Closed() != want.Closed {
		t.Fatalf("%s: in %d, closed %v, beside %+v", what, q.Window(), q.Closed(), want)
	}
	both, e := hll.New(bits)
	for _, registers := range []string{want.Now, want.Before} {
		s, ofE := hll.Of(registers)
		if e != api.OK || ofE != api.OK || both.Merge(s) != api.OK {
			t.Fatalf("%s: %q is no sketch of %d bits", what, registers, bits)
		}
	}
	if got := q.Many(); got != both.Estimate() {
		t.Fatalf("%s: many %d, not %d", what, got, both.Estimate())
	}
}

// both is a quota, and what it must be.
type both struct {
	*quota.Quota
	slow *slow
}

func newBoth(t *testing.T, p policy.Policy, window int64) *both {
	t.Helper()
	b := &both{newQuota(t, p, window), &slow{window: window, p: p}}
	b.holds(t, "New")
	return b
}

func (b *both) holds(t *testing.T, what string) {
	t.Helper()
	wantState(t, what, b.Quota, b.slow.p.Sketch, b.slow.state())
	if got, want := b.Many(), b.slow.many(); got != want {
		t.Fatalf("%s: many %d, not %d", what, got, want)
	}
}

func (b *both) roll(t *testing.T, window int64, p policy.Policy) {
	t.Helper()
	what := fmt.Sprintf("Roll(%d, %v)", window, p)
	if got, want := b.Roll(window, p), b.slow.roll(window, p); got != want {
		t.Fatalf("%s: %d, not %d", what, got, want)
	}
	b.holds(t, what)
}

func (b *both) admit(t *testing.T, key, metric string, known, full bool) {
	t.Helper()
	what := fmt.Sprintf("Admit(%.20q, %.70q, %v, %v)", key, metric, known, full)
	if got, want := b.Admit(key, metric, known, full), b.slow.admit(key, metric, known, full); got != want {
		t.Fatalf("%s: %d, not %d", what, got, want)
	}
	b.holds(t, what)
}

// restore makes the quota anew of what is told of it.
func (b *both) restore(t *testing.T) {
	t.Helper()
	b.Quota = quotaOf(t, b.slow.p, b.State())
	b.holds(t, "Of its state")
}

// P14.1: a new one is in its window, open, and nobody came.
func TestNew(t *testing.T) {
	for _, window := range []int64{0, 1, 5, 1 << 32, 1 << 60, math.MaxInt64} {
		for _, p := range []policy.Policy{policy.Base(), with(0, 0, 1, 4), with(0, 1000000, 16, 10), with(1000000, 1000000, 8, 5), with(1, 2, 3, 7)} {
			zeros := strings.Repeat("\x00", 1<<p.Sketch)
			q := newQuota(t, p, window)
			wantState(t, "New", q, p.Sketch, quota.State{Window: window, Now: zeros, Before: zeros})
			if q.Many() != 0 {
				t.Fatalf("many %d of a new one", q.Many())
			}
		}
	}
}

// P14.1: no window below 0, and no policy that is not right.
func TestNewRefused(t *testing.T) {
	refused := func(p policy.Policy, window int64) {
		t.Helper()
		if q, e := quota.New(p, window); q != nil || e != api.ErrArg {
			t.Errorf("New(%v, %d): %v %d", p, window, q, e)
		}
	}
	for _, window := range []int64{-1, -2, -60, -1 << 32, math.MinInt64, math.MinInt64 + 1} {
		refused(policy.Base(), window)
		refused(policy.Policy{}, window)
	}
	for _, p := range wrong() {
		refused(p, 0)
		refused(p, math.MaxInt64)
	}
}

// P14.1: the gate is of High and Low: it closes at High, not below it, and of
// no High is closed at the first that comes.
func TestNewGate(t *testing.T) {
	for _, c := range []struct{ high, wantIn int }{{0, 0}, {1, 0}, {2, 1}, {3, 2}, {8, 7}} {
		q := newQuota(t, with(0, c.high, 1, 10), 0)
		for i, key := range numbered("k", 10) {
			want := api.OK
			if i >= c.wantIn {
				want = api.ErrGate
			}
			if got := q.Admit(key, "m", false, false); got != want {
				t.Fatalf("high %d, of %d: %d, not %d", c.high, i, got, want)
			}
		}
	}
	for _, c := range []struct {
		low    int
		closed bool
	}{{0, true}, {2, true}, {3, false}, {4, false}} {
		p := with(c.low, 4, 1, 10)
		q := newQuota(t, p, 0)
		come(t, q, "k0", "k1", "k2", "k3")
		q.Roll(1, p)
		come(t, q, "k0", "k1", "k2")
		if q.Roll(2, p); q.Closed() != c.closed {
			t.Errorf("low %d, of 3: closed %v", c.low, q.Closed())
		}
	}
}

// P14.1: Many is of both windows together, who came in both but once.
func TestMany(t *testing.T) {
	p := with(0, 1000000, 8, 10)
	q := newQuota(t, p, 0)
	want := func(many uint64) {
		t.Helper()
		if got := q.Many(); got != many {
			t.Fatalf("many %d, not %d", got, many)
		}
	}
	come(t, q, "k1", "k2", "k1")
	want(2)
	q.Roll(1, p)
	want(2)
	come(t, q, "k2")
	want(2)
	come(t, q, "k3", "k4")
	want(4)
	q.Roll(2, p)
	want(3)
	q.Roll(3, p)
	want(0)
	for bits := 4; bits <= 10; bits++ {
		p := with(0, 1000000, 8, bits)
		q := newQuota(t, p, 0)
		ahead, after := numbered("a", 300), numbered("b", 500)
		come(t, q, ahead...)
		q.Roll(1, p)
		come(t, q, after...)
		if got, want := q.Many(), sketchOf(bits, ahead, after).Estimate(); got != want {
			t.Errorf("%d bits: many %d, not %d", bits, got, want)
		}
	}
}

// P14.2: a window that is no later one, or a policy that is not right, changes
// nothing.
func TestRollNothing(t *testing.T) {
	p := with(1, 3, 2, 6)
	for _, window := range []int64{0, 7, math.MaxInt64} {
		q := newQuota(t, p, window)
		come(t, q, "k1", "k2")
		q.Admit("k3", "m", false, false)
		was := q.State()
		still := func(to int64, p policy.Policy) {
			t.Helper()
			if got := q.Roll(to, p); got != 0 {
				t.Fatalf("Roll(%d, %v) in %d: %d", to, p, window, got)
			}
			wantState(t, "behind a Roll of nothing", q, 6, was)
		}
		for _, to := range []int64{window, window - 1, 0, -1, -window, math.MinInt64, math.MinInt64 + 1} {
			if to <= window {
				still(to, p)
				still(to, with(5, 6, 7, 8))
				still(to, policy.Policy{})
			}
		}
		for _, p := range wrong() {
			still(math.MaxInt64, p)
			if window < math.MaxInt64 {
				still(window+1, p)
			}
		}
		// It goes on by what held ahead: closed as it is, it refuses; and who
		// is refused as third has no room left.
		if e := q.Admit("k4", "n", false, false); e != api.ErrGate {
			t.Fatalf("closed, and %d", e)
		}
		q.Admit("k4", "o", false, false)
		if items := q.State().Items; !slices.Equal(items, []top.Item{{Name: "o", Many: 2, Over: 1}, {Name: "n", Many: 1}}) {
			t.Fatalf("items %v", items)
		}
	}
}

// P14.2: to the next window, what came in this one is what came ahead; to a
// later one nobody came ahead.
func TestRoll(t *testing.T) {
	p := with(0, 1000000, 2, 10)
	zeros := strings.Repeat("\x00", 1024)
	for _, c := range []struct {
		from, to int64
		told     int
	}{
		{0, 1, 1}, {0, 2, 2}, {0, 3, 2}, {5, 6, 1}, {5, 7, 2}, {5, 1 << 32, 2}, {5, 5 + 1<<32, 2}, {5, 6 + 1<<32, 2}, {1, math.MaxInt64, 2}, {0, math.MaxInt64, 2},
		{1<<32 - 1, 1 << 32, 1}, {math.MaxInt64 - 1, math.MaxInt64, 1}, {math.MaxInt64 - 2, math.MaxInt64, 2}, {math.MaxInt64 - 2, math.MaxInt64 - 1, 1},
	} {
		q := newQuota(t, p, c.from)
		come(t, q, "k1", "k2")
		q.Admit("k3", "m", false, true)
		came := q.State()
		if came.Seen != 1 || q.Many() != 3 {
			t.Fatalf("%d seen, %d came", came.Seen, q.Many())
		}
		if got := q.Roll(c.to, p); got != c.told {
			t.Fatalf("Roll(%d) in %d: %d, not %d", c.to, c.from, got, c.told)
		}
		want := quota.State{Window: c.to, Now: zeros, Before: zeros}
		if c.told == 1 {
			want.Before = came.Now
		}
		wantState(t, fmt.Sprintf("rolled from %d to %d", c.from, c.to), q, 10, want)
	}
}

// P14.2: who came two windows ahead is out.
func TestRollTwice(t *testing.T) {
	p := with(0, 1000000, 2, 10)
	q := newQuota(t, p, 0)
	come(t, q, "k1", "k2", "k3")
	q.Roll(1, p)
	come(t, q, "k4")
	q.Roll(2, p)
	come(t, q, "k5", "k6")
	wantState(t, "rolled twice", q, 10, quota.State{
		Window: 2, Now: sketchOf(10, []string{"k5", "k6"}).Registers(), Before: sketchOf(10, []string{"k4"}).Registers(),
	})
}

// P14.2: whether the gate opens hangs on who came in the window that ends, not
// on who came ahead of it, and on the Low that held in it.
func TestRollGate(t *testing.T) {
	old := with(2, 5, 2, 10)
	for _, c := range []struct {
		ahead, now int
		by         int64
		p          policy.Policy
		closed     bool
	}{
		{5, 0, 1, old, false}, {5, 1, 1, old, false}, {5, 2, 1, old, false}, {5, 3, 1, old, true}, {0, 5, 1, old, true}, {3, 2, 1, old, false},
		{0, 4, 1, old, false}, {2, 2, 1, old, false}, // it was not closed
		{5, 5, 2, old, false}, {5, 5, 3, old, false}, {5, 5, math.MaxInt64 - 1, old, false}, // nobody came ahead of a later one
		{5, 3, 1, with(3, 5, 2, 10), true}, {5, 3, 1, with(900, 1000, 2, 10), true}, // the new Low is higher
		{5, 2, 1, with(1, 5, 2, 10), false}, {5, 2, 1, with(0, 0, 2, 10), false}, // lower
		{5, 3, 1, with(2, 5, 2, 4), true}, {5, 2, 1, with(2, 5, 2, 4), false}, {5, 3, 2, with(0, 0, 2, 4), false}, // of another Sketch
		{5, 3, 1, with(2, 5, 1, 10), true}, {5, 2, 1, with(2, 5, 16, 10), false}, // of another Top
	} {
		// The ones ahead came in the window ahead, those now in the one that
		// ends, each time unlike ones.
		q := newQuota(t, old, 0)
		come(t, q, numbered("a", c.ahead)...)
		q.Roll(1, old)
		come(t, q, numbered("b", c.now)...)
		if was := c.ahead+c.now >= 5; q.Closed() != was {
			t.Fatalf("%d and %d came: closed %v", c.ahead, c.now, q.Closed())
		}
		if q.Roll(1+c.by, c.p); q.Closed() != c.closed {
			t.Errorf("%d and %d came, %d on, of low %d: closed %v", c.ahead, c.now, c.by, c.p.Low, q.Closed())
		}
	}
}

// P14.2: behind a Roll the new policy holds: its High, its Low, its Top.
func TestRollPolicy(t *testing.T) {
	for _, by := range []int64{1, 2} {
		q := newQuota(t, with(0, 1000000, 1, 10), 0)
		p := with(1, 2, 3, 10)
		q.Roll(by, p)
		for i, metric := range []string{"a", "a", "b", "c", "c", "c", "d"} {
			want := api.ErrGate
			if i == 0 {
				want = api.OK
			}
			if got := q.Admit(fmt.Sprint("k", i), metric, false, false); got != want {
				t.Fatalf("%d on, of %d: %d, not %d", by, i, got, want)
			}
		}
		// Three have room; a goes, when d comes.
		if s := q.State(); s.Seen != 6 || !slices.Equal(s.Items, []top.Item{{Name: "c", Many: 3}, {Name: "d", Many: 2, Over: 1}, {Name: "b", Many: 1}}) {
			t.Fatalf("%d on: %v of %d", by, s.Items, s.Seen)
		}
		q.Roll(by+1, p)
		come(t, q, "k1")
		if q.Roll(by+2, p); q.Closed() {
			t.Fatalf("%d on: closed, of 1", by)
		}
	}
}

// P14.2: sketches of other bits begin with nothing, both of them.
func TestRollSketch(t *testing.T) {
	for from := 4; from <= 10; from++ {
		for to := 4; to <= 10; to++ {
			for by := int64(1); by <= 2; by++ {
				old, p := with(0, 1000000, 2, from), with(0, 1000000, 2, to)
				q := newQuota(t, old, 0)
				come(t, q, "k1", "k2")
				q.Roll(1, old)
				come(t, q, "k3")
				came := q.State().Now
				q.Roll(1+by, p)
				zeros := strings.Repeat("\x00", 1<<to)
				want := quota.State{Window: 1 + by, Now: zeros, Before: zeros}
				if from == to && by == 1 {
					want.Before = came
				}
				what := fmt.Sprintf("from %d bits to %d, %d on", from, to, by)
				wantState(t, what, q, to, want)
				come(t, q, "k4")
				want.Now = sketchOf(to, []string{"k4"}).Registers()
				wantState(t, what, q, to, want)
			}
		}
	}
}

// P14.2: what is counted in one window is not counted in the one ahead of it.
func TestRollApart(t *testing.T) {
	p := with(0, 1000000, 2, 10)
	q := newQuota(t, p, 0)
	come(t, q, "k1")
	q.Roll(1, p)
	was := q.State()
	come(t, q, "k2", "k3")
	if got := q.State(); got.Before != was.Before || got.Now != sketchOf(10, []string{"k2", "k3"}).Registers() {
		t.Error("both windows count one sketch")
	}
}

// P14.3: of what stands against a new one the gate is told first, then that
// there is no room; nothing stands against one who is known.
func TestAdmit(t *testing.T) {
	for _, c := range []struct {
		came        int
		known, full bool
		want        api.Errno
	}{
		{0, false, false, api.OK}, {0, false, true, api.ErrFull}, {0, true, false, api.OK}, {0, true, true, api.OK},
		{1, false, false, api.OK}, {1, false, true, api.ErrFull}, {1, true, false, api.OK}, {1, true, true, api.OK},
		{2, false, false, api.ErrGate}, {2, false, true, api.ErrGate}, {2, true, false, api.OK}, {2, true, true, api.OK}, // it closes by this one
		{3, false, false, api.ErrGate}, {3, false, true, api.ErrGate}, {3, true, false, api.OK}, {3, true, true, api.OK}, // it was closed
	} {
		q := newQuota(t, with(0, 3, 2, 10), 0)
		keys := numbered("k", c.came)
		come(t, q, keys...)
		if got := q.Admit("new", "m", c.known, c.full); got != c.want {
			t.Fatalf("%d came, known %v, full %v: %d, not %d", c.came, c.known, c.full, got, c.want)
		}
		want := quota.State{Closed: c.came >= 2, Now: sketchOf(10, keys, []string{"new"}).Registers(), Before: strings.Repeat("\x00", 1024)}
		if c.want != api.OK {
			want.Seen, want.Items = 1, []top.Item{{Name: "m", Many: 1}}
		}
		wantState(t, fmt.Sprintf("%d came, known %v, full %v", c.came, c.known, c.full), q, 10, want)
	}
}

// P14.3: the gate sees who came in both windows.
func TestAdmitSeesBoth(t *testing.T) {
	p := with(2, 5, 2, 10)
	q := newQuota(t, p, 0)
	come(t, q, "k1", "k2", "k3")
	q.Roll(1, p)
	if e := q.Admit("k4", "m", false, false); e != api.OK || q.Closed() {
		t.Fatalf("of 4: %d, closed %v", e, q.Closed())
	}
	if e := q.Admit("k1", "m", false, false); e != api.OK || q.Closed() {
		t.Fatalf("of 4 still: %d, closed %v", e, q.Closed())
	}
	if e := q.Admit("k5", "m", false, false); e != api.ErrGate || !q.Closed() {
		t.Fatalf("of 5: %d, closed %v", e, q.Closed())
	}
}

// P14.3: one who comes again is seen, too: the High of a new policy may be
// below those that came ahead.
func TestAdmitSeesAgain(t *testing.T) {
	q := newQuota(t, with(2, 5, 2, 10), 0)
	come(t, q, "k1", "k2", "k3")
	q.Roll(1, with(0, 3, 2, 10))
	if q.Closed() {
		t.Fatal("closed by none who came")
	}
	if e := q.Admit("k1", "m", true, false); e != api.OK || !q.Closed() {
		t.Fatalf("of 3: %d, closed %v", e, q.Closed())
	}
	// What a state tells may be open, though many came; the next one who
	// comes closes it, even if the sketch is the same.
	s := q.State()
	s.Closed = false
	x := quotaOf(t, with(0, 3, 2, 10), s)
	if e := x.Admit("k1", "m", false, false); e != api.ErrGate || !x.Closed() {
		t.Fatalf("of 3, open: %d, closed %v", e, x.Closed())
	}
}

// P14.3: a metric may have 64 bytes; of one that has more nothing changes,
// whoever comes.
func TestAdmitMetric(t *testing.T) {
	for _, metric := range []string{"", "m", "\x00\xff =,", strings.Repeat("x", longest-1), strings.Repeat("x", longest), strings.Repeat("é", longest/2)} {
		q := newQuota(t, with(0, 3, 2, 10), 0)
		if e := q.Admit("k", metric, false, true); e != api.ErrFull {
			t.Errorf("%q: %d", metric, e)
		}
		if items := q.State().Items; !slices.Equal(items, []top.Item{{Name: metric, Many: 1}}) {
			t.Errorf("%q: %v", metric, items)
		}
		if e := q.Admit("k", metric, true, true); e != api.OK {
			t.Errorf("%q, known: %d", metric, e)
		}
	}
	for _, metric := range []string{strings.Repeat("x", longest+1), strings.Repeat("é", longest/2) + "x", strings.Repeat("é", 40), strings.Repeat("x", 256), strings.Repeat("x", 1<<16)} {
		for _, came := range []int{0, 1, 2, 3, 4} {
			q := newQuota(t, with(0, 3, 2, 10), 0)
			come(t, q, numbered("k", came)...)
			q.Admit("k0", "m", false, true)
			was := q.State()
			for _, known := range []bool{false, true} {
				for _, full := range []bool{false, true} {
					if e := q.Admit("new", metric, known, full); e != api.ErrArg {
						t.Errorf("%d bytes, known %v, full %v: %d", len(metric), known, full, e)
					}
				}
			}
			wantState(t, "behind a metric too long", q, 10, was)
		}
	}
}

// P14.3: a key may be any; it goes by its Sum of the key 0, 0.
func TestAdmitKey(t *testing.T) {
	for _, key := range []string{"", "k", "\x00", "\xff\xfe", "m\x00a\x00b", strings.Repeat("k", 2048), strings.Repeat("k", 4097), strings.Repeat("k", 1<<20)} {
		q := newQuota(t, with(0, 1000000, 2, 10), 0)
		if e := q.Admit(key, "m", false, false); e != api.OK {
			t.Errorf("%.20q: %d", key, e)
		}
		s, _ := hll.New(10)
		s.Add(sip.Sum(0, 0, key))
		if got := q.State().Now; got != s.Registers() {
			t.Errorf("%.20q: another sum was added", key)
		}
	}
}

// P14.3: whose metrics were refused most is told; who came in is not.
func TestAdmitRefused(t *testing.T) {
	q := newQuota(t, with(0, 1000000, 2, 10), 0)
	for i, metric := range strings.Split("a b a c in known b b", " ") {
		q.Admit(fmt.Sprint("k", i), metric, metric == "known", metric != "in")
	}
	// a 2, b 1; c lets b go, and has 2, of which 1 is over; b comes again,
	// lets a go, and has 3, of which 2 are over; and then 4.
	want := []top.Item{{Name: "b", Many: 4, Over: 2}, {Name: "c", Many: 2, Over: 1}}
	if s := q.State(); s.Seen != 6 || !slices.Equal(s.Items, want) {
		t.Fatalf("%v of %d", s.Items, s.Seen)
	}
}

// P14.3: where no more may come to the Top, who is refused is so all the same.
func TestAdmitMostSeen(t *testing.T) {
	p := with(0, 1, 1, 4)
	zeros := strings.Repeat("\x00", 16)
	q := quotaOf(t, p, quota.State{Now: zeros, Before: zeros, Seen: mostSeen - 1, Items: []top.Item{{Name: "m", Many: mostSeen - 1}}})
	for i, want := range []uint64{mostSeen, mostSeen, mostSeen} {
		if e := q.Admit("k", "m", false, false); e != api.ErrGate {
			t.Fatalf("of %d: %d", i, e)
		}
		if s := q.State(); s.Seen != want || !slices.Equal(s.Items, []top.Item{{Name: "m", Many: want}}) {
			t.Fatalf("of %d: %v of %d", i, s.Items, s.Seen)
		}
	}
	q = quotaOf(t, with(0, 2, 1, 4), quota.State{Now: zeros, Before: zeros, Seen: mostSeen, Items: []top.Item{{Name: "m", Many: mostSeen}}})
	if e := q.Admit("k", "n", false, true); e != api.ErrFull {
		t.Fatalf("full: %d", e)
	}
}

// states are some that a quota of with(1, 3, 2, 4) may have: P14.4 asks nothing
// of what they tell together.
func states() []quota.State {
	zeros, most := strings.Repeat("\x00", 16), strings.Repeat("\x1a", 16)
	some := "\x00\x01\x02\x03\x04\x05\x06\x07\x08\x09\x0a\x0b\x18\x19\x1a\x00"
	return []quota.State{
		{Now: zeros, Before: zeros},
		{Window: 1, Now: some, Before: zeros},
		{Window: 7, Closed: true, Now: zeros, Before: some},
		{Window: math.MaxInt64, Closed: true, Now: most, Before: most},
		{Window: 9, Now: most, Before: some}, // open, though many came
		{Now: zeros, Before: zeros, Seen: 1, Items: []top.Item{{Name: "a", Many: 1}}},
		{Now: zeros, Before: zeros, Seen: 3, Items: []top.Item{{Name: "", Many: 2}, {Name: "a", Many: 1}}},
		{Now: some, Before: most, Seen: 7, Items: []top.Item{{Name: "a", Many: 4, Over: 3}, {Name: "b", Many: 3, Over: 2}}},
		{Now: some, Before: most, Seen: mostSeen, Items: []top.Item{{Name: strings.Repeat("n", longest), Many: mostSeen}}},
	}
}

// P14.4: what is told of a quota makes the same one.
func TestOf(t *testing.T) {
	p := with(1, 3, 2, 4)
	for i, s := range states() {
		wantState(t, fmt.Sprint("Of state ", i), quotaOf(t, p, s), 4, s)
	}
	for bits := 4; bits <= 10; bits++ {
		p := with(1, 3, 2, bits)
		q := newQuota(t, p, 3)
		come(t, q, numbered("k", 40)...)
		q.Roll(4, p)
		q.Admit("new", "m", false, false)
		wantState(t, fmt.Sprint("Of ", bits, " bits"), quotaOf(t, p, q.State()), bits, q.State())
	}
}

// P14.4: the policy of which it is made holds: its Low, its High, its Top.
func TestOfPolicy(t *testing.T) {
	open := quota.State{Now: strings.Repeat("\x00", 1024), Before: strings.Repeat("\x00", 1024)}
	q := quotaOf(t, with(1, 3, 1, 10), open)
	for i, want := range []api.Errno{api.OK, api.OK, api.ErrGate} {
		if got := q.Admit(fmt.Sprint("k", i), "m", false, false); got != want {
			t.Fatalf("of %d: %d, not %d", i, got, want)
		}
	}
	q.Admit("k0", "n", false, false)
	if items := q.State().Items; !slices.Equal(items, []top.Item{{Name: "n", Many: 2, Over: 1}}) {
		t.Fatalf("items %v", items)
	}
	for low, closed := range []bool{true, true, false, false} {
		shut := open
		shut.Closed = true
		p := with(low, 3, 1, 10)
		q := quotaOf(t, p, shut)
		come(t, q, "k1", "k2")
		if q.Roll(1, p); q.Closed() != closed {
			t.Errorf("low %d, of 2: closed %v", low, q.Closed())
		}
	}
}

// P14.4: no state of a quota, and no policy that is right.
func TestOfRefused(t *testing.T) {
	p := with(1, 3, 2, 4)
	refused := func(what string, p policy.Policy, s quota.State, want api.Errno) {
		t.Helper()
		if q, e := quota.Of(p, s); q != nil || e != want {
			t.Errorf("%s: %v %d, not %d", what, q, e, want)
		}
	}
	// Of several faults that of the policy is told.
	for _, p := range wrong() {
		for _, s := range append(states(), quota.State{}, quota.State{Window: -1}) {
			refused(fmt.Sprint(p), p, s, api.ErrArg)
		}
	}
	item := func(name string, many, over uint64) top.Item { return top.Item{Name: name, Many: many, Over: over} }
	for what, c := range map[string]struct {
		seen  uint64
		items []top.Item
	}{
		"seen less":          {2, []top.Item{item("m", 2, 0), item("n", 1, 0)}},
		"seen more":          {4, []top.Item{item("m", 2, 0), item("n", 1, 0)}},
		"seen none":          {0, []top.Item{item("m", 1, 0)}},
		"seen of none":       {1, nil},
		"a metric too long":  {1, []top.Item{item(strings.Repeat("n", longest+1), 1, 0)}},
		"no times":           {0, []top.Item{item("n", 0, 0)}},
		"over all":           {1, []top.Item{item("n", 1, 1)}},
		"over with room":     {2, []top.Item{item("n", 2, 1)}},
		"over the least":     {7, []top.Item{item("m", 5, 3), item("n", 2, 1)}},
		"out of order":       {3, []top.Item{item("m", 1, 0), item("n", 2, 0)}},
		"names out of order": {2, []top.Item{item("n", 1, 0), item("m", 1, 0)}},
		"a metric twice":     {3, []top.Item{item("m", 2, 0), item("m", 1, 0)}},
		"no room":            {3, []top.Item{item("l", 1, 0), item("m", 1, 0), item("n", 1, 0)}},
		"too many":           {mostSeen + 1, []top.Item{item("m", mostSeen, 0), item("n", 1, 0)}},
		"past 64 bits":       {0, []top.Item{item("m", math.MaxUint64, 0), item("n", 1, 0)}},
	} {
		for i, s := range states() {
			s.Seen, s.Items = c.seen, c.items
			refused(fmt.Sprint(what, " of state ", i), p, s, api.ErrForm)
		}
	}
	for i, s := range states() {
		for _, window := range []int64{-1, -2, -1 << 32, math.MinInt64} {
			s.Window = window
			refused(fmt.Sprint(window, " of state ", i), p, s, api.ErrForm)
		}
	}
	refused("nothing", p, quota.State{}, api.ErrForm)
	for _, registers := range []string{
		"", "\x00", "x", strings.Repeat("\x00", 8), strings.Repeat("\x00", 15), strings.Repeat("\x00", 17), strings.Repeat("\x00", 32), strings.Repeat("\x00", 1024), strings.Repeat("\x00", 2048),
		strings.Repeat("\x00", 15) + "\x1b", "\x1b" + strings.Repeat("\x00", 15), strings.Repeat("\xff", 16),
	} {
		for i, s := range states() {
			now, before := s, s
			now.Now, before.Before = registers, registers
			refused(fmt.Sprintf("Now of %d bytes of state %d", len(registers), i), p, now, api.ErrForm)
			refused(fmt.Sprintf("Before of %d bytes of state %d", len(registers), i), p, before, api.ErrForm)
		}
	}
	// Sketches are of the policy's bits, not only of the same ones.
	for bits := 4; bits <= 10; bits++ {
		for of := 4; of <= 10; of++ {
			zeros := strings.Repeat("\x00", 1<<bits)
			s := quota.State{Now: zeros, Before: zeros}
			if bits == of {
				wantState(t, "Of its bits", quotaOf(t, with(1, 3, 2, of), s), of, s)
			} else {
				refused(fmt.Sprintf("%d bits of a policy of %d", bits, of), with(1, 3, 2, of), s, api.ErrForm)
			}
		}
	}
}

// steps are what a short script is made of.
func steps(few, other policy.Policy) []func(t *testing.T, b *both) {
	return []func(t *testing.T, b *both){
		func(t *testing.T, b *both) { b.admit(t, "k1", "a", false, false) },
		func(t *testing.T, b *both) { b.admit(t, "k2", "b", false, true) },
		func(t *testing.T, b *both) { b.admit(t, "k3", "c", true, true) },
		func(t *testing.T, b *both) { b.roll(t, b.slow.window+1, few) },
		func(t *testing.T, b *both) { b.roll(t, b.slow.window+2, few) },
		func(t *testing.T, b *both) { b.roll(t, b.slow.window+1, other) },
		func(t *testing.T, b *both) { b.restore(t) },
		func(t *testing.T, b *both) { b.admit(t, "k4", strings.Repeat("x", 65), false, false) },
		func(t *testing.T, b *both) { b.roll(t, b.slow.window, other) },
	}
}

// P14.1 to P14.4: every short script.
func TestShortScripts(t *testing.T) {
	few, other := with(1, 2, 1, 4), with(0, 3, 2, 5)
	of := steps(few, other)
	const long = 5
	var at [long]int
	for {
		b := newBoth(t, few, 0)
		for _, step := range at {
			of[step](t, b)
		}
		place := 0
		for place < long && at[place] == len(of)-1 {
			at[place] = 0
			place++
		}
		if place == long {
			return
		}
		at[place]++
	}
}

// byChance is a policy that is right.
func byChance(r *rand.Rand) policy.Policy {
	high := r.Intn(30)
	return with(r.Intn(high+1), high, 1+r.Intn(4), 4+r.Intn(3))
}

// P14.1 to P14.4: long scripts by chance; and now and then all goes on by the
// quota that its state makes.
func TestScripts(t *testing.T) {
	for seed := range int64(300) {
		r := rand.New(rand.NewSource(seed))
		p := byChance(r)
		b := newBoth(t, p, int64(r.Intn(3)))
		for range 120 {
			switch r.Intn(24) {
			case 0:
				b.restore(t)
			case 1:
				b.roll(t, b.slow.window+int64(r.Intn(4))-1, p)
			case 2:
				if r.Intn(3) == 0 {
					p = byChance(r)
				}
				b.roll(t, b.slow.window+1, p)
			case 3:
				b.roll(t, b.slow.window+1, wrong()[r.Intn(len(wrong()))])
			case 4:
				b.admit(t, "k", strings.Repeat("x", 65+r.Intn(3)), r.Intn(2) == 0, r.Intn(2) == 0)
			default:
				b.admit(t, fmt.Sprint("k", r.Intn(40)), fmt.Sprint("m", r.Intn(6)), r.Intn(3) == 0, r.Intn(3) == 0)
			}
		}
	}
}

// P14.5: who is known is never refused, within a window the gate only closes,
// and no more than all refused divided by the room is too much of one.
func TestFollows(t *testing.T) {
	for seed := range int64(200) {
		r := rand.New(rand.NewSource(seed))
		p := byChance(r)
		q := newQuota(t, p, 0)
		refused := map[string]uint64{}
		for range 300 {
			if r.Intn(60) == 0 {
				p = byChance(r)
				q.Roll(q.Window()+1+int64(r.Intn(2)), p)
				clear(refused)
				continue
			}
			closed, known := q.Closed(), r.Intn(3) == 0
			metric := fmt.Sprint("m", r.Intn(8))
			e := q.Admit(fmt.Sprint("k", r.Intn(60)), metric, known, r.Intn(2) == 0)
			if known && e != api.OK {
				t.Fatalf("who is known: %d", e)
			}
			if closed && !q.Closed() {
				t.Fatal("opened within a window")
			}
			if e != api.OK {
				refused[metric]++
			}
			tooMuch(t, q.State(), p.Top, refused)
		}
	}
}

// tooMuch holds what is told of the refused against how often each was.
func tooMuch(t *testing.T, s quota.State, room int, refused map[string]uint64) {
	t.Helper()
	var all uint64
	for _, many := range refused {
		all += many
	}
	if s.Seen != all {
		t.Fatalf("%d seen of %d", s.Seen, all)
	}
	for _, item := range s.Items {
		came := refused[item.Name]
		if item.Over > all/uint64(room) || item.Many-came > all/uint64(room) || came > item.Many || came < item.Many-item.Over {
			t.Fatalf("%v of %d, with room for %d: it was refused %d times", item, all, room, came)
		}
	}
}

// P14.5: the gate, closed, stays so whatever comes, till a Roll that is one.
func TestOnlyCloses(t *testing.T) {
	p := with(1000000, 1000000, 2, 4)
	q := quotaOf(t, p, quota.State{Window: 5, Closed: true, Now: strings.Repeat("\x00", 16), Before: strings.Repeat("\x00", 16)})
	for i := range 100 {
		if e := q.Admit("k", "m", false, false); e != api.ErrGate || !q.Closed() {
			t.Fatalf("of %d: %d, closed %v", i, e, q.Closed())
		}
		q.Admit("k", strings.Repeat("m", 65), false, false)
		q.Roll(5, p)
		q.Roll(6, policy.Policy{})
	}
	if q.Roll(6, p); q.Closed() {
		t.Fatal("closed, of at most Low")
	}
}

// P2, P3: what is handed in is neither changed nor kept, and what is told is
// new memory.
func TestKeepsNothing(t *testing.T) {
	p := with(1, 3, 3, 4)
	p.Tiers = append(make([]int64, 0, 8), 10, 60)
	items := append(make([]top.Item, 0, 8), top.Item{Name: "a", Many: 4, Over: 3}, top.Item{Name: "b", Many: 3, Over: 2}, top.Item{Name: "c", Many: 3})
	zeros := strings.Repeat("\x00", 16)
	q := quotaOf(t, p, quota.State{Now: zeros, Before: zeros, Seen: 10, Items: items})
	was := q.State()
	for i := range 5 {
		q.Admit("k", fmt.Sprint("m", i), false, true)
	}
	for i, item := range items[:8] {
		if i < 3 && item != was.Items[i] || i >= 3 && item != (top.Item{}) {
			t.Fatalf("changed: %v", items[:8])
		}
	}
	told := q.State()
	spare := told.Items[:cap(told.Items)]
	for i := range spare {
		spare[i] = top.Item{Name: "z", Many: 99}
	}
	for i := range items {
		items[i] = top.Item{Name: "y", Many: 77}
	}
	again := q.State()
	if again.Seen != 15 || slices.ContainsFunc(again.Items, func(item top.Item) bool { return item.Name == "y" || item.Name == "z" }) {
		t.Fatalf("kept: %v of %d", again.Items, again.Seen)
	}
	q.Roll(1, p)
	p.Tiers[0], p.Tiers[1] = 0, 0
	if tiers := p.Tiers[:8]; slices.Max(tiers) != 0 {
		t.Fatalf("changed: %v", tiers)
	}
	if got := q.Roll(2, p); got != 0 {
		t.Fatalf("of a policy that is right no more: %d", got)
	}
}

// P3: a metric that is a piece of a longer text does not keep all of it.
func TestKeepsNoText(t *testing.T) {
	text := strings.Repeat("metric", 1000)
	q := newQuota(t, with(1, 3, 2, 4), 0)
	q.Admit(text, text[6:12], false, true)
	kept := q.State().Items[0].Name
	from, to := uintptr(unsafe.Pointer(unsafe.StringData(text))), uintptr(unsafe.Pointer(unsafe.StringData(kept)))
	if kept != "metric" || to >= from && to < from+uintptr(len(text)) {
		t.Errorf("%q stands in what was handed in", kept)
	}
}

// P4: what one quota does changes nothing of another, not of one that was made
// of its state either.
func TestAlone(t *testing.T) {
	p := with(1, 3, 2, 10)
	a := newQuota(t, p, 0)
	come(t, a, "k1")
	a.Admit("k2", "m", false, true)
	was := a.State()
	b := quotaOf(t, p, was)
	for i := range 9 {
		b.Admit(fmt.Sprint("n", i), fmt.Sprint("m", i), false, false)
	}
	wantState(t, "beside another", a, 10, was)
	b.Roll(1, with(5, 6, 3, 4))
	wantState(t, "beside another", a, 10, was)
	is := b.State()
	a.Admit("k3", "m", false, false)
	a.Roll(7, p)
	wantState(t, "beside another", b, 4, is)
}
