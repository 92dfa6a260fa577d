package gate_test

import (
	"fmt"
	"math"
	"math/rand"
	"slices"
	"testing"

	"scantling/gate"
)

const most = math.MaxUint64

// edges are numbers of which each stands below, at, or above others, by one or
// by much; those above 2^63 would be below 0, if they were taken with a sign.
var edges = []uint64{0, 1, 2, 3, 7, 8, 9, 999999, 1000000, 1000001, 1<<32 - 1, 1 << 32, 1<<32 + 1, 1<<63 - 1, 1 << 63, 1<<63 + 1, most - 1, most}

// open and closed are gates by hand, Low above High or not.
func open(low, high uint64) gate.Gate   { return gate.Gate{Low: low, High: high} }
func closed(low, high uint64) gate.Gate { return gate.Gate{Closed: true, Low: low, High: high} }

// eachGate calls with every gate of edges, such too as New never gives out.
func eachGate(call func(g gate.Gate)) {
	for _, low := range edges {
		for _, high := range edges {
			call(open(low, high))
			call(closed(low, high))
		}
	}
}

func want(t *testing.T, what string, got, wanted gate.Gate) {
	t.Helper()
	if got != wanted {
		t.Fatalf("%s: %v, not %v", what, got, wanted)
	}
}

// P13.1: a new gate is open, and its Low at most its High.
func TestNew(t *testing.T) {
	for _, c := range []struct{ low, high, wantLow uint64 }{
		{1, 2, 1}, {0, 0, 0}, {0, 1, 0}, {5, 5, 5}, {32, 64, 32}, {0, most, 0}, {most, most, most}, {most - 1, most, most - 1}, // as they are
		{6, 5, 5}, {1, 0, 0}, {99, 5, 5}, {most, 0, 0}, {most, 1, 1}, {most, most - 1, most - 1}, {1 << 63, 1, 1}, // Low is above
	} {
		want(t, fmt.Sprintf("New(%d, %d)", c.low, c.high), gate.New(c.low, c.high), open(c.wantLow, c.high))
	}
	for _, low := range edges {
		for _, high := range edges {
			wanted := open(low, high)
			if low > high {
				wanted.Low = high
			}
			want(t, fmt.Sprintf("New(%d, %d)", low, high), gate.New(low, high), wanted)
		}
	}
}

// P13.1: at High, not below it, what is seen closes the gate.
func TestSee(t *testing.T) {
	for _, c := range []struct {
		g, wanted gate.Gate
		many      uint64
	}{
		{gate.New(1, 2), closed(1, 2), 2}, // the example of the document
		{open(1, 2), open(1, 2), 0}, {open(1, 2), open(1, 2), 1}, {open(1, 2), closed(1, 2), 3}, {open(1, 2), closed(1, 2), most},
		{closed(1, 2), closed(1, 2), 0}, {closed(1, 2), closed(1, 2), 1}, {closed(1, 2), closed(1, 2), 2}, // closed it stays
		{open(0, 0), closed(0, 0), 0}, {open(0, 0), closed(0, 0), 1}, {gate.Gate{}, closed(0, 0), 0}, // of High 0 any number is enough
		{open(3, 3), open(3, 3), 2}, {open(3, 3), closed(3, 3), 3},
		{open(0, most), open(0, most), most - 1}, {open(0, most), closed(0, most), most},
		{open(0, 1<<63), open(0, 1<<63), 1<<63 - 1}, {open(0, 1), closed(0, 1), 1 << 63},
		{open(9, 5), open(9, 5), 4}, {open(9, 5), closed(9, 5), 5}, {open(9, 5), closed(9, 5), 7}, {closed(9, 5), closed(9, 5), 4}, // Low is left as it is
	} {
		want(t, fmt.Sprintf("%v.See(%d)", c.g, c.many), c.g.See(c.many), c.wanted)
	}
}

// P13.1: a turn opens the gate, but one that is closed when many are above Low.
func TestTurn(t *testing.T) {
	for _, c := range []struct {
		g, wanted gate.Gate
		many      uint64
	}{
		{closed(3, 5), open(3, 5), 0}, {closed(3, 5), open(3, 5), 2}, {closed(3, 5), open(3, 5), 3},
		{closed(3, 5), closed(3, 5), 4}, {closed(3, 5), closed(3, 5), 5}, {closed(3, 5), closed(3, 5), 6}, {closed(3, 5), closed(3, 5), most},
		{open(3, 5), open(3, 5), 0}, {open(3, 5), open(3, 5), 4}, {open(3, 5), open(3, 5), 5}, {open(3, 5), open(3, 5), most}, // an open one is not closed
		{closed(0, 0), open(0, 0), 0}, {closed(0, 0), closed(0, 0), 1}, {closed(0, 5), open(0, 5), 0}, {closed(0, 5), closed(0, 5), 1},
		{closed(5, 5), open(5, 5), 5}, {closed(5, 5), closed(5, 5), 6}, // at High, but not above Low
		{closed(most, most), open(most, most), most}, {closed(most-1, most), closed(most-1, most), most}, {closed(1, 2), closed(1, 2), 1 << 63},
		{closed(9, 5), open(9, 5), 5}, {closed(9, 5), open(9, 5), 7}, {closed(9, 5), open(9, 5), 9}, {closed(9, 5), closed(9, 5), 10}, {open(9, 5), open(9, 5), 10},
	} {
		want(t, fmt.Sprintf("%v.Turn(%d)", c.g, c.many), c.g.Turn(c.many), c.wanted)
	}
}

// P13.1: what is set is as of New, but whether the gate is closed stays.
func TestSet(t *testing.T) {
	for _, c := range []struct {
		g, wanted gate.Gate
		low, high uint64
	}{
		{open(3, 5), open(1, 2), 1, 2}, {closed(3, 5), closed(1, 2), 1, 2},
		{open(3, 5), open(6, 6), 7, 6}, {closed(3, 5), closed(6, 6), 7, 6}, // Low is above
		{open(3, 5), open(3, 5), 3, 5}, {closed(3, 5), closed(3, 5), 3, 5},
		{open(3, 5), open(0, 0), 0, 0}, {closed(3, 5), closed(0, most), 0, most}, {closed(3, 5), closed(0, 0), most, 0},
		{open(9, 5), open(3, 5), 3, 5}, {closed(9, 5), closed(5, 5), 9, 5}, {gate.Gate{}, open(32, 64), 32, 64},
	} {
		want(t, fmt.Sprintf("%v.Set(%d, %d)", c.g, c.low, c.high), c.g.Set(c.low, c.high), c.wanted)
	}
}

// P13.1, P1: every call, at every gate, by the words of the document; the gate
// at which it is made stays as it was.
func TestOfAnyGate(t *testing.T) {
	eachGate(func(g gate.Gate) {
		was := g
		for _, many := range edges {
			seen, turned := open(g.Low, g.High), open(g.Low, g.High)
			if g.Closed || !(many < g.High) {
				seen.Closed = true
			}
			if g.Closed && !(many <= g.Low) {
				turned.Closed = true
			}
			want(t, fmt.Sprintf("%v.See(%d)", g, many), g.See(many), seen)
			want(t, fmt.Sprintf("%v.Turn(%d)", g, many), g.Turn(many), turned)
		}
		for _, high := range edges {
			for _, low := range edges {
				set := gate.New(low, high)
				set.Closed = g.Closed
				want(t, fmt.Sprintf("%v.Set(%d, %d)", g, low, high), g.Set(low, high), set)
			}
		}
		want(t, "a gate that was asked", g, was)
	})
}

// P13.1: nothing is another gate when the same is seen, turned, or set again.
func TestTwice(t *testing.T) {
	eachGate(func(g gate.Gate) {
		for _, many := range edges {
			want(t, fmt.Sprintf("%v.See(%d) twice", g, many), g.See(many).See(many), g.See(many))
			want(t, fmt.Sprintf("%v.Turn(%d) twice", g, many), g.Turn(many).Turn(many), g.Turn(many))
			want(t, fmt.Sprintf("%v.Set(%d, 8) twice", g, many), g.Set(many, 8).Set(many, 8), g.Set(many, 8))
		}
	})
}

// step is one call at a gate: see and turn have a number, set two.
type step struct {
	kind      string
	many, low uint64
}

func (s step) of(g gate.Gate) gate.Gate {
	switch s.kind {
	case "see":
		return g.See(s.many)
	case "turn":
		return g.Turn(s.many)
	}
	return g.Set(s.low, s.many)
}

// wantScript holds P13.2 at each step: the gate closes where High are seen, and
// opens at a turn of at most Low, and at no other step is it another one.
func wantScript(t *testing.T, steps []step) {
	t.Helper()
	g := gate.New(2, 4)
	for i, s := range steps {
		was := g
		g = s.of(g)
		closes := s.kind == "see" && s.many >= was.High
		opens := s.kind == "turn" && s.many <= was.Low
		isClosed := was.Closed
		if closes || opens {
			isClosed = closes
		}
		if g.Closed != isClosed {
			t.Fatalf("step %d of %v: %v of %v", i, steps, g, was)
		}
		if s.kind != "set" && (g.Low != was.Low || g.High != was.High) {
			t.Fatalf("step %d of %v: %v of %v", i, steps, g, was)
		}
		if s.kind == "set" && (g.High != s.many || g.Low != min(s.low, s.many)) {
			t.Fatalf("step %d of %v: %v of %v", i, steps, g, was)
		}
	}
}

// P13.2: between two turns it only closes, whatever is seen or set.
func TestBetweenTurnsItOnlyCloses(t *testing.T) {
	eachGate(func(g gate.Gate) {
		if !g.Closed {
			return
		}
		for _, many := range edges {
			for _, other := range edges {
				if got := g.See(many).Set(many, other).See(other).Set(other, many).See(0); !got.Closed {
					t.Fatalf("%v is open after %d and %d", g, many, other)
				}
			}
		}
	})
}

// P13.2: it opens at a turn alone, at most Low; what counts is the Low that holds.
func TestOpensAtATurnAlone(t *testing.T) {
	g := gate.New(3, 5).See(5)
	for _, many := range []uint64{4, 0, 3, 5, 0} {
		g = g.See(many)
		want(t, "between two turns", g, closed(3, 5))
	}
	want(t, "a turn of more than Low", g.Turn(4), closed(3, 5))
	want(t, "a turn of Low", g.Turn(3), open(3, 5))
	want(t, "a turn of a higher Low", g.Set(4, 5).Turn(4), open(4, 5))
	want(t, "a turn of a lower Low", g.Set(2, 5).Turn(3), closed(2, 5))
	want(t, "a turn of a Low that was above High", g.Set(9, 4).Turn(5), closed(4, 4))
	g = g.Turn(3)
	want(t, "of few again", g.See(4), open(3, 5))
	want(t, "of many again", g.See(4).See(5), closed(3, 5))
	want(t, "turns one behind the other", g.See(6).Turn(6).Turn(5).Turn(4).See(0).Turn(3).Turn(9), open(3, 5))
}

// P13.2: all scripts of few steps.
func TestAllShortScripts(t *testing.T) {
	var all []step
	for many := range uint64(6) {
		all = append(all, step{kind: "see", many: many}, step{kind: "turn", many: many}, step{kind: "set", many: many, low: 3})
	}
	scripts := [][]step{nil}
	for range 4 {
		var longer [][]step
		for _, script := range scripts {
			for _, s := range all {
				longer = append(longer, append(slices.Clone(script), s))
			}
		}
		scripts = longer
	}
	for _, script := range scripts {
		wantScript(t, script)
	}
}

// P13.2: long scripts by chance, of small and of great numbers.
func TestByChance(t *testing.T) {
	chance := rand.New(rand.NewSource(131))
	number := func() uint64 {
		if chance.Intn(8) == 0 {
			return edges[chance.Intn(len(edges))]
		}
		return uint64(chance.Intn(8))
	}
	for range 2000 {
		var script []step
		for range 100 {
			kind := []string{"see", "see", "see", "turn", "turn", "set"}[chance.Intn(6)]
			script = append(script, step{kind: kind, many: number(), low: number()})
		}
		wantScript(t, script)
	}
}

// P4: gates to which the same was done are the same, whichever way they came.
func TestSameAgain(t *testing.T) {
	want(t, "closed and opened", gate.New(1, 2).See(2).Turn(1), gate.New(1, 2))
	want(t, "set and set back", gate.New(1, 2).Set(9, 7).Set(1, 2), gate.New(1, 2))
	want(t, "closed by another number", gate.New(1, 2).See(2), gate.New(1, 2).See(99))
	gates := map[gate.Gate]int{}
	for range 2 {
		for _, high := range edges {
			gates[gate.New(high, high).See(high)]++
		}
	}
	for g, many := range gates {
		if many != 2 || !g.Closed {
			t.Errorf("%v came %d times", g, many)
		}
	}
}
