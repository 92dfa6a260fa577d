package policy_test

import (
	"encoding/binary"
	"fmt"
	"math"
	"math/rand"
	"reflect"
	"regexp"
	"slices"
	"strconv"
	"strings"
	"testing"

	"scantling/api"
	"scantling/policy"
)

const (
	putBase  = "\x00\x00\x00\x00\x00\x00\x00\x40\x00\x00\x00\x00\x00\x00\x00\x20\x00\x00\x00\x00\x00\x00\x00\x40\x00\x00\x00\x00\x00\x00\x00\x08\x00\x00\x00\x00\x00\x00\x00\x06\x00\x00\x00\x00\x00\x00\x00\x02\x00\x00\x00\x00\x00\x00\x00\x02\x00\x00\x00\x00\x00\x00\x00\x3c\x00\x00\x00\x00\x00\x00\x00\x1e\x00\x00\x00\x00\x00\x00\x00\x05\x02\x00\x00\x00\x00\x00\x00\x00\x0a\x00\x00\x00\x00\x00\x00\x00\x3c"
	textBase = "slots=64 low=32 high=64 top=8 sketch=6 fine=2 idle=2 window=60 late=30 future=5 tiers=10/60"

	longest   = 1000000000
	headBytes = 81 // of what is put: ten numbers, and the byte of how many tiers
)

// kind is a number of a policy, and what the document lets it be.
type kind struct {
	name        string
	least, most int64
}

var kinds = []kind{
	{"slots", 1, 256}, {"low", 0, 1000000}, {"high", 0, 1000000}, {"top", 1, 16}, {"sketch", 4, 10}, {"fine", 0, 4}, {"idle", 1, 100},
	{"window", 1, longest}, {"late", 0, longest}, {"future", 0, longest},
}

// rightTiers may be tiers, wrongTiers not.
var (
	rightTiers = [][]int64{
		{1}, {2}, {7}, {10}, {longest}, {longest - 1}, {1, 2}, {1, longest}, {5, 10}, {7, 21}, {10, 60}, {500000000, longest}, {1, 999999999},
		{1, 2, 4}, {1, 5, 10}, {3, 6, 12}, {2, 6, 18}, {10, 60, 3600}, {250000000, 500000000, longest}, {1, 2, longest}, {1, 500000000, longest},
	}
	wrongTiers = [][]int64{
		nil, {}, {0}, {-1}, {-10}, {longest + 1}, {1 << 32}, {1<<32 + 10}, {math.MaxInt64}, {math.MinInt64},
		{0, 5}, {5, 0}, {0, 0}, {10, 10}, {10, 5}, {10, 15}, {10, 9}, {10, 11}, {10, 19}, {10, 21}, {60, 10}, {1, 1}, {1, 0}, {-5, 10}, {5, -10}, {-10, -5}, {-5, 5},
		{1, longest + 1}, {500000001, 1000000002}, {1, 1 << 32}, {2, math.MaxInt64 - 1}, {math.MinInt64, -1}, {-1, math.MinInt64}, {1, math.MinInt64}, {math.MinInt64, math.MinInt64},
		{1, 2, 3}, {1, 2, 2}, {2, 2, 4}, {1, 2, 1}, {4, 2, 1}, {2, 3, 6}, {2, 4, 7}, {4, 8, 12}, {6, 12, 18}, {2, 4, 0}, {2, 4, -8}, {0, 2, 4}, {2, 0, 4}, {-2, 2, 4}, {2, -2, 4}, {1, 2, longest + 2}, {500000000, longest, 2 * longest},
		{1, 2, 4, 8}, {1, 2, 4, 0}, {10, 60, 3600, 86400}, {1, 2, 4, 8, 16}, {1, 1, 1, 1},
	}
)

// with is p, but for the number of that name.
func with(p policy.Policy, name string, n int64) policy.Policy {
	at := reflect.ValueOf(&p).Elem().FieldByName(strings.ToUpper(name[:1]) + name[1:])
	at.SetInt(n)
	return p
}

// numberOf is the number of p of that name.
func numberOf(p policy.Policy, name string) int64 {
	return reflect.ValueOf(p).FieldByName(strings.ToUpper(name[:1]) + name[1:]).Int()
}

func withTiers(p policy.Policy, tiers ...int64) policy.Policy {
	p.Tiers = tiers
	return p
}

// slowRight is Right, by the words of the document.
func slowRight(p policy.Policy) bool {
	for _, k := range kinds {
		if n := numberOf(p, k.name); n < k.least || n > k.most {
			return false
		}
	}
	if p.Low > p.High || len(p.Tiers) < 1 || len(p.Tiers) > 3 {
		return false
	}
	ahead := int64(0)
	for _, tier := range p.Tiers {
		if tier < 1 || tier > longest || tier <= ahead || ahead > 0 && tier/ahead*ahead != tier {
			return false
		}
		ahead = tier
	}
	return true
}

// slowText is Text, by the words of the document.
func slowText(p policy.Policy) string {
	tiers := strings.Trim(strings.ReplaceAll(fmt.Sprint(p.Tiers), " ", "/"), "[]")
	return fmt.Sprintf("slots=%d low=%d high=%d top=%d sketch=%d fine=%d idle=%d window=%d late=%d future=%d tiers=%s",
		p.Slots, p.Low, p.High, p.Top, p.Sketch, p.Fine, p.Idle, p.Window, p.Late, p.Future, tiers)
}

// slowPut is Put of what is right, by the words of the document.
func slowPut(p policy.Policy) string {
	var out []byte
	for _, k := range kinds {
		out = binary.BigEndian.AppendUint64(out, uint64(numberOf(p, k.name)))
	}
	out = append(out, byte(len(p.Tiers)))
	for _, tier := range p.Tiers {
		out = binary.BigEndian.AppendUint64(out, uint64(tier))
	}
	return string(out)
}

var wordForm = regexp.MustCompile(`^(slots|low|high|top|sketch|fine|idle|window|late|future|tiers)=(-?[0-9]{1,19}(?:/-?[0-9]{1,19})*)$`)

// slowRead is Read, by the words of the document.
func slowRead(s string) (policy.Policy, api.Errno) {
	p, told := policy.Base(), map[string]int{}
	for _, word := range strings.Split(s, " ") {
		if s == "" {
			break
		}
		parts := wordForm.FindStringSubmatch(word)
		if parts == nil || told[parts[1]] > 0 {
			return policy.Policy{}, api.ErrForm
		}
		told[parts[1]]++
		var numbers []int64
		for _, digits := range strings.Split(parts[2], "/") {
			n, err := strconv.ParseInt(digits, 10, 64)
			if err != nil {
				return policy.Policy{}, api.ErrForm
			}
			numbers = append(numbers, n)
		}
		switch {
		case parts[1] == "tiers":
			p.Tiers = numbers
		case len(numbers) > 1:
			return policy.Policy{}, api.ErrForm
		default:
			p = with(p, parts[1], numbers[0])
		}
	}
	if !slowRight(p) {
		return policy.Policy{}, api.ErrArg
	}
	return p, api.OK
}

// isNothing tells whether p is the zero value.
func isNothing(p policy.Policy) bool {
	tiers := len(p.Tiers)
	p.Tiers = nil
	return tiers == 0 && reflect.DeepEqual(p, policy.Policy{})
}

func wantRead(t *testing.T, s string, want policy.Policy) {
	t.Helper()
	if got, e := policy.Read(s); slowText(got) != slowText(want) || e != api.OK {
		t.Errorf("Read(%.200q): %v %d, not %v", s, got, e, want)
	}
}

func wantNoRead(t *testing.T, s string, want api.Errno) {
	t.Helper()
	if got, e := policy.Read(s); !isNothing(got) || e != want {
		t.Errorf("Read(%.200q): %v %d, not %d", s, got, e, want)
	}
}

func wantNoGet(t *testing.T, s string) {
	t.Helper()
	if got, rest, ok := policy.Get(s); !isNothing(got) || rest != "" || ok {
		t.Errorf("Get(%.300q): %v %q %t", s, got, rest, ok)
	}
}

// wantTold holds all that is told of a right p, and that it is read as it was.
func wantTold(t *testing.T, p policy.Policy) {
	t.Helper()
	if !policy.Right(p) {
		t.Errorf("%v is not right", p)
	}
	text := policy.Text(p)
	if want := slowText(p); text != want {
		t.Errorf("Text: %q, not %q", text, want)
	}
	wantRead(t, text, p)
	put, ok := policy.Put(p)
	if want := slowPut(p); put != want || !ok {
		t.Errorf("Put(%v): %q %t, not %q", p, put, ok, want)
	}
	for _, behind := range []string{"", "\x00", "more", "\x03" + put} {
		if got, rest, ok := policy.Get(put + behind); !policy.Same(got, p) || slowText(got) != text || rest != behind || !ok {
			t.Errorf("Get of what was put of %v: %v %q %t", p, got, rest, ok)
		}
	}
}

// wantWrong holds all that is told of a p that is not right.
func wantWrong(t *testing.T, p policy.Policy) {
	t.Helper()
	if policy.Right(p) {
		t.Errorf("%v is right", p)
	}
	text := policy.Text(p)
	if want := slowText(p); text != want {
		t.Errorf("Text: %q, not %q", text, want)
	}
	if len(p.Tiers) > 0 {
		wantNoRead(t, text, api.ErrArg)
	} else {
		wantNoRead(t, text, api.ErrForm)
	}
	if put, ok := policy.Put(p); put != "" || ok {
		t.Errorf("Put(%v): %q %t", p, put, ok)
	}
	if len(p.Tiers) < 256 {
		wantNoGet(t, slowPut(p))
		wantNoGet(t, slowPut(p)+"more")
	}
}

// rightOne is some right policy, often at the edge of what may be.
func rightOne(chance *rand.Rand) policy.Policy {
	var p policy.Policy
	for _, k := range kinds {
		n := k.least + chance.Int63n(k.most-k.least+1)
		switch chance.Intn(4) {
		case 0:
			n = k.least
		case 1:
			n = k.most
		}
		p = with(p, k.name, n)
	}
	p.Low, p.High = min(p.Low, p.High), max(p.Low, p.High)
	for tier := 1 + chance.Int63n(100); len(p.Tiers) < 3 && tier <= longest; tier *= 2 + chance.Int63n(40000) {
		p.Tiers = append(p.Tiers, tier)
		if chance.Intn(3) == 0 {
			break
		}
	}
	return p
}

// P12.1: what a policy is of which nothing is said.
func TestBase(t *testing.T) {
	want := policy.Policy{Slots: 64, Low: 32, High: 64, Top: 8, Sketch: 6, Fine: 2, Idle: 2, Window: 60, Late: 30, Future: 5, Tiers: []int64{10, 60}}
	if got := policy.Base(); !reflect.DeepEqual(got, want) {
		t.Errorf("%v, not %v", got, want)
	}
	wantTold(t, policy.Base())
	if text := policy.Text(policy.Base()); text != textBase {
		t.Errorf("%q", text)
	}
	if put, ok := policy.Put(policy.Base()); put != putBase || !ok {
		t.Errorf("%q %t", put, ok)
	}
}

// P12.1, P12.2, P12.3: the least and the most of each number, and what is beyond.
func TestBoundsOfNumbers(t *testing.T) {
	for _, k := range kinds {
		p := policy.Base()
		p.Low, p.High = 0, 1000000
		for _, n := range []int64{k.least, k.least + 1, (k.least + k.most) / 2, k.most - 1, k.most} {
			wantTold(t, with(p, k.name, n))
		}
		for _, n := range []int64{
			k.least - 1, k.least - 2, k.most + 1, k.most + 2, -k.most, -100, 2 * longest, 1 << 31, -1 << 31,
			1 << 32, 1<<32 + k.least, 1<<32 + k.most, -1<<32 + k.most, 1 << 40, 1 << 62, 1<<62 + k.most,
			math.MaxInt64, math.MaxInt64 - 1, math.MinInt64, math.MinInt64 + 1, math.MinInt64 + k.most,
		} {
			wantWrong(t, with(p, k.name, n))
		}
	}
}

// P12.1: Low is at most High.
func TestLowAndHigh(t *testing.T) {
	edges := []int{math.MinInt, -1000000, -1, 0, 1, 2, 31, 32, 33, 999999, 1000000, 1000001, math.MaxInt}
	for _, low := range edges {
		for _, high := range edges {
			p := policy.Base()
			p.Low, p.High = low, high
			if 0 <= low && low <= high && high <= 1000000 {
				wantTold(t, p)
			} else {
				wantWrong(t, p)
			}
		}
	}
}

// P12.1: how many tiers there are, and what they are to each other.
func TestTiers(t *testing.T) {
	for _, tiers := range rightTiers {
		wantTold(t, withTiers(policy.Base(), tiers...))
	}
	for _, tiers := range wrongTiers {
		wantWrong(t, withTiers(policy.Base(), tiers...))
	}
	for _, many := range []int{4, 100, 255, 256, 257, 258, 259, 1000, 65537} {
		wantWrong(t, withTiers(policy.Base(), slices.Repeat([]int64{1}, many)...))
		tiers := append([]int64{1, 2, 4}, make([]int64, many-3)...)
		wantWrong(t, withTiers(policy.Base(), tiers...))
	}
}

// P12.1: of nothing a policy is not right, and one fault is enough.
func TestWrong(t *testing.T) {
	wantWrong(t, policy.Policy{})
	wantWrong(t, policy.Policy{Tiers: []int64{10}})
	chance := rand.New(rand.NewSource(121))
	for range 300 {
		p := rightOne(chance)
		wantWrong(t, withTiers(p, wrongTiers[chance.Intn(len(wrongTiers))]...))
		k := kinds[chance.Intn(len(kinds))]
		wantWrong(t, with(p, k.name, k.least-1-chance.Int63n(1000)))
		wantWrong(t, with(p, k.name, k.most+1+chance.Int63n(1000)))
	}
}

// P12.1: two are the same, if all numbers are, right or not.
func TestSame(t *testing.T) {
	hold := func(a, b policy.Policy, want bool) {
		t.Helper()
		if policy.Same(a, b) != want || policy.Same(b, a) != want {
			t.Errorf("%v and %v: not %t", a, b, want)
		}
	}
	nothing := policy.Policy{}
	for _, p := range []policy.Policy{policy.Base(), nothing, withTiers(policy.Base()), withTiers(nothing, 0)} {
		hold(p, p, true)
		hold(p, withTiers(p, slices.Clone(p.Tiers)...), true)
		for _, k := range kinds {
			n := numberOf(p, k.name)
			for _, other := range []int64{n + 1, n - 1, -n - 1, n + 1<<32, n + math.MinInt64, math.MaxInt64, math.MinInt64} {
				hold(p, with(p, k.name, other), false)
				hold(with(p, k.name, other), with(p, k.name, other), true)
			}
			for _, k2 := range kinds {
				if k2 != k {
					hold(with(p, k.name, 1001), with(p, k2.name, 1001), false)
				}
			}
		}
		for i, one := range append(rightTiers, wrongTiers[2:]...) {
			for j, other := range append(rightTiers, wrongTiers[2:]...) {
				hold(withTiers(p, one...), withTiers(p, other...), i == j)
			}
			hold(withTiers(p, one...), withTiers(p), false)
			hold(withTiers(p, one...), withTiers(p, append(slices.Clone(one), 0)...), false)
		}
	}
	hold(policy.Base(), nothing, false)
	empty := policy.Base()
	empty.Tiers = []int64{}
	hold(empty, withTiers(policy.Base()), true)
}

// P12.2: what is told of a policy, whatever it is.
func TestText(t *testing.T) {
	for want, p := range map[string]policy.Policy{
		"slots=0 low=0 high=0 top=0 sketch=0 fine=0 idle=0 window=0 late=0 future=0 tiers=": {},
		"slots=1 low=2 high=3 top=4 sketch=5 fine=6 idle=7 window=8 late=9 future=10 tiers=11/12/13/14": {
			Slots: 1, Low: 2, High: 3, Top: 4, Sketch: 5, Fine: 6, Idle: 7, Window: 8, Late: 9, Future: 10, Tiers: []int64{11, 12, 13, 14}},
		"slots=-1 low=-2 high=-3 top=-4 sketch=-5 fine=-6 idle=-7 window=-8 late=-9 future=-10 tiers=-11/0/-13": {
			Slots: -1, Low: -2, High: -3, Top: -4, Sketch: -5, Fine: -6, Idle: -7, Window: -8, Late: -9, Future: -10, Tiers: []int64{-11, 0, -13}},
		"slots=9223372036854775807 low=-9223372036854775808 high=0 top=0 sketch=0 fine=0 idle=0 window=-9223372036854775808 late=0 future=9223372036854775807 tiers=-9223372036854775808": {
			Slots: math.MaxInt, Low: math.MinInt, Window: math.MinInt64, Future: math.MaxInt64, Tiers: []int64{math.MinInt64}},
	} {
		if got := policy.Text(p); got != want {
			t.Errorf("%q, not %q", got, want)
		}
	}
}

// P12.2: what is not told is as Base, and words stand in any order.
func TestRead(t *testing.T) {
	base := policy.Base()
	wantRead(t, "", base)
	wantRead(t, textBase, base)
	wantRead(t, "slots=2 low=1 high=2", with(with(with(base, "slots", 2), "low", 1), "high", 2))
	wantRead(t, "tiers=1/5/10", withTiers(base, 1, 5, 10))
	wantRead(t, "tiers=7", withTiers(base, 7))
	wantRead(t, "future=0 tiers=2/4 slots=256", withTiers(with(with(base, "future", 0), "slots", 256), 2, 4))
	wantRead(t, "high=100 low=65", with(with(base, "high", 100), "low", 65))
	wantRead(t, "low=65 high=100", with(with(base, "high", 100), "low", 65))
	for _, k := range kinds {
		for _, n := range []int64{k.least, k.least + 1, k.most} {
			want, rightE := with(base, k.name, n), api.OK
			if !slowRight(want) {
				want, rightE = policy.Policy{}, api.ErrArg
			}
			if got, e := policy.Read(fmt.Sprintf("%s=%d", k.name, n)); slowText(got) != slowText(want) || e != rightE {
				t.Errorf("%s=%d: %v %d", k.name, n, got, e)
			}
		}
	}
	chance := rand.New(rand.NewSource(122))
	words := strings.Split("slots=3 low=7 high=9 top=2 sketch=5 fine=1 idle=4 window=11 late=12 future=13 tiers=6/18/36", " ")
	for range 500 {
		chance.Shuffle(len(words), func(i, j int) { words[i], words[j] = words[j], words[i] })
		wantRead(t, strings.Join(words, " "), policy.Policy{Slots: 3, Low: 7, High: 9, Top: 2, Sketch: 5, Fine: 1, Idle: 4, Window: 11, Late: 12, Future: 13, Tiers: []int64{6, 18, 36}})
	}
}

// P12.2: needless zeros ahead, and -0, may be.
func TestReadZeros(t *testing.T) {
	base := policy.Base()
	wantRead(t, "high=0000000000000000077", with(base, "high", 77))
	wantRead(t, "slots=007 late=000 tiers=010/0060", withTiers(with(with(base, "slots", 7), "late", 0), 10, 60))
	for _, zero := range []string{"0", "-0", "00", "-00", "0000000000000000000", "-0000000000000000000"} {
		wantRead(t, "low="+zero+" fine="+zero+" future="+zero, with(with(with(base, "low", 0), "fine", 0), "future", 0))
		wantNoRead(t, "low="+zero+"0000000000000000000", api.ErrForm)
		wantNoRead(t, "slots="+zero, api.ErrArg)
		wantNoRead(t, "tiers="+zero, api.ErrArg)
		wantNoRead(t, "tiers=1/"+zero, api.ErrArg)
	}
}

// P12.2: texts that are none.
func TestReadNoForm(t *testing.T) {
	for _, s := range []string{
		" ", "  ", " slots=1", "slots=1 ", "slots=1  low=1", "\n", "slots=1\n", "slots=1\tlow=1", "slots=1\nlow=1", "slots=1,low=1", "\x00", "slots=1\x00", "\u00a0", "slots=1\u00a0low=1",
		"x", "x=1", "slots", "slots 1", "slots=", "=", "=1", "==", "slots==1", "slots=1=1", "slots= 1", "slots =1", "Slots=1", "SLOTS=1", "slot=1", "slotss=1", "xslots=1", "slots=1x", "slots=x", "slots:1", "slots=one", "tier=1", "tiers", "windows=1",
		"slots=+1", "slots=1.0", "slots=1.", "slots=.1", "slots=1e1", "slots=--1", "slots=-", "slots=- 1", "slots=0x1", "slots=1_0", "slots=\uff11", "slots=\u0661", `slots=\1`, `slots="1"`, "slots=1/2", "slots=1/", "slots=/1", "window=10/60", "late=/", "low=1/1",
		"slots=9223372036854775808", "slots=-9223372036854775809", "window=9999999999999999999", "slots=00000000000000000001", "slots=18446744073709551617", "tiers=1/9223372036854775808", "tiers=9223372036854775808/1",
		"tiers=", "tiers=/", "tiers=//", "tiers=1/", "tiers=/1", "tiers=1//2", "tiers=1/x", "tiers=x/1", "tiers=1/2/", "tiers=1/2/x", "tiers=1,2", "tiers=1/ 2", "tiers=1 /2", "tiers=1/+2", "tiers=1/2.0", "tiers=1/-", "tiers=1/2/4/", "tiers=1/2/4/x", "tiers=1|2", "tiers=10-60", `tiers=1\2`,
		"slots=1 slots=1", "slots=1 slots=2", "tiers=1 tiers=1", "tiers=10/60 tiers=10/60", "slots=1 low=1 slots=1", "low=1 slots=1 high=2 slots=1", "slots=1 slots", "slots=1 slots=", "slots=1 x", "x slots=1", "slots=1 =", "slots=1 1", "slots=1 low", textBase + " slots=64", textBase + " tiers=10/60", textBase + " ", " " + textBase, textBase + " " + textBase, textBase + " x=1",
	} {
		wantNoRead(t, s, api.ErrForm)
	}
	for _, k := range kinds {
		for _, s := range []string{"N", "N=", "N=x", "N=+5", "N=5.0", "N=5/5", "N=5 N=5", "N=5 fine=x N=5", "N=5 x=5", "xN=5", "Nx=5", "N5", "n=5", "N=99999999999999999999", "N=9223372036854775808"} {
			wantNoRead(t, strings.ReplaceAll(s, "N", k.name), api.ErrForm)
		}
	}
	for b := range 256 {
		s := string([]byte{byte(b)})
		if b < '0' || b > '9' {
			wantNoRead(t, "slots=1"+s, api.ErrForm)
			wantNoRead(t, "tiers=10"+s, api.ErrForm)
			wantNoRead(t, s, api.ErrForm)
		}
		if s != " " {
			wantNoRead(t, "slots=1"+s+"low=1", api.ErrForm)
		}
	}
}

// P12.2: words that are as they must be, but tell what is not right.
func TestReadNotRight(t *testing.T) {
	for _, s := range []string{
		"slots=0", "slots=-1", "slots=257", "slots=300", "low=65", "low=-1", "high=31", "high=1000001", "top=0", "top=17", "sketch=3", "sketch=11", "fine=-1", "fine=5", "idle=0", "idle=101",
		"window=0", "window=1000000001", "late=-1", "late=1000000001", "future=-1", "future=1000000001", "tiers=0", "tiers=1000000001", "tiers=10/15", "tiers=10/10", "tiers=10/5", "tiers=1/2/4/8", "tiers=-1/1",
		"slots=9223372036854775807", "slots=-9223372036854775808", "slots=4294967297", "window=-9223372036854775808", "tiers=-9223372036854775808/-1", "tiers=1/9223372036854775807",
		"slots=0 low=1", "low=1 slots=0", textBase[:len(textBase)-1], strings.Replace(textBase, "low=32", "low=65", 1),
	} {
		wantNoRead(t, s, api.ErrArg)
	}
	// That it is none is told ahead, wherever that shows.
	for _, s := range []string{"slots=300 x", "x slots=300", "slots=0 slots=0", "slots=0 slots=1", "slots=0 ", "low=65 high=x", "high=x low=65", "tiers=1/2/4/8/x", "tiers=10/15 tiers=1", "tiers=0 slots", "slots=300 tiers=", "fine=9 slots=99999999999999999999"} {
		wantNoRead(t, s, api.ErrForm)
	}
}

// P12.2: texts of any length come to an end.
func TestReadLong(t *testing.T) {
	const many = 1 << 20
	wantNoRead(t, strings.Repeat(" ", many), api.ErrForm)
	wantNoRead(t, strings.Repeat("slots=1 ", many), api.ErrForm)
	wantNoRead(t, strings.Repeat("x", many), api.ErrForm)
	wantNoRead(t, "slots="+strings.Repeat("0", many)+"1", api.ErrForm)
	wantNoRead(t, "tiers="+strings.Repeat("1/", many)+"1", api.ErrArg)
	wantNoRead(t, "tiers="+strings.Repeat("1/", many), api.ErrForm)
	wantNoRead(t, "slots="+strings.Repeat("1/", many)+"1", api.ErrForm)
}

// P12.2: texts by chance, near to those that are read.
func TestReadTexts(t *testing.T) {
	chance := rand.New(rand.NewSource(123))
	some := []string{" ", "  ", "=", "/", "-", "+", "0", "1", "5", "9", "10", "60", "1000000000", "x", "\n", "slots", "slots=", "low=1", "high=9", "tiers=", "tiers=1/2", "/3", " fine=1", " top=3", "", ""}
	told := map[api.Errno]int{}
	for range 60000 {
		var words []string
		for _, word := range strings.Split(policy.Text(rightOne(chance)), " ") {
			if chance.Intn(3) > 0 {
				words = append(words, word)
			}
		}
		chance.Shuffle(len(words), func(i, j int) { words[i], words[j] = words[j], words[i] })
		s := strings.Join(words, " ")
		for range chance.Intn(3) {
			from := chance.Intn(len(s) + 1)
			to := min(len(s), from+chance.Intn(4))
			s = s[:from] + some[chance.Intn(len(some))] + s[to:]
		}
		want, wantE := slowRead(s)
		got, e := policy.Read(s)
		if slowText(got) != slowText(want) || e != wantE {
			t.Fatalf("Read(%q): %v %d, not %v %d", s, got, e, want, wantE)
		}
		told[e]++
	}
	if len(told) != 3 || min(told[api.OK], told[api.ErrForm], told[api.ErrArg]) < 1000 {
		t.Errorf("%v", told)
	}
}

// P12.3: the bytes, by hand.
func TestPut(t *testing.T) {
	p := policy.Policy{Slots: 256, Low: 0x01, High: 0x0f4240, Top: 16, Sketch: 10, Fine: 4, Idle: 100, Window: 0x3b9aca00, Late: 0x01020304, Future: 0, Tiers: []int64{1, 0x0203, 0x040600}}
	p.Tiers[2] = 0x0203 * 0x200
	want := strings.Join([]string{
		"\x00\x00\x00\x00\x00\x00\x01\x00", "\x00\x00\x00\x00\x00\x00\x00\x01", "\x00\x00\x00\x00\x00\x0f\x42\x40", "\x00\x00\x00\x00\x00\x00\x00\x10", "\x00\x00\x00\x00\x00\x00\x00\x0a",
		"\x00\x00\x00\x00\x00\x00\x00\x04", "\x00\x00\x00\x00\x00\x00\x00\x64", "\x00\x00\x00\x00\x3b\x9a\xca\x00", "\x00\x00\x00\x00\x01\x02\x03\x04", "\x00\x00\x00\x00\x00\x00\x00\x00",
		"\x03", "\x00\x00\x00\x00\x00\x00\x00\x01", "\x00\x00\x00\x00\x00\x00\x02\x03", "\x00\x00\x00\x00\x00\x04\x06\x00",
	}, "")
	if got, ok := policy.Put(p); got != want || !ok {
		t.Errorf("%q %t, not %q", got, ok, want)
	}
	wantTold(t, p)
}

// P12.3: bytes that are too few, of each length.
func TestGetShort(t *testing.T) {
	for _, tiers := range rightTiers {
		put, _ := policy.Put(withTiers(policy.Base(), tiers...))
		if len(put) != headBytes+8*len(tiers) {
			t.Errorf("%d bytes of %v", len(put), tiers)
		}
		for size := range len(put) {
			wantNoGet(t, put[:size])
		}
	}
	for size := range 400 {
		wantNoGet(t, strings.Repeat("\x00", size))
		wantNoGet(t, strings.Repeat("\xff", size))
	}
}

// P12.3: each count of tiers, with bytes enough of what would be tiers, and
// with too few.
func TestGetCounts(t *testing.T) {
	for many := range 256 {
		s := putBase[:headBytes-1] + string([]byte{byte(many)})
		for i := range 256 {
			if i == many && many >= 1 && many <= 3 {
				if got, rest, ok := policy.Get(s); len(got.Tiers) != many || rest != "" || !ok {
					t.Errorf("%d: %v %q %t", many, got, rest, ok)
				}
			}
			if i == many+1 && many >= 1 && many <= 3 {
				if got, rest, ok := policy.Get(s); len(got.Tiers) != many || len(rest) != 8 || !ok {
					t.Errorf("%d: %v %q %t", many, got, rest, ok)
				}
			}
			if i < many || many < 1 || many > 3 {
				wantNoGet(t, s)
			}
			s += string(binary.BigEndian.AppendUint64(nil, 1<<min(i, 29)))
		}
	}
}

// P12.3: each byte changed to each other one: what is got is put as it stood.
func TestGetChanged(t *testing.T) {
	got := 0
	for at := range putBase {
		for b := range 256 {
			s := putBase[:at] + string([]byte{byte(b)}) + putBase[at+1:] + "behind"
			p, rest, ok := policy.Get(s)
			if !ok {
				wantNoGet(t, s)
				continue
			}
			got++
			if put := slowPut(p); !slowRight(p) || put+rest != s {
				t.Errorf("Get(%q): %v %q", s, p, rest)
			}
		}
	}
	// By the document: how many of these are right. At most one byte of each
	// number is another one than in Base.
	want := 0
	for at := range putBase {
		for b := range 256 {
			s := []byte(putBase + "behind")
			s[at] = byte(b)
			var p policy.Policy
			for i, k := range kinds {
				p = with(p, k.name, int64(binary.BigEndian.Uint64(s[8*i:])))
			}
			for i := range int(s[headBytes-1]) {
				if end := headBytes + 8*i + 8; end <= len(s) {
					p.Tiers = append(p.Tiers, int64(binary.BigEndian.Uint64(s[end-8:])))
				}
			}
			if int(s[headBytes-1]) == len(p.Tiers) && slowRight(p) {
				want++
			}
		}
	}
	if got != want || want < 1000 {
		t.Errorf("%d are got, not %d", got, want)
	}
}

// P12.3: those put one behind the other are got so.
func TestGetOneByOne(t *testing.T) {
	chance := rand.New(rand.NewSource(124))
	var all []policy.Policy
	bytes := ""
	for range 50 {
		p := rightOne(chance)
		put, _ := policy.Put(p)
		all, bytes = append(all, p), bytes+put
	}
	for i, want := range all {
		got, rest, ok := policy.Get(bytes)
		if !policy.Same(got, want) || !ok {
			t.Fatalf("%d: %v %t, not %v", i, got, ok, want)
		}
		bytes = rest
	}
	if bytes != "" {
		t.Errorf("%q is left", bytes)
	}
}

// P12.4: what was told, or put, is read as it was.
func TestToldIsRead(t *testing.T) {
	chance := rand.New(rand.NewSource(125))
	for range 3000 {
		p := rightOne(chance)
		wantTold(t, p)
		q, e := policy.Read(policy.Text(p))
		if !policy.Same(p, q) || e != api.OK {
			t.Fatalf("%v %d, not %v", q, e, p)
		}
	}
}

// P12.4: two have one text just if they are the same, and so of the bytes.
func TestTextsAreUnlike(t *testing.T) {
	chance := rand.New(rand.NewSource(126))
	byText, byPut := map[string]policy.Policy{}, map[string]policy.Policy{}
	for range 3000 {
		p := rightOne(chance)
		put, _ := policy.Put(p)
		for _, other := range []policy.Policy{byText[policy.Text(p)], byPut[put]} {
			if other.Slots != 0 && !policy.Same(p, other) {
				t.Fatalf("%v and %v", p, other)
			}
		}
		byText[policy.Text(p)], byPut[put] = p, p
	}
}

// P3: nothing that is handed in is written into, nor what stands behind it.
func TestHandedInStays(t *testing.T) {
	for _, tiers := range [][]int64{{10, 60}, {10, 15}, {1, 2, 4}, {0}} {
		backing := append(slices.Clone(tiers), 77, 78, 79)
		was := slices.Clone(backing)
		p := withTiers(policy.Base(), backing[:len(tiers)]...)
		policy.Right(p)
		policy.Text(p)
		policy.Put(p)
		policy.Same(p, p)
		policy.Same(p, policy.Base())
		policy.Same(policy.Base(), p)
		if !slices.Equal(backing, was) {
			t.Errorf("%v of %v", backing, was)
		}
	}
}

// P3: what is answered is new memory, spare room too.
func TestAnswersAreNew(t *testing.T) {
	put, _ := policy.Put(policy.Base())
	for name, answer := range map[string]func() policy.Policy{
		"Base":         policy.Base,
		"Read nothing": func() policy.Policy { p, _ := policy.Read(""); return p },
		"Read slots":   func() policy.Policy { p, _ := policy.Read("slots=64"); return p },
		"Read all":     func() policy.Policy { p, _ := policy.Read(textBase); return p },
		"Get":          func() policy.Policy { p, _, _ := policy.Get(put + "behind"); return p },
	} {
		one, two := answer(), answer()
		spare := one.Tiers[:cap(one.Tiers)]
		for i := range spare {
			spare[i] = -1
		}
		_ = append(one.Tiers, 5, 5, 5)
		for _, p := range []policy.Policy{two, answer(), policy.Base()} {
			if policy.Text(p) != textBase {
				t.Errorf("%s: %v", name, p)
			}
			for _, n := range p.Tiers[:cap(p.Tiers)] {
				if n == -1 || n == 5 {
					t.Errorf("%s: the room of one is that of another", name)
				}
			}
		}
	}
}

// P4: the same of the same arguments.
func TestSameAgain(t *testing.T) {
	chance := rand.New(rand.NewSource(127))
	for range 300 {
		p := rightOne(chance)
		text := policy.Text(p)
		put, _ := policy.Put(p)
		for range 5 {
			again, _ := policy.Put(p)
			if policy.Text(p) != text || again != put {
				t.Fatalf("%v", p)
			}
			wantRead(t, text, p)
		}
	}
}
