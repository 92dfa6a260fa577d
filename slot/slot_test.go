package slot_test

import (
	"fmt"
	"math"
	"math/rand"
	"slices"
	"strings"
	"testing"
	"unsafe"

	"scantling/api"
	"scantling/sip"
	"scantling/slot"
)

const (
	mostRoom = 256
	mostKey  = 4096
)

// long is a key as long as may be; over is one byte longer.
var (
	long = strings.Repeat("k", mostKey)
	over = long + "k"
)

// alike are keys of which two by two have one sum, all 64 bits of it.
var alike = [4][2]string{
	{"\xf0\x1c\x83\xdc\x00\x44\xec\xc2", "\x48\xb5\x11\x2f\x99\xab\xc0\xfe"},
	{"\xc4\xa7\x0f\xf3\x1a\x09\x35\xf1", "\xa2\x1a\xda\xf2\xa7\x83\x1a\x51"},
	{"\x03\x19\xbb\x4d\xf3\x9f\x41\xa9", "\x37\xeb\x8d\x8a\x74\xd3\xc4\xe6"},
	{"\xb1\x6b\x00\xc7\x89\x04\x03\x89", "\x29\x74\xaf\x04\x32\x56\x3c\x38"},
}

// outside are no slots, whatever the room.
var outside = []int{-1, -2, -256, -512, math.MinInt, math.MinInt + 1, 256, 257, 511, 512, 513, 1 << 31, 1 << 32, 1<<32 + 1, math.MaxInt}

// told is a Table and, by the words of the document, what it must tell.
type told struct {
	*slot.Table
	room  int
	slots map[string]int
}

func newTold(t *testing.T, room int) *told {
	t.Helper()
	x, e := slot.New(room)
	if x == nil || e != api.OK {
		t.Fatalf("New(%d): %v %d", room, x, e)
	}
	return &told{x, room, map[string]int{}}
}

// keys are those that have a slot, by their slots; empty where none has it.
func (x *told) keys() []string {
	keys := make([]string, x.room)
	for key, at := range x.slots {
		keys[at] = key
	}
	return keys
}

// add adds key, and holds the answer against what it must be.
func (x *told) add(t *testing.T, key string) {
	t.Helper()
	want, wantE := 0, api.OK
	_, has := x.slots[key]
	switch free := slices.Index(x.keys(), ""); {
	case key == "" || len(key) > mostKey:
		wantE = api.ErrArg
	case has:
		wantE = api.ErrExists
	case free < 0:
		wantE = api.ErrFull
	default:
		want, x.slots[key] = free, free
	}
	if got, e := x.Add(key); got != want || e != wantE {
		t.Fatalf("Add(%.20q): %d %d, not %d %d", key, got, e, want, wantE)
	}
}

// drop drops key, and holds the answer against what it must be.
func (x *told) drop(t *testing.T, key string) {
	t.Helper()
	_, want := x.slots[key]
	delete(x.slots, key)
	if got := x.Drop(key); got != want {
		t.Fatalf("Drop(%.20q): %t", key, got)
	}
}

// holds asks all that the table tells, and of others which keys it has not.
func (x *told) holds(t *testing.T, others ...string) {
	t.Helper()
	var slots []int
	for at, want := range x.keys() {
		if got, ok := x.Key(at); got != want || ok != (want != "") {
			t.Fatalf("Key(%d): %.20q %t, not %.20q", at, got, ok, want)
		}
		if want == "" {
			continue
		}
		slots = append(slots, at)
		if got, ok := x.Find(want); got != at || !ok {
			t.Fatalf("Find(%.20q): %d %t, not %d", want, got, ok, at)
		}
	}
	if got := x.Slots(); !slices.Equal(got, slots) {
		t.Fatalf("Slots: %v, not %v", got, slots)
	}
	if x.Len() != len(slots) || x.Room() != x.room {
		t.Fatalf("%d of %d, not %d of %d", x.Len(), x.Room(), len(slots), x.room)
	}
	for _, at := range append([]int{x.room, x.room + 1}, outside...) {
		if got, ok := x.Key(at); got != "" || ok {
			t.Fatalf("Key(%d): %.20q %t", at, got, ok)
		}
	}
	for _, key := range append([]string{"", over}, others...) {
		if _, has := x.slots[key]; has {
			continue
		}
		if got, ok := x.Find(key); got != 0 || ok {
			t.Fatalf("Find(%.20q): %d %t", key, got, ok)
		}
	}
}

// someKeys are so many keys, of few bytes.
func someKeys(many int) []string {
	keys := make([]string, many)
	for i := range keys {
		keys[i] = fmt.Sprintf("key%d", i)
	}
	return keys
}

// crowd is so many keys whose sums end in the same ten bits.
func crowd(many int, bits uint64) []string {
	var keys []string
	for i := 0; len(keys) < many; i++ {
		key := fmt.Sprintf("c%d", i)
		if sip.Sum(0, 0, key)%1024 == bits {
			keys = append(keys, key)
		}
	}
	return keys
}

// P11.1: how many slots there may be.
func TestNew(t *testing.T) {
	for room := 1; room <= mostRoom; room++ {
		newTold(t, room).holds(t, "a")
	}
	for _, room := range []int{0, -1, -2, -256, 257, 258, 512, 1 << 31, 1 << 32, 1<<32 + 1, 1<<63 - 1, math.MinInt, math.MinInt + 1} {
		if x, e := slot.New(room); x != nil || e != api.ErrArg {
			t.Errorf("New(%d): %v %d", room, x, e)
		}
	}
}

// P11.1: each room is filled from its lowest slot on, and no further.
func TestAddFills(t *testing.T) {
	keys := someKeys(mostRoom + 2)
	for room := 1; room <= mostRoom; room++ {
		x := newTold(t, room)
		for _, key := range keys[:room] {
			x.add(t, key)
		}
		if got := x.Len(); got != room {
			t.Fatalf("%d of %d", got, room)
		}
		x.add(t, keys[room])
		x.add(t, keys[room+1])
		x.holds(t, keys...)
	}
}

// P11.1: the lowest slot that is free, in whatever order they become free.
func TestAddTakesTheLowest(t *testing.T) {
	x := newTold(t, 5)
	for _, key := range []string{"a", "b", "c", "d", "e"} {
		x.add(t, key)
	}
	for _, order := range []string{"ca", "ebd", "ab", "ba", "edcba", "abcde", "d", "a", "e"} {
		for _, at := range order {
			key, _ := x.Key(int(at - 'a'))
			x.drop(t, key)
			x.holds(t, key)
		}
		for at := range 5 {
			if _, taken := x.Key(at); !taken {
				if got, e := x.Add(order + string(rune('0'+at))); got != at || e != api.OK {
					t.Fatalf("%d %d, not %d", got, e, at)
				}
				x.slots[order+string(rune('0'+at))] = at
				x.holds(t)
			}
		}
		x.add(t, "more")
	}
}

// P11.1, P2: of several errors the first is told, and nothing has changed.
func TestAddErrors(t *testing.T) {
	x := newTold(t, 2)
	hold := func(key string, want api.Errno) {
		t.Helper()
		if got, e := x.Add(key); got != 0 || e != want {
			t.Errorf("Add(%.20q): %d %d, not %d", key, got, e, want)
		}
		x.holds(t, key)
	}
	wrong := []string{"", over, over + over, strings.Repeat("x", 1<<20)}
	for _, key := range wrong {
		hold(key, api.ErrArg)
	}
	x.add(t, "a")
	hold("a", api.ErrExists)
	x.add(t, "b")
	hold("a", api.ErrExists)
	hold("b", api.ErrExists)
	hold("c", api.ErrFull)
	hold(long, api.ErrFull)
	for _, key := range wrong {
		hold(key, api.ErrArg)
	}
	x.drop(t, "a")
	hold("b", api.ErrExists)
	x.add(t, "c")
	hold("a", api.ErrFull)
}

// P11.1: a key has 1 to 4096 bytes, of whatever kind.
func TestKeysOfAnyBytes(t *testing.T) {
	for _, size := range []int{1, 2, 64, 255, 256, 257, 2047, 2048, 2049, 4095, 4096, 4097, 4098, 8192} {
		x := newTold(t, 3)
		for _, b := range []string{"x", "\x00"} {
			x.add(t, strings.Repeat(b, size))
			x.add(t, strings.Repeat(b, size))
			x.holds(t)
		}
	}
	x := newTold(t, mostRoom)
	for b := range 256 {
		x.add(t, string([]byte{byte(b)}))
	}
	x.holds(t, "\x00\x00", "aa")
	x.add(t, "aa")
	for b := range 256 {
		x.drop(t, string([]byte{byte(255 - b)}))
	}
	x.holds(t, "a")
}

// P11.1, P11.2: keys that begin or end as another one, or differ by a bit.
func TestNearKeysAreOthers(t *testing.T) {
	near := []string{"a", "a\x00", "\x00a", "a\x00\x00", "\x00", "\x00\x00", "A", "aa", "ab", "ba", "a ", "à", "\xe0", "b", long, long[1:], long[2:] + "l", "l" + long[1:], long[1:] + "l"}
	for _, first := range near {
		x := newTold(t, len(near))
		x.add(t, first)
		x.holds(t, near...)
		for _, key := range near {
			x.drop(t, "no "+key[1:])
			x.add(t, key)
		}
		x.holds(t)
		x.drop(t, first)
		x.holds(t, near...)
		x.drop(t, first)
	}
}

// P11.1: what has no slot is not dropped, and nothing has changed.
func TestDropNone(t *testing.T) {
	x := newTold(t, 3)
	none := []string{"", "a", "b", over, long, alike[0][0]}
	for _, key := range none {
		x.drop(t, key)
	}
	x.holds(t, none...)
	x.add(t, "b")
	x.add(t, "c")
	for _, key := range []string{"", "a", over, long, "bb", "B", "b\x00"} {
		x.drop(t, key)
		x.holds(t, key)
	}
	x.drop(t, "b")
	x.drop(t, "b")
	x.holds(t, "b")
	x.add(t, "b")
	x.holds(t)
}

// P11.2: keys of one sum have a slot each, and each its own.
func TestKeysOfOneSum(t *testing.T) {
	for _, pair := range alike {
		a, b := pair[0], pair[1]
		if a == b || sip.Sum(0, 0, a) != sip.Sum(0, 0, b) {
			t.Fatalf("%q and %q have two sums", a, b)
		}
		for range 2 {
			x := newTold(t, 2)
			x.add(t, a)
			x.holds(t, b)
			x.drop(t, b)
			x.add(t, b)
			x.add(t, a)
			x.add(t, b)
			x.holds(t)
			x.drop(t, a)
			x.holds(t, a)
			x.drop(t, a)
			x.add(t, "c")
			x.add(t, a)
			x.holds(t, a)
			a, b = b, a
		}
	}
}

// P11.2: keys that would all stand at one place: each is found, whichever of
// the others go, and in whatever order.
func TestCrowd(t *testing.T) {
	chance := rand.New(rand.NewSource(111))
	for _, bits := range []uint64{0, 1, 300, 511, 512, 1022, 1023} {
		keys := crowd(mostRoom+3, bits)
		x := newTold(t, mostRoom)
		for _, key := range keys {
			x.add(t, key)
		}
		x.holds(t, keys...)
		for range 3 {
			for _, at := range chance.Perm(len(keys))[:mostRoom/2] {
				x.drop(t, keys[at])
			}
			x.holds(t, keys...)
			for _, at := range chance.Perm(len(keys)) {
				x.add(t, keys[at])
			}
			x.holds(t, keys...)
		}
	}
}

// P11.2: keys of places side by side, about the last place too, of which one
// stands in the way of another.
func TestCrowdsSideBySide(t *testing.T) {
	chance := rand.New(rand.NewSource(112))
	for _, first := range []uint64{0, 100, 253, 509, 765, 1021} {
		var keys []string
		for next := range uint64(6) {
			keys = append(keys, crowd(4, (first+next)%1024)...)
		}
		for _, room := range []int{2, 5, 12, 24} {
			x := newTold(t, room)
			for range 400 {
				key := keys[chance.Intn(len(keys))]
				if chance.Intn(2) == 0 {
					x.drop(t, key)
				} else {
					x.add(t, key)
				}
				x.holds(t, keys...)
			}
		}
	}
}

// P11.1, P11.2: long scripts by chance, of full and of empty tables.
func TestScripts(t *testing.T) {
	chance := rand.New(rand.NewSource(113))
	for _, room := range []int{1, 2, 3, 16, 100, 255, 256} {
		keys := append(someKeys(room*3/2+1), "", over, long, long[1:])
		for _, pair := range alike {
			keys = append(keys, pair[0], pair[1])
		}
		x := newTold(t, room)
		for step := range 3000 {
			key := keys[chance.Intn(len(keys))]
			// Turns in which it fills, and in which it empties.
			if chance.Intn(10) < 2+step/300%2*6 {
				x.drop(t, key)
			} else {
				x.add(t, key)
			}
			if step%20 == 0 {
				x.holds(t, keys...)
			}
		}
		for _, key := range keys {
			x.drop(t, key)
		}
		x.holds(t, keys...)
	}
}

// P11.1: keys that come and go leave nothing behind, however many there were.
func TestManyComeAndGo(t *testing.T) {
	x := newTold(t, mostRoom)
	keys := someKeys(20000)
	for _, key := range keys[:mostRoom] {
		x.add(t, key)
	}
	for at, key := range keys[mostRoom:] {
		if !x.Drop(keys[at]) {
			t.Fatal(at)
		}
		if got, e := x.Add(key); got != at%mostRoom || e != api.OK {
			t.Fatal(at, got, e)
		}
		delete(x.slots, keys[at])
		x.slots[key] = at % mostRoom
	}
	x.holds(t, keys...)
}

// P4: what is told hangs on what was done alone: the same of the same steps.
func TestSameAgain(t *testing.T) {
	run := func() string {
		x, _ := slot.New(64)
		chance := rand.New(rand.NewSource(114))
		var out strings.Builder
		for range 2000 {
			key := fmt.Sprint("k", chance.Intn(100))
			if chance.Intn(2) == 0 {
				fmt.Fprintln(&out, x.Drop(key))
			} else {
				got, e := x.Add(key)
				fmt.Fprintln(&out, got, e)
			}
			fmt.Fprintln(&out, x.Slots(), x.Len())
		}
		return out.String()
	}
	if run() != run() {
		t.Error("the same steps, and other answers")
	}
}

// P3: a list that was told is of the caller alone, its spare room too.
func TestSlotsAreNew(t *testing.T) {
	x := newTold(t, 8)
	for _, key := range someKeys(6) {
		x.add(t, key)
	}
	x.drop(t, "key2")
	one, two := x.Slots(), x.Slots()
	_ = append(one, 7, 7, 7)
	for i := range one {
		one[i] = 7
	}
	if !slices.Equal(two, []int{0, 1, 3, 4, 5}) {
		t.Errorf("%v", two)
	}
	x.holds(t)
}

// P3: a key is kept as a copy, not the text of which it is a piece.
func TestKeyIsACopy(t *testing.T) {
	x := newTold(t, 1)
	text := strings.Repeat("far longer ", 1000)
	piece := text[4:10]
	x.add(t, piece)
	if got, ok := x.Key(0); got != piece || !ok || unsafe.StringData(got) == unsafe.StringData(piece) {
		t.Errorf("%q is kept as %q", piece, got)
	}
}

// Two tables, and what is done to one.
func TestTablesAreAlone(t *testing.T) {
	one, two := newTold(t, 3), newTold(t, 4)
	for _, key := range []string{"a", "b", "c"} {
		one.add(t, key)
		two.holds(t, key)
	}
	two.add(t, "c")
	two.add(t, "d")
	one.drop(t, "a")
	one.holds(t, "a", "d")
	two.holds(t, "a", "b")
}
