package top_test

import (
	"cmp"
	"math"
	"math/rand"
	"slices"
	"strconv"
	"strings"
	"testing"
	"unsafe"

	"scantling/api"
	"scantling/top"
)

const (
	mostRoom = 16
	mostName = 64
	mostSeen = 1 << 62
)

func newTop(t *testing.T, room int) *top.Top {
	t.Helper()
	x, err := top.New(room)
	if x == nil || err != api.OK {
		t.Fatalf("New(%d): %v %d", room, x, err)
	}
	return x
}

func topOf(t *testing.T, room int, l ...top.Item) *top.Top {
	t.Helper()
	x, err := top.Of(room, seenIn(l), l)
	if x == nil || err != api.OK {
		t.Fatalf("Of(%d, %d, %v): %v %d", room, seenIn(l), l, x, err)
	}
	return x
}

func add(t *testing.T, x *top.Top, name string, by uint64) {
	t.Helper()
	if err := x.Add(name, by); err != api.OK {
		t.Fatalf("Add(%q, %d): %d", name, by, err)
	}
}

func seenIn(l []top.Item) uint64 {
	var seen uint64
	for _, item := range l {
		seen += item.Many
	}
	return seen
}

// holds asks of x all that it tells.
func holds(t *testing.T, x *top.Top, room int, want ...top.Item) {
	t.Helper()
	if got := x.Items(); !slices.Equal(got, want) {
		t.Fatalf("items %v, not %v", got, want)
	}
	if got := x.Seen(); got != seenIn(want) {
		t.Fatalf("seen %d of %v", got, want)
	}
	var least uint64
	if len(want) == room {
		least = want[room-1].Many
	}
	if got := x.Least(); got != least {
		t.Fatalf("least %d of %v, with room for %d", got, want, room)
	}
	if got := x.Room(); got != room {
		t.Fatalf("room %d, not %d", got, room)
	}
}

// slow is a Top by the words of the document, with how often each came.
type slow struct {
	room  int
	items map[string]top.Item
	came  map[string]uint64
}

func newSlow(room int) *slow {
	return &slow{room: room, items: map[string]top.Item{}, came: map[string]uint64{}}
}

func (s *slow) add(name string, by uint64) {
	s.came[name] += by
	item, in := s.items[name]
	switch {
	case in:
		item.Many += by
	case len(s.items) < s.room:
		item = top.Item{Name: name, Many: by}
	default:
		goes := s.listed(func(a, b top.Item) int {
			return cmp.Or(cmp.Compare(a.Many, b.Many), strings.Compare(a.Name, b.Name))
		})[0]
		delete(s.items, goes.Name)
		item = top.Item{Name: name, Many: goes.Many + by, Over: goes.Many}
	}
	s.items[name] = item
}

func (s *slow) listed(order func(a, b top.Item) int) []top.Item {
	var l []top.Item
	for _, item := range s.items {
		l = append(l, item)
	}
	slices.SortFunc(l, order)
	return l
}

func (s *slow) told() []top.Item {
	return s.listed(func(a, b top.Item) int {
		return cmp.Or(-cmp.Compare(a.Many, b.Many), strings.Compare(a.Name, b.Name))
	})
}

// follows asks what P4.3 tells of items, and of who truly came.
func (s *slow) follows(t *testing.T, items []top.Item) {
	t.Helper()
	var seen uint64
	for _, many := range s.came {
		seen += many
	}
	if got := seenIn(items); got != seen {
		t.Fatalf("%d came, not %d", seen, got)
	}
	among := map[string]bool{}
	for _, item := range items {
		among[item.Name] = true
		if came := s.came[item.Name]; came > item.Many || came < item.Many-item.Over {
			t.Fatalf("%v came %d times", item, came)
		}
	}
	for name, came := range s.came {
		if came*uint64(s.room) > seen && !among[name] {
			t.Fatalf("%q came %d times of %d, and is not among %v", name, came, seen, items)
		}
	}
}

// P4.1, P4.2
func TestNew(t *testing.T) {
	for room := 1; room <= mostRoom; room++ {
		x := newTop(t, room)
		holds(t, x, room)
		add(t, x, "a", 3)
		holds(t, x, room, top.Item{Name: "a", Many: 3})
		holds(t, newTop(t, room), room)
	}
}

var wrongRooms = []int{0, 17, -1, -16, 18, 32, 64, 256 + 4, 1<<32 + 4, 1 << 62, math.MaxInt, math.MinInt, math.MinInt + 4}

// P4.1, P6: wrong inputs.
func TestNewOfWrongRoom(t *testing.T) {
	for _, room := range wrongRooms {
		if x, err := top.New(room); x != nil || err != api.ErrArg {
			t.Errorf("room %d: %v %d", room, x, err)
		}
	}
}

// P4.1: who is there is more; who is not comes in, while there is room.
func TestAdd(t *testing.T) {
	x := newTop(t, 3)
	add(t, x, "b", 1)
	holds(t, x, 3, top.Item{Name: "b", Many: 1})
	add(t, x, "a", 1)
	holds(t, x, 3, top.Item{Name: "a", Many: 1}, top.Item{Name: "b", Many: 1})
	add(t, x, "b", 4)
	holds(t, x, 3, top.Item{Name: "b", Many: 5}, top.Item{Name: "a", Many: 1})
	add(t, x, "c", 2)
	holds(t, x, 3, top.Item{Name: "b", Many: 5}, top.Item{Name: "c", Many: 2}, top.Item{Name: "a", Many: 1})
	add(t, x, "a", 1)
	holds(t, x, 3, top.Item{Name: "b", Many: 5}, top.Item{Name: "a", Many: 2}, top.Item{Name: "c", Many: 2})
}

// P4.1: without room one goes, and what it had is over.
func TestAddWithoutRoom(t *testing.T) {
	x := newTop(t, 2)
	add(t, x, "often", 7)
	add(t, x, "a", 2)
	add(t, x, "b", 3)
	holds(t, x, 2, top.Item{Name: "often", Many: 7}, top.Item{Name: "b", Many: 5, Over: 2})
	add(t, x, "b", 1)
	holds(t, x, 2, top.Item{Name: "often", Many: 7}, top.Item{Name: "b", Many: 6, Over: 2})
	add(t, x, "a", 9) // one that went comes as if it had never been there
	holds(t, x, 2, top.Item{Name: "a", Many: 15, Over: 6}, top.Item{Name: "often", Many: 7})
	add(t, x, "c", 8)
	holds(t, x, 2, top.Item{Name: "a", Many: 15, Over: 6}, top.Item{Name: "c", Many: 15, Over: 7})
	add(t, x, "often", 1)
	holds(t, x, 2, top.Item{Name: "often", Many: 16, Over: 15}, top.Item{Name: "c", Many: 15, Over: 7})
}

// P4.1: the least room.
func TestRoomForOne(t *testing.T) {
	x := newTop(t, 1)
	add(t, x, "a", 2)
	add(t, x, "a", 1)
	holds(t, x, 1, top.Item{Name: "a", Many: 3})
	add(t, x, "b", 1)
	holds(t, x, 1, top.Item{Name: "b", Many: 4, Over: 3})
	add(t, x, "a", 1)
	holds(t, x, 1, top.Item{Name: "a", Many: 5, Over: 4})
}

// P4.1: each room filled, in both orders, and one more.
func TestRoomFilled(t *testing.T) {
	for room := 1; room <= mostRoom; room++ {
		for _, rising := range []bool{true, false} {
			x, want := newTop(t, room), []top.Item{}
			for i := range room {
				many := uint64(100 - i)
				if rising {
					many = uint64(100 - room + 1 + i)
				}
				add(t, x, "n"+strconv.Itoa(i), many)
				want = append(want, top.Item{Name: "n" + strconv.Itoa(i), Many: many})
				slices.SortFunc(want, func(a, b top.Item) int { return cmp.Compare(b.Many, a.Many) })
				holds(t, x, room, want...)
			}
			want = slices.Insert(want[:room-1], 0, top.Item{Name: "more", Many: want[room-1].Many + 1000, Over: want[room-1].Many})
			add(t, x, "more", 1000)
			holds(t, x, room, want...)
		}
	}
}

// someNames is names that are in order byte by byte, and in no other one.
var someNames = []string{
	"", "\x00", "\x00\x00", " ", "10", "9", "A", "AB", "B", "Z", "a", "a\x00", "a ", "aa", "ab", "b", "\x7f", "\x80", "é", "日", "\xff", "\xff\x00",
}

// P4.1: of several with the same Many the one goes whose Name is the least.
func TestWhoGoes(t *testing.T) {
	chance := rand.New(rand.NewSource(41))
	if !slices.IsSorted(someNames) {
		t.Fatal("the names are in no order")
	}
	for range 400 {
		room := 1 + chance.Intn(mostRoom)
		names := chance.Perm(len(someNames))[:room]
		same := 1 + chance.Intn(room) // how many have the least Many
		x, want := newTop(t, room), []top.Item{}
		for i, n := range names {
			many := uint64(7)
			if i >= same {
				many = 8 + uint64(chance.Intn(2))
			}
			want = append(want, top.Item{Name: someNames[n], Many: many})
		}
		for _, i := range chance.Perm(room) {
			add(t, x, want[i].Name, want[i].Many)
		}
		goes := slices.Index(names, slices.Min(names[:same]))
		add(t, x, "new", 1)
		want[goes] = top.Item{Name: "new", Many: 8, Over: 7}
		slices.SortFunc(want, func(a, b top.Item) int {
			return cmp.Or(cmp.Compare(b.Many, a.Many), strings.Compare(a.Name, b.Name))
		})
		holds(t, x, room, want...)
	}
}

// P4.1: one behind another goes, the least name first, and then who came for it.
func TestWhoGoesInTurn(t *testing.T) {
	x := topOf(t, 3, top.Item{Name: "b", Many: 1}, top.Item{Name: "c", Many: 1}, top.Item{Name: "d", Many: 1})
	add(t, x, "a", 1)
	holds(t, x, 3, top.Item{Name: "a", Many: 2, Over: 1}, top.Item{Name: "c", Many: 1}, top.Item{Name: "d", Many: 1})
	add(t, x, "z", 1)
	holds(t, x, 3, top.Item{Name: "a", Many: 2, Over: 1}, top.Item{Name: "z", Many: 2, Over: 1}, top.Item{Name: "d", Many: 1})
	add(t, x, "e", 1)
	holds(t, x, 3, top.Item{Name: "a", Many: 2, Over: 1}, top.Item{Name: "e", Many: 2, Over: 1}, top.Item{Name: "z", Many: 2, Over: 1})
	add(t, x, "c", 1)
	holds(t, x, 3, top.Item{Name: "c", Many: 3, Over: 2}, top.Item{Name: "e", Many: 2, Over: 1}, top.Item{Name: "z", Many: 2, Over: 1})
}

// P4.1: names of 64 bytes and of 65, and of none.
func TestAddOfNames(t *testing.T) {
	long := strings.Repeat("x", mostName)
	x := newTop(t, 4)
	for _, name := range []string{"", long, long[:mostName-1] + "\xff", long[1:]} {
		add(t, x, name, 1)
		add(t, x, name, 1)
	}
	want := []top.Item{{Name: "", Many: 2}, {Name: long[1:], Many: 2}, {Name: long, Many: 2}, {Name: long[1:] + "\xff", Many: 2}}
	holds(t, x, 4, want...)
	// é has two bytes: it is bytes that count.
	for _, name := range []string{long + "x", long + "\x00", strings.Repeat("é", 33), strings.Repeat("x", 320), strings.Repeat("x", 1<<16)} {
		for _, by := range []uint64{0, 1, mostSeen, mostSeen + 1, math.MaxUint64} {
			if err := x.Add(name, by); err != api.ErrArg {
				t.Errorf("%d bytes, by %d: %d", len(name), by, err)
			}
		}
	}
	holds(t, x, 4, want...)
}

// P4.1: by 0 is refused, whoever comes, and nothing changes.
func TestAddOfNothing(t *testing.T) {
	for _, l := range [][]top.Item{nil, {{Name: "a", Many: 2}}, {{Name: "b", Many: 3}, {Name: "a", Many: 2}}, {{Name: "a", Many: mostSeen}}} {
		x := topOf(t, 2, l...)
		for _, name := range []string{"a", "b", "", "new"} {
			if err := x.Add(name, 0); err != api.ErrArg {
				t.Errorf("%v: Add(%q, 0): %d", l, name, err)
			}
			holds(t, x, 2, l...)
		}
	}
}

// P4.1: a Seen of 2^62, and one above it.
func TestAddUpToMostSeen(t *testing.T) {
	for _, before := range []uint64{0, 1, 1 << 32, 1 << 61, mostSeen - 1, mostSeen} {
		for _, name := range []string{"a", "new"} {
			for room := 1; room <= 2; room++ {
				var l []top.Item
				if before > 0 {
					l = []top.Item{{Name: "a", Many: before}}
				}
				x := topOf(t, room, l...)
				left := mostSeen - before
				// The last ones are those that wrap.
				for _, by := range []uint64{left + 1, left + 2, 1 << 63, math.MaxUint64 - 1, math.MaxUint64, -before, -before + 1, -before + mostSeen} {
					if by <= left {
						continue
					}
					if err := x.Add(name, by); err != api.ErrRange {
						t.Errorf("Add(%q, %d) to %v: %d", name, by, l, err)
					}
					holds(t, x, room, l...)
				}
				if left > 0 {
					add(t, x, name, left)
				}
				if got := x.Seen(); got != mostSeen {
					t.Errorf("seen %d", got)
				}
				if err := x.Add(name, 1); err != api.ErrRange {
					t.Errorf("one above: %d", err)
				}
				if got := x.Seen(); got != mostSeen {
					t.Errorf("seen %d behind one above", got)
				}
			}
		}
	}
}

// P4.1: one below 2^62 may come, and one that comes without room makes it 2^62.
func TestAddToMostSeenWithoutRoom(t *testing.T) {
	x := topOf(t, 2, top.Item{Name: "b", Many: mostSeen - 10}, top.Item{Name: "a", Many: 6})
	if err := x.Add("c", 5); err != api.ErrRange {
		t.Errorf("one above: %d", err)
	}
	holds(t, x, 2, top.Item{Name: "b", Many: mostSeen - 10}, top.Item{Name: "a", Many: 6})
	add(t, x, "c", 4)
	holds(t, x, 2, top.Item{Name: "b", Many: mostSeen - 10}, top.Item{Name: "c", Many: 10, Over: 6})
}

// P4.2: the greatest Many first, of the same by Name, whatever came first.
func TestItems(t *testing.T) {
	chance := rand.New(rand.NewSource(42))
	for range 300 {
		room := 1 + chance.Intn(mostRoom)
		s := newSlow(room)
		for _, n := range chance.Perm(len(someNames))[:room] {
			s.add(someNames[n], 1+uint64(chance.Intn(3)))
		}
		want := s.told()
		x := newTop(t, room)
		for _, i := range chance.Perm(room) {
			add(t, x, want[i].Name, want[i].Many)
		}
		holds(t, x, room, want...)
		holds(t, x, room, want...) // telling changes nothing
	}
}

// P4.2: Least is 0, while there is room.
func TestLeast(t *testing.T) {
	x := newTop(t, 3)
	for i, c := range []struct {
		name  string
		by    uint64
		least uint64
	}{{"a", 9, 0}, {"b", 5, 0}, {"c", 7, 5}, {"b", 1, 6}, {"b", 9, 7}, {"d", 1, 8}, {"d", 5, 9}} {
		add(t, x, c.name, c.by)
		if got := x.Least(); got != c.least {
			t.Errorf("%d: %d, not %d", i, got, c.least)
		}
	}
}

// P4.2
func TestClear(t *testing.T) {
	newTop(t, 1).Clear()
	for room := 1; room <= mostRoom; room++ {
		x, other := newTop(t, room), newTop(t, room)
		for i := range 20 {
			add(t, x, strconv.Itoa(i), uint64(i+1))
			add(t, other, "other", 1)
		}
		told := x.Items()
		kept := slices.Clone(told)
		for range 2 {
			x.Clear()
			holds(t, x, room)
		}
		if !slices.Equal(told, kept) {
			t.Errorf("what was told is another thing: %v, not %v", told, kept)
		}
		holds(t, other, room, top.Item{Name: "other", Many: 20})
		add(t, x, "3", 2) // nothing of it is over
		holds(t, x, room, top.Item{Name: "3", Many: 2})
	}
	x := topOf(t, 1, top.Item{Name: "a", Many: mostSeen})
	x.Clear()
	add(t, x, "b", mostSeen)
	holds(t, x, 1, top.Item{Name: "b", Many: mostSeen})
}

// P3: what was told is new memory, spare room too.
func TestItemsAreNew(t *testing.T) {
	x := newTop(t, 4)
	add(t, x, "a", 2)
	add(t, x, "b", 1)
	want := []top.Item{{Name: "a", Many: 2}, {Name: "b", Many: 1}}
	first, second := x.Items(), x.Items()
	for _, l := range [][]top.Item{first, second} {
		clear(l[:cap(l)])
		l = append(l[:0], top.Item{Name: "z", Many: 9}, top.Item{Name: "y", Many: 8}, top.Item{Name: "x", Many: 7})
		holds(t, x, 4, want...)
	}
	told := x.Items()
	add(t, x, "b", 5)
	add(t, x, "c", 1)
	if !slices.Equal(told, want) {
		t.Errorf("what was told is another thing: %v", told)
	}
}

// P3: what is handed in is neither changed nor kept.
func TestOfKeepsNothing(t *testing.T) {
	all := []top.Item{{Name: "a", Many: 5, Over: 2}, {Name: "b", Many: 4, Over: 4 - 1}, {Name: "spare", Many: 1}}
	before := slices.Clone(all)
	x, err := top.Of(2, 9, all[:2])
	if err != api.OK {
		t.Fatal(err)
	}
	add(t, x, "b", 2)
	add(t, x, "c", 1)
	if !slices.Equal(all, before) {
		t.Errorf("what was handed in is another thing: %v", all)
	}
	clear(all)
	holds(t, x, 2, top.Item{Name: "b", Many: 6, Over: 3}, top.Item{Name: "c", Many: 6, Over: 5})
}

// P3: a name is not kept as the piece of a text that it may be.
func TestNamesAreCopies(t *testing.T) {
	text := strings.Repeat("abcdefgh", 1<<10)
	come, follow, whole := text[:16], text[16:33], text[33:50]
	x := newTop(t, 1)
	add(t, x, come, 1)
	first := x.Items()[0].Name
	add(t, x, follow, 1)
	second := x.Items()[0].Name
	third := topOf(t, 1, top.Item{Name: whole, Many: 1}).Items()[0].Name
	for _, names := range [][2]string{{come, first}, {follow, second}, {whole, third}} {
		if names[0] != names[1] || unsafe.StringData(names[0]) == unsafe.StringData(names[1]) {
			t.Errorf("%q is kept as %q", names[0], names[1])
		}
	}
}

// P4.2: items that are a Top's.
func TestOf(t *testing.T) {
	long := strings.Repeat("x", mostName)
	for _, c := range []struct {
		room int
		l    []top.Item
	}{
		{1, nil}, {1, []top.Item{}}, {16, nil},
		{1, []top.Item{{Name: "", Many: 1}}},
		{1, []top.Item{{Name: long, Many: 1}}},
		{1, []top.Item{{Name: "a", Many: mostSeen}}},
		{1, []top.Item{{Name: "a", Many: mostSeen, Over: mostSeen - 1}}},
		{1, []top.Item{{Name: "a", Many: 2, Over: 1}}},
		{2, []top.Item{{Name: "a", Many: 1}}},
		{2, []top.Item{{Name: "b", Many: mostSeen - 1}, {Name: "a", Many: 1}}},
		{2, []top.Item{{Name: "a", Many: 1 << 61}, {Name: "b", Many: 1 << 61}}},
		{2, []top.Item{{Name: "a", Many: 9, Over: 3}, {Name: "b", Many: 3}}},
		{2, []top.Item{{Name: "a", Many: 9}, {Name: "b", Many: 3, Over: 2}}},
		{2, []top.Item{{Name: "a", Many: 3, Over: 2}, {Name: "a\x00", Many: 3, Over: 2}}},
		{3, []top.Item{{Name: "Z", Many: 3, Over: 1}, {Name: "a", Many: 3}, {Name: "\xff", Many: 3, Over: 2}}},
		{3, []top.Item{{Name: "a", Many: 3}, {Name: "b", Many: 3}}},
	} {
		holds(t, topOf(t, c.room, c.l...), c.room, c.l...)
	}
}

// numbered is as many items as asked for, each of a Many, and of an Over.
func numbered(items int, many, over uint64) []top.Item {
	l := []top.Item{}
	for i := range items {
		l = append(l, top.Item{Name: string(rune('a' + i)), Many: many, Over: over})
	}
	return l
}

// P4.2: each room, with as many items as it has, with one less, and with one more.
func TestOfEachRoom(t *testing.T) {
	for room := 1; room <= mostRoom; room++ {
		for items := range mostRoom + 4 {
			for _, over := range []uint64{0, 1} {
				l := numbered(items, 2, over)
				x, err := top.Of(room, seenIn(l), l)
				if items > room || items > 0 && items < room && over > 0 {
					if x != nil || err != api.ErrForm {
						t.Errorf("%d items, room for %d, over %d: %v %d", items, room, over, x, err)
					}
					continue
				}
				holds(t, topOf(t, room, l...), room, l...)
			}
		}
	}
	if x, err := top.Of(mostRoom, 200_000, numbered(100_000, 2, 0)); x != nil || err != api.ErrForm {
		t.Errorf("far too many: %v %d", x, err)
	}
}

// P4.2, P2: a wrong room is told ahead of all else.
func TestOfWrongRoom(t *testing.T) {
	for _, room := range wrongRooms {
		for _, l := range [][]top.Item{nil, {{Name: "a", Many: 1}}, {{Name: "a", Many: 1, Over: 1}}, numbered(17, 2, 0)} {
			for _, seen := range []uint64{0, seenIn(l), seenIn(l) + 1, math.MaxUint64} {
				if x, err := top.Of(room, seen, l); x != nil || err != api.ErrArg {
					t.Errorf("Of(%d, %d, %v): %v %d", room, seen, l, x, err)
				}
			}
		}
	}
}

// P4.2: items that are no Top's.
func TestOfWrongItems(t *testing.T) {
	long := strings.Repeat("x", mostName+1)
	for _, c := range []struct {
		fault string
		room  int
		l     []top.Item
	}{
		{"the least first", 2, []top.Item{{Name: "a", Many: 1}, {Name: "b", Many: 2}}},
		{"the least in the middle", 3, []top.Item{{Name: "a", Many: 3}, {Name: "b", Many: 1}, {Name: "c", Many: 2}}},
		{"of the same falling", 2, []top.Item{{Name: "b", Many: 2}, {Name: "a", Many: 2}}},
		{"of the same falling, with room", 3, []top.Item{{Name: "b", Many: 2}, {Name: "a", Many: 2}}},
		{"of the same falling at the end", 3, []top.Item{{Name: "a", Many: 9}, {Name: "c", Many: 2}, {Name: "b", Many: 2}}},
		{"falling, as bytes", 2, []top.Item{{Name: "a", Many: 2}, {Name: "Z", Many: 2}}},
		{"a name twice, the same", 2, []top.Item{{Name: "a", Many: 2}, {Name: "a", Many: 2}}},
		{"a name twice, the same, with room", 3, []top.Item{{Name: "a", Many: 2}, {Name: "a", Many: 2}}},
		{"a name twice, of another Many", 2, []top.Item{{Name: "a", Many: 3}, {Name: "a", Many: 2}}},
		{"a name twice, of another Over", 2, []top.Item{{Name: "a", Many: 2}, {Name: "a", Many: 2, Over: 1}}},
		{"a name twice, with others between", 4, []top.Item{{Name: "a", Many: 9}, {Name: "b", Many: 8}, {Name: "a", Many: 7}, {Name: "c", Many: 6}}},
		{"no name twice", 2, []top.Item{{Name: "", Many: 3}, {Name: "", Many: 2}}},
		{"a long name", 1, []top.Item{{Name: long, Many: 1}}},
		{"a long name, the last", 2, []top.Item{{Name: "a", Many: 2}, {Name: long, Many: 1}}},
		{"nobody came", 1, []top.Item{{Name: "a"}}},
		{"nobody came, the last, with room", 3, []top.Item{{Name: "a", Many: 2}, {Name: "b"}}},
		{"as many over", 1, []top.Item{{Name: "a", Many: 3, Over: 3}}},
		{"more over", 1, []top.Item{{Name: "a", Many: 3, Over: 4}}},
		{"far more over", 1, []top.Item{{Name: "a", Many: 3, Over: math.MaxUint64}}},
		{"as many over, the last", 2, []top.Item{{Name: "a", Many: 3}, {Name: "b", Many: 2, Over: 2}}},
		{"over, with room", 2, []top.Item{{Name: "a", Many: 3, Over: 1}}},
		{"over, the last, with room", 16, []top.Item{{Name: "a", Many: 3}, {Name: "b", Many: 3, Over: 1}}},
		{"over above the least", 2, []top.Item{{Name: "a", Many: 9, Over: 4}, {Name: "b", Many: 3}}},
		{"over above the least, in the middle", 3, []top.Item{{Name: "a", Many: 9, Over: 3}, {Name: "b", Many: 8, Over: 4}, {Name: "c", Many: 3, Over: 1}}},
		{"one above 2^62", 1, []top.Item{{Name: "a", Many: mostSeen + 1}}},
		{"one above 2^62, of two", 2, []top.Item{{Name: "a", Many: mostSeen}, {Name: "b", Many: 1}}},
		{"one above 2^62, of two alike", 2, []top.Item{{Name: "a", Many: 1<<61 + 1}, {Name: "b", Many: 1 << 61}}},
		{"far above 2^62", 1, []top.Item{{Name: "a", Many: math.MaxUint64}}},
		{"a sum that wraps to 0", 2, []top.Item{{Name: "a", Many: 1 << 63}, {Name: "b", Many: 1 << 63}}},
		{"a sum that wraps to 1", 2, []top.Item{{Name: "a", Many: math.MaxUint64}, {Name: "b", Many: 2}}},
		{"a sum of many that wraps to 0", 4, numbered(4, 1<<62, 0)},
		{"a sum of all that wraps to 0", 16, numbered(16, 1<<60, 0)},
	} {
		if x, err := top.Of(c.room, seenIn(c.l), c.l); x != nil || err != api.ErrForm {
			t.Errorf("%s: %v %d", c.fault, x, err)
		}
	}
}

// P4.2: seen is the sum of all Many, and no other number.
func TestOfWrongSeen(t *testing.T) {
	for _, l := range [][]top.Item{nil, {{Name: "a", Many: 1}}, {{Name: "a", Many: 3, Over: 1}, {Name: "b", Many: 2}}, {{Name: "a", Many: mostSeen}}} {
		sum := seenIn(l)
		for _, seen := range []uint64{sum - 1, sum + 1, sum + 1<<32, sum + 1<<63, 2*sum + 1, math.MaxUint64 - 1, 1, mostSeen, mostSeen + 1} {
			if seen == sum {
				continue
			}
			if x, err := top.Of(2, seen, l); x != nil || err != api.ErrForm {
				t.Errorf("%d of %v: %v %d", seen, l, x, err)
			}
		}
	}
	// What is over came already once, in the sum.
	if x, err := top.Of(1, 2, []top.Item{{Name: "a", Many: 3, Over: 1}}); x != nil || err != api.ErrForm {
		t.Errorf("less what is over: %v %d", x, err)
	}
}

// P4.1 to P4.3: whatever comes of a few, one behind another.
func TestAllShortScripts(t *testing.T) {
	const steps = 6
	choices := []struct {
		name string
		by   uint64
	}{{"a", 1}, {"b", 1}, {"c", 1}, {"d", 1}, {"a", 2}, {"c", 3}}
	for script := range 46656 { // 6 to the 6th
		for room := 1; room <= 3; room++ {
			x, s := newTop(t, room), newSlow(room)
			for step, rest := 0, script; step < steps; step, rest = step+1, rest/len(choices) {
				c := choices[rest%len(choices)]
				add(t, x, c.name, c.by)
				s.add(c.name, c.by)
			}
			holds(t, x, room, s.told()...)
			s.follows(t, x.Items())
		}
	}
}

// someName is a name by chance, a few of which come often, and most seldom.
func someName(chance *rand.Rand) string {
	if chance.Intn(3) == 0 {
		return someNames[chance.Intn(len(someNames))]
	}
	return strings.Repeat("n", chance.Intn(3)) + strconv.Itoa(chance.Intn(1+chance.Intn(60)))
}

// P4.1 to P4.3: many that come by chance; of what is told one goes on the same.
func TestByChance(t *testing.T) {
	chance := rand.New(rand.NewSource(43))
	for round := range 160 {
		room := 1 + round%mostRoom
		x, s := newTop(t, room), newSlow(room)
		for step := range 400 {
			name, by := someName(chance), 1+uint64(chance.Intn(1+chance.Intn(9)))
			add(t, x, name, by)
			s.add(name, by)
			want := s.told()
			holds(t, x, room, want...)
			s.follows(t, x.Items())
			if step%20 == 7 {
				x = topOf(t, room, want...)
				holds(t, x, room, want...)
			}
			if step == 250 {
				x.Clear()
				s = newSlow(room)
			}
		}
	}
}

// P4.3: great numbers, up to a Seen of 2^62.
func TestByChanceOfGreatNumbers(t *testing.T) {
	chance := rand.New(rand.NewSource(44))
	for round := range 160 {
		room := 1 + round%mostRoom
		x, s := newTop(t, room), newSlow(room)
		for range 120 {
			name, by := someName(chance), chance.Uint64()>>(2+chance.Intn(62))
			seen := seenIn(s.told())
			err := x.Add(name, by)
			switch {
			case by == 0:
				if err != api.ErrArg {
					t.Fatalf("by 0: %d", err)
				}
			case by > mostSeen-seen:
				if err != api.ErrRange {
					t.Fatalf("by %d, of %d seen: %d", by, seen, err)
				}
			default:
				if err != api.OK {
					t.Fatalf("by %d, of %d seen: %d", by, seen, err)
				}
				s.add(name, by)
			}
			holds(t, x, room, s.told()...)
		}
		holds(t, topOf(t, room, s.told()...), room, s.told()...)
	}
}

// P4.3: who came more often than Seen divided by room is among them, though it
// came first and many others behind it.
func TestWhoCameOftenIsAmongThem(t *testing.T) {
	for room := 1; room <= mostRoom; room++ {
		x := newTop(t, room)
		add(t, x, "often", 1000)
		// Behind these it came once more often than Seen divided by room.
		for i := range 1000*room - 1000 - 1 {
			add(t, x, "s"+strconv.Itoa(i), 1)
			if !slices.ContainsFunc(x.Items(), func(item top.Item) bool { return item.Name == "often" }) {
				t.Fatalf("room for %d: it went for %d others", room, i+1)
			}
		}
	}
}

// P4: two to which the same came tell the same.
func TestTwoAlike(t *testing.T) {
	chance := rand.New(rand.NewSource(45))
	x, y := newTop(t, 5), newTop(t, 5)
	for range 3000 {
		name := someName(chance)
		add(t, x, name, 1)
		add(t, y, name, 1)
		if l, m := x.Items(), y.Items(); !slices.Equal(l, m) {
			t.Fatalf("%v and %v", l, m)
		}
	}
}
