package label_test

import (
	"fmt"
	"math/rand"
	"slices"
	"sort"
	"strings"
	"testing"

	"scantling/api"
	"scantling/label"
	"scantling/line"
)

const escapable = ",= \\"

// full is a name as long as may be; over is one byte longer.
var (
	full = strings.Repeat("f", 64)
	over = full + "f"
)

// labels are those of names and values in turns.
func labels(texts ...string) []api.Label {
	var l []api.Label
	for pair := range slices.Chunk(texts, 2) {
		l = append(l, api.Label{Name: pair[0], Value: pair[1]})
	}
	return l
}

// many is so many labels of unlike names, each name and value of so many bytes.
func many(count, name, value int) []api.Label {
	var l []api.Label
	for i := range count {
		l = append(l, api.Label{Name: strings.Repeat(string(rune('a'+i)), name), Value: strings.Repeat("v", value)})
	}
	return l
}

// shuffled is l in some other order.
func shuffled(chance *rand.Rand, l []api.Label) []api.Label {
	other := slices.Clone(l)
	chance.Shuffle(len(other), func(i, j int) { other[i], other[j] = other[j], other[i] })
	return other
}

func wantSort(t *testing.T, l, want []api.Label) {
	t.Helper()
	was := slices.Clone(l)
	if got, e := label.Sort(l); !slices.Equal(got, want) || e != api.OK {
		t.Errorf("Sort(%v): %v %d, not %v", l, got, e, want)
	}
	if !slices.Equal(l, was) {
		t.Errorf("Sort left %v of %v", l, was)
	}
}

func wantDouble(t *testing.T, l []api.Label) {
	t.Helper()
	if got, e := label.Sort(l); len(got) != 0 || e != api.ErrDouble {
		t.Errorf("Sort(%v): %v %d", l, got, e)
	}
}

func wantKey(t *testing.T, name string, l []api.Label, want string) {
	t.Helper()
	if got, e := label.Key(name, l); got != want || e != api.OK {
		t.Errorf("Key(%q, %q): %q %d, not %q", name, l, got, e, want)
	}
}

func wantNoKey(t *testing.T, name string, l []api.Label, want api.Errno) {
	t.Helper()
	if got, e := label.Key(name, l); got != "" || e != want {
		t.Errorf("Key(%q, %q): %q %d, not %d", name, l, got, e, want)
	}
}

// wantSplit holds all that is told of a key.
func wantSplit(t *testing.T, key, name string, l []api.Label) {
	t.Helper()
	gotName, got, ok := label.Split(key)
	if gotName != name || !slices.Equal(got, l) || !ok {
		t.Errorf("Split(%q): %q %q %t, not %q %q", key, gotName, got, ok, name, l)
	}
	if got := label.Metric(key); got != name {
		t.Errorf("Metric(%q): %q", key, got)
	}
	if got, want := label.Text(key), slowText(name, l); got != want {
		t.Errorf("Text(%q): %q, not %q", key, got, want)
	}
}

// wantNone holds that nothing is told of what is no key.
func wantNone(t *testing.T, key string) {
	t.Helper()
	if name, l, ok := label.Split(key); name != "" || len(l) != 0 || ok {
		t.Errorf("Split(%q): %q %q %t", key, name, l, ok)
	}
	if text, metric := label.Text(key), label.Metric(key); text != "" || metric != "" {
		t.Errorf("of %q: Text %q, Metric %q", key, text, metric)
	}
}

// slowSort is Sort by the library, and by a set of the names.
func slowSort(l []api.Label) ([]api.Label, api.Errno) {
	names := map[string]int{}
	for _, x := range l {
		names[x.Name]++
		if names[x.Name] == 2 {
			return nil, api.ErrDouble
		}
	}
	sorted := slices.Clone(l)
	sort.Slice(sorted, func(i, j int) bool { return sorted[i].Name < sorted[j].Name })
	return sorted, api.OK
}

// counted is s behind a byte of how many bytes it has.
func counted(s string) string { return string([]byte{byte(len(s))}) + s }

// bytesOf is what a key of these would be, were they a series.
func bytesOf(name string, l []api.Label) string {
	text := counted(name) + string([]byte{byte(len(l))})
	for _, x := range l {
		text += counted(x.Name) + counted(x.Value)
	}
	return text
}

// slowKey is Key by the words of the document, one behind the other.
func slowKey(name string, l []api.Label) (string, api.Errno) {
	texts := []string{name}
	for _, x := range l {
		texts = append(texts, x.Name, x.Value)
	}
	for _, s := range texts {
		if len(s) < 1 || len(s) > 64 || strings.ContainsFunc(s, func(r rune) bool { return r < 32 || r == 127 }) {
			return "", api.ErrArg
		}
	}
	if len(l) > 16 {
		return "", api.ErrArg
	}
	sorted, e := slowSort(l)
	if e != api.OK {
		return "", e
	}
	if key := bytesOf(name, sorted); len(key) <= 2048 {
		return key, api.OK
	}
	return "", api.ErrLong
}

// slowText is Text by the words of the document.
func slowText(name string, l []api.Label) string {
	escape := strings.NewReplacer(`,`, `\,`, `=`, `\=`, ` `, `\ `, `\`, `\\`)
	text := escape.Replace(name)
	for _, x := range l {
		text += "," + escape.Replace(x.Name) + "=" + escape.Replace(x.Value)
	}
	return text
}

// P10.1: labels by their names, byte by byte.
func TestSort(t *testing.T) {
	wantSort(t, nil, nil)
	wantSort(t, []api.Label{}, nil)
	wantSort(t, labels("a", "1"), labels("a", "1"))
	wantSort(t, labels("a", "1", "b", "2"), labels("a", "1", "b", "2"))
	wantSort(t, labels("b", "1", "a", "2"), labels("a", "2", "b", "1"))
	wantSort(t, labels("c", "1", "b", "1", "a", "1"), labels("a", "1", "b", "1", "c", "1"))
	wantSort(t, labels("ab", "1", "b", "2", "a", "3", "abc", "4", "aa", "5"), labels("a", "3", "aa", "5", "ab", "1", "abc", "4", "b", "2"))
	wantSort(t, labels("a", "z", "B", "y", "_", "x", "1", "w"), labels("1", "w", "B", "y", "_", "x", "a", "z"))
	wantSort(t, labels("10", "", "9", "", "1", ""), labels("1", "", "10", "", "9", ""))
	wantSort(t, labels("\xff", "1", "é", "2", "z", "3", "\x80", "4"), labels("z", "3", "\x80", "4", "é", "2", "\xff", "1"))
	wantSort(t, labels("", "a", "\x00", "b", "\x00\x00", "c"), labels("", "a", "\x00", "b", "\x00\x00", "c")) // any texts
	wantSort(t, labels("b", "", "", "x", over, "y"), labels("", "x", "b", "", over, "y"))
}

// P10.1: a Name that comes twice, wherever it stands, whatever its values.
func TestSortDouble(t *testing.T) {
	wantDouble(t, labels("a", "1", "a", "1"))
	wantDouble(t, labels("a", "1", "a", "2"))
	wantDouble(t, labels("a", "1", "b", "2", "a", "3"))
	wantDouble(t, labels("", "1", "", "2"))
	wantDouble(t, labels("a", "1", "a", "2", "a", "3"))
	wantDouble(t, make([]api.Label, 1000))
	for size := 2; size <= 35; size++ {
		for one := range size {
			for other := one + 1; other < size; other++ {
				l := many(size, 1, 1)
				l[one].Name = l[other].Name
				wantDouble(t, l)
				slices.Reverse(l)
				wantDouble(t, l)
			}
		}
	}
}

// P10.1: all orders of few, and all lists of few names.
func TestSortEachOrder(t *testing.T) {
	names := []string{"", "a", "aa", "b", "ab", "\xff"}
	var each func(l []api.Label, most int)
	each = func(l []api.Label, most int) {
		if want, e := slowSort(l); e == api.OK {
			wantSort(t, l, want)
		} else {
			wantDouble(t, l)
		}
		if most == 0 {
			return
		}
		for _, name := range names {
			each(append(slices.Clone(l), api.Label{Name: name, Value: string(rune('0' + most))}), most-1)
		}
	}
	each(nil, 6)
}

// P10.1: lists of each length up to some, in any order.
func TestSortEachLength(t *testing.T) {
	chance := rand.New(rand.NewSource(10))
	for size := range 140 {
		var want []api.Label
		for i := range size {
			want = append(want, api.Label{Name: fmt.Sprintf("n%03d", i), Value: fmt.Sprint(size - i)})
		}
		for range 5 {
			wantSort(t, shuffled(chance, want), want)
		}
		if size > 0 {
			wantDouble(t, shuffled(chance, append(want, want[chance.Intn(size)])))
		}
	}
}

// P10.1, P1: a list of any length is sorted, in time that grows with it.
func TestSortMany(t *testing.T) {
	chance := rand.New(rand.NewSource(100))
	want := make([]api.Label, 300000)
	for i := range want {
		want[i] = api.Label{Name: fmt.Sprintf("n%07d", i), Value: "v"}
	}
	falling := slices.Clone(want)
	slices.Reverse(falling)
	for _, l := range [][]api.Label{shuffled(chance, want), falling, slices.Clone(want)} {
		if got, e := label.Sort(l); !slices.Equal(got, want) || e != api.OK {
			t.Error("many labels are not sorted", len(got), e)
		}
		l[0].Name = l[len(l)-1].Name
		if got, e := label.Sort(l); len(got) != 0 || e != api.ErrDouble {
			t.Error("a double of many", len(got), e)
		}
	}
}

// P3: the labels that are handed in stay as they were, their spare room too,
// and what is told is of the caller alone.
func TestSortIsNew(t *testing.T) {
	for _, size := range []int{1, 2, 3, 8, 9} {
		room := append(many(size, 1, 1), labels("z", "spare", "A", "spare")...)
		slices.Reverse(room[:size])
		was, l := slices.Clone(room), room[:size]
		one, e := label.Sort(l)
		two, f := label.Sort(l)
		if e != api.OK || f != api.OK || !slices.Equal(one, many(size, 1, 1)) {
			t.Fatal(one, e, two, f)
		}
		_ = append(one, labels("x", "y", "x", "y")...)
		one[0] = api.Label{}
		if !slices.Equal(room, was) || !slices.Equal(two, many(size, 1, 1)) {
			t.Errorf("%v of %v, %v", room, was, two)
		}
		if _, e := label.Key("m", l); e != api.OK || !slices.Equal(room, was) {
			t.Errorf("Key: %d, %v of %v", e, room, was)
		}
	}
}

// P10.1: the value of the first label of a name.
func TestGet(t *testing.T) {
	l := labels("b", "1", "a", "2", "b", "3", "ab", "", "", "5", "A", "6")
	for name, want := range map[string]string{"b": "1", "a": "2", "ab": "", "": "5", "A": "6"} {
		if got, ok := label.Get(l, name); got != want || !ok {
			t.Errorf("Get(%q): %q %t, not %q", name, got, ok, want)
		}
	}
	for _, name := range []string{"x", "B", "abc", "1", "a ", " a", "a\x00", full} {
		if got, ok := label.Get(l, name); got != "" || ok {
			t.Errorf("Get(%q): %q %t", name, got, ok)
		}
	}
	for _, none := range [][]api.Label{nil, {}, l[:0], l[1:2]} {
		for _, name := range []string{"", "b"} {
			if got, ok := label.Get(none, name); got != "" || ok {
				t.Errorf("Get(%q) of %v: %q %t", name, none, got, ok)
			}
		}
	}
}

// P10.2: the bytes of a key.
func TestKey(t *testing.T) {
	wantKey(t, "a", nil, "\x01a\x00")
	wantKey(t, "a", []api.Label{}, "\x01a\x00")
	wantKey(t, "up", labels("a", "b"), "\x02up\x01\x01a\x01b")
	wantKey(t, "m", labels("b", "1", "a", "2", "ab", "33"), "\x01m\x03\x01a\x012\x02ab\x0233\x01b\x011")
	wantKey(t, "a", labels("a", "a"), "\x01a\x01\x01a\x01a") // a name may be a label's too
	wantKey(t, "m", labels("a", "1", "b", "1"), "\x01m\x02\x01a\x011\x01b\x011")
	wantKey(t, escapable, labels(escapable, escapable), "\x04,= \\\x01\x04,= \\\x04,= \\") // as they are, without escapes
	wantKey(t, "é\xff~!", labels("\x80", "#"), "\x05é\xff~!\x01\x01\x80\x01#")
	wantKey(t, full, labels(full, full), "\x40"+full+"\x01\x40"+full+"\x40"+full)
	wantKey(t, "m", many(16, 1, 1), bytesOf("m", many(16, 1, 1)))
	if key, _ := label.Key("m", many(16, 1, 1)); !strings.HasPrefix(key, "\x01m\x10\x01a\x01v\x01b") || len(key) != 67 {
		t.Errorf("%q", key)
	}
}

// P10.2: names and values of no, one, most and too many bytes, in each place.
func TestKeyNames(t *testing.T) {
	for name, right := range map[string]bool{
		"": false, "a": true, " ": true, "#": true, `\`: true, "\x80": true, escapable: true, full: true, over: false, full[1:]: true, full + full: false,
		strings.Repeat("é", 32): true, strings.Repeat("é", 33): false, strings.Repeat(",", 64): true, strings.Repeat(",", 65): false, strings.Repeat("x", 256): false,
		strings.Repeat("x", 257): false, strings.Repeat("x", 1<<20): false,
	} {
		inEachPlace(t, name, right)
	}
	for b := range 256 {
		text, right := string([]byte{byte(b)}), b >= 32 && b != 127
		for _, name := range []string{text, "zz" + text, text + "zz", "z" + text + "z", full[1:] + text} {
			inEachPlace(t, name, right)
		}
	}
}

// inEachPlace holds that name may or may not stand in each place of a key.
func inEachPlace(t *testing.T, name string, right bool) {
	t.Helper()
	places := []struct {
		name string
		l    []api.Label
	}{
		{name, nil}, {name, labels("yy", "b")}, {"m", labels(name, "b")}, {"m", labels("yy", name)},
		{"m", labels("yy", "b", name, "d")}, {"m", labels(name, "b", "yy", "d", "xx", "f")}, {"m", labels("yy", "b", "xx", name)}, {"m", append(many(14, 2, 2), labels(name, name)...)},
	}
	for _, p := range places {
		if right {
			want, _ := slowSort(p.l)
			wantKey(t, p.name, p.l, bytesOf(p.name, want))
			wantSplit(t, bytesOf(p.name, want), p.name, want)
			continue
		}
		wantNoKey(t, p.name, p.l, api.ErrArg)
		if len(name) < 256 {
			sorted, _ := slowSort(p.l)
			wantNone(t, bytesOf(p.name, sorted))
		}
	}
}

// P10.2: how many labels there may be, and which error is told ahead.
func TestKeyErrors(t *testing.T) {
	for count := range 40 {
		l := many(count, 1, 1)
		if count > 16 {
			wantNoKey(t, "m", l, api.ErrArg)
			wantNone(t, bytesOf("m", l))
			continue
		}
		wantKey(t, "m", l, bytesOf("m", l))
	}
	wantNoKey(t, "m", make([]api.Label, 1<<20), api.ErrArg)
	wantNoKey(t, "m", labels("a", "1", "a", "1"), api.ErrDouble)
	wantNoKey(t, "m", labels("b", "1", "a", "1", "b", "2"), api.ErrDouble)
	wantNoKey(t, "m", append(many(15, 64, 64), many(1, 64, 64)...), api.ErrDouble) // ahead of being too long
	wantNoKey(t, "m", append(many(16, 1, 1), many(1, 1, 1)...), api.ErrArg)        // too many, ahead of coming twice
	wantNoKey(t, "", labels("a", "1", "a", "1"), api.ErrArg)
	wantNoKey(t, "m\n", labels("a", "1", "a", "1"), api.ErrArg)
	wantNoKey(t, "m", labels("a", "1", "a", ""), api.ErrArg)
	wantNoKey(t, "m", labels("a", "1", "a", "1", "", "1"), api.ErrArg)
	wantNoKey(t, "m", labels("", "1", "", "1"), api.ErrArg)
	wantNoKey(t, "m", append(many(15, 64, 64), labels("z", over)...), api.ErrArg) // ahead of being too long
	wantNoKey(t, over, many(16, 64, 64), api.ErrArg)
}

// P10.2: a key may have up to MaxKey bytes.
func TestKeyLong(t *testing.T) {
	l := many(16, 64, 64) // with a name of one byte: 2083 bytes
	wantNoKey(t, "m", l, api.ErrLong)
	wantNoKey(t, full, l, api.ErrLong)
	if all := bytesOf(full, l); len(all) != 2146 {
		t.Fatal(len(all))
	}
	wantNone(t, bytesOf("m", l))
	wantNone(t, bytesOf(full, l))
	for short := range 64 {
		l[9].Value = strings.Repeat("v", 64-short)
		text := bytesOf("m", l)
		if len(text) != 2083-short {
			t.Fatal(len(text))
		}
		if len(text) > 2048 {
			wantNoKey(t, "m", l, api.ErrLong)
			wantNone(t, text)
			continue
		}
		wantKey(t, "m", l, text)
		wantSplit(t, text, "m", l)
	}
}

// P10.2: the name and the labels, as sorted, of each key.
func TestSplit(t *testing.T) {
	wantSplit(t, "\x01a\x00", "a", nil)
	wantSplit(t, "\x02up\x01\x01a\x01b", "up", labels("a", "b"))
	wantSplit(t, "\x01m\x03\x01a\x012\x02ab\x0233\x01b\x011", "m", labels("a", "2", "ab", "33", "b", "1"))
	wantSplit(t, bytesOf(full, many(16, 1, 64)), full, many(16, 1, 64))
	key, _ := label.Key("m", labels("c", "1", "a", "2", "b", "3"))
	wantSplit(t, key, "m", labels("a", "2", "b", "3", "c", "1"))
}

// P10.2: what is no key.
func TestSplitNone(t *testing.T) {
	for _, s := range []string{
		"", "\x00", "\x00\x00", "a", "m", "\x01", "\x01m", "\x01m\x01", "\x02m\x00", "\x05m\x00", "\x00\x01\x01a\x01b",
		"\x01m\x00x", "\x01m\x00\x00", "\x01m\x00\x01m\x00", "\x01m\x01\x01a\x01bx", "\x01m\x01\x01a\x01b\x00", "\x01m\x00\x01a\x01b",
		"\x01m\x01\x01a", "\x01m\x01\x01a\x01", "\x01m\x01\x01a\x02b", "\x01m\x01\x01", "\x01m\x02\x01a\x01b", "\x01m\x02\x01a\x01b\x01c",
		"\x01m\x01\x00\x01b", "\x01m\x01\x01a\x00", "\x01m\x01\x00\x00",
		"\x01m\x02\x01b\x011\x01a\x011", "\x01m\x02\x02ab\x011\x01a\x012", "\x01m\x03\x01a\x011\x01c\x011\x01b\x011", // not sorted
		"\x01m\x02\x01a\x011\x01a\x011", "\x01m\x02\x01a\x011\x01a\x012", // a name twice
		"\x01m\x11", "\x01m\xff", "\xff", "\xff\xff\xff\xff", "\x40" + full[1:] + "\x00", "\x41" + over + "\x00",
		"\x01\n\x00", "\x01\x7f\x00", "\x01m\x01\x01\x1f\x01b", "\x01m\x01\x01a\x01\x7f",
		strings.Repeat("\x00", 1<<20), strings.Repeat("\xff", 1<<20), strings.Repeat("\x01", 4096), "m,a=b",
		"zz", "\x02m", "\x05ab", "\x7fm\x00", "\x01m\x01\x02a", "\x01m\x01\x40a\x01b", "\xff\xff", // more bytes told of than there are
	} {
		wantNone(t, s)
	}
}

// P10.2: what begins with a key, and what a key begins with, is none, nor is
// a key of which one byte is another one, but where that is a key's again.
func TestSplitNearKeys(t *testing.T) {
	for _, l := range [][]api.Label{nil, labels("a", "1"), labels("a", "1", "bc", "23"), labels("a", "\x80", "b", ",", "c", "\xff"), many(16, 2, 3)} {
		key := bytesOf("up", l)
		for at := range key {
			wantNone(t, key[:at])
			for b := range 256 {
				holdAgainstSlow(t, key[:at]+string([]byte{byte(b)})+key[at+1:])
				holdAgainstSlow(t, key[:at]+string([]byte{byte(b)})+key[at:])
			}
			holdAgainstSlow(t, key[:at]+key[at+1:])
		}
		for b := range 256 {
			wantNone(t, key+string([]byte{byte(b)}))
		}
	}
}

// slowSplit is Split by the words of the document: each text is taken, and
// held against what it may be, as it comes.
func slowSplit(key string) (string, []api.Label, bool) {
	if len(key) > 2048 {
		return "", nil, false
	}
	good := true
	take := func() string {
		if key == "" || key[0] == 0 || key[0] > 64 || int(key[0]) >= len(key) {
			good = false
			return ""
		}
		s := key[1 : 1+key[0]]
		key = key[1+key[0]:]
		good = good && !strings.ContainsFunc(s, func(r rune) bool { return r < 32 || r == 127 })
		return s
	}
	name := take()
	if !good || key == "" || key[0] > 16 {
		return "", nil, false
	}
	count := int(key[0])
	key = key[1:]
	var l []api.Label
	for i := 0; i < count && good; i++ {
		l = append(l, api.Label{Name: take(), Value: take()})
		good = good && (i == 0 || l[i-1].Name < l[i].Name)
	}
	if !good || key != "" {
		return "", nil, false
	}
	return name, l, true
}

// holdAgainstSlow holds what is told of any bytes against what slowSplit tells.
func holdAgainstSlow(t *testing.T, s string) {
	t.Helper()
	name, l, ok := slowSplit(s)
	if !ok {
		wantNone(t, s)
		return
	}
	wantSplit(t, s, name, l)
	wantKey(t, name, l, s)
}

// P10.2: all short bytes of what matters, and bytes by chance.
func TestSplitShortBytes(t *testing.T) {
	var each func(s string, most int)
	each = func(s string, most int) {
		holdAgainstSlow(t, s)
		if most == 0 {
			return
		}
		for _, b := range []byte{0, 1, 2, 'a', 'b', 127} {
			each(s+string([]byte{b}), most-1)
		}
	}
	each("", 6)
	for _, tail := range []string{"\x01m\x01", "\x01m\x02\x01a\x01b"} {
		each(tail, 5)
	}
	chance := rand.New(rand.NewSource(101))
	const bytes = "\x00\x01\x02\x03abm,\x10\x11\x40\x41\xff"
	for range 20000 {
		s := make([]byte, chance.Intn(60))
		for i := range s {
			s[i] = bytes[chance.Intn(len(bytes))]
		}
		holdAgainstSlow(t, string(s))
	}
}

// P3: the labels that are told are of the caller alone, their spare room too.
func TestSplitIsNew(t *testing.T) {
	key := bytesOf("m", many(3, 1, 1))
	_, one, _ := label.Split(key)
	_, two, _ := label.Split(key)
	_ = append(one, api.Label{Name: "x", Value: "y"})
	one[0] = api.Label{}
	if !slices.Equal(two, many(3, 1, 1)) {
		t.Errorf("%v", two)
	}
	wantSplit(t, key, "m", many(3, 1, 1))
}

// P10.3: a key as a text, and its name.
func TestText(t *testing.T) {
	for want, key := range map[string]string{
		"a":                          "\x01a\x00",
		"up,a=b":                     "\x02up\x01\x01a\x01b",
		"m,a=2,ab=33,b=1":            "\x01m\x03\x01a\x012\x02ab\x0233\x01b\x011",
		`a\ b`:                       "\x03a b\x00",
		`\,\=\ \\,\,\=\ \\=\,\=\ \\`: "\x04,= \\\x01\x04,= \\\x04,= \\",
		"#é\xff,\x80=\"":             "\x04#é\xff\x01\x01\x80\x01\"",
	} {
		if got := label.Text(key); got != want {
			t.Errorf("Text(%q): %q, not %q", key, got, want)
		}
	}
	for key, want := range map[string]string{
		"\x01a\x00": "a", "\x02up\x01\x01a\x01b": "up", "\x04,= \\\x00": escapable, "\x40" + full + "\x00": full, "\x01a\x01": "", "a": "", "": "",
	} {
		if got := label.Metric(key); got != want {
			t.Errorf("Metric(%q): %q, not %q", key, got, want)
		}
	}
}

// P10.3: a text is as a line begins with it.
func TestTextIsParsedAsItWas(t *testing.T) {
	chance := rand.New(rand.NewSource(102))
	for range 5000 {
		name, l := someName(chance), someLabels(chance)
		key, e := label.Key(name, l)
		if e != api.OK || len(label.Text(key)) > 1000 {
			continue
		}
		parsed, e := line.Parse(label.Text(key) + " value=0 0")
		if e != api.OK {
			t.Fatalf("%q: %d", label.Text(key), e)
		}
		wantKey(t, parsed.Name, parsed.Labels, key)
	}
}

// someName is a name by chance, now and then a long one.
func someName(chance *rand.Rand) string {
	const bytes = "ab,= \\é\xff~0"
	s := make([]byte, 1+chance.Intn(3))
	if chance.Intn(4) == 0 {
		s = make([]byte, 1+chance.Intn(64))
	}
	for i := range s {
		s[i] = bytes[chance.Intn(len(bytes))]
	}
	return string(s)
}

func someLabels(chance *rand.Rand) []api.Label {
	var l []api.Label
	for range chance.Intn(17) {
		l = append(l, api.Label{Name: someName(chance), Value: someName(chance)})
	}
	return l
}

// P10.2: what Key and Split tell, by the words of the document.
func TestKeyByWords(t *testing.T) {
	chance := rand.New(rand.NewSource(103))
	for range 20000 {
		name, l := someName(chance), someLabels(chance)
		want, e := slowKey(name, l)
		if e != api.OK {
			wantNoKey(t, name, l, e)
			continue
		}
		wantKey(t, name, l, want)
		sorted, _ := slowSort(l)
		wantSplit(t, want, name, sorted)
	}
}

// P10.4: one key just if name and labels are the same, in whatever order.
func TestOneKeyOfOneSeries(t *testing.T) {
	chance := rand.New(rand.NewSource(104))
	series := map[string]string{} // what it is, by its key
	for range 20000 {
		name, l := someName(chance)[:1], someLabels(chance)
		l = l[:min(len(l), chance.Intn(4))]
		sorted, e := slowSort(l)
		if e != api.OK {
			continue
		}
		key, _ := label.Key(name, l)
		what := fmt.Sprintf("%q%q", name, sorted)
		if was, ok := series[key]; ok && was != what {
			t.Fatalf("%s and %s have one key", was, what)
		}
		series[key] = what
		wantKey(t, name, shuffled(chance, l), key)
	}
	if len(series) < 1000 {
		t.Error(len(series))
	}
	whats := map[string]int{}
	for _, what := range series {
		whats[what]++
		if whats[what] > 1 {
			t.Errorf("%s has two keys", what)
		}
	}
}

// P10.4: what looks alike when it is written without lengths.
func TestAlikeIsUnlike(t *testing.T) {
	keys := map[string]int{}
	all := []struct {
		name string
		l    []api.Label
	}{
		{"m", nil}, {"ma", nil}, {"m,a=b", nil}, {"m", labels("a", "b")}, {"m", labels("ab", "c")}, {"m", labels("a", "bc")}, {"ma", labels("b", "c")},
		{"m", labels("b", "a")}, {"a", labels("m", "b")}, {"m", labels("a", "b,c=d")}, {"m", labels("a", "b", "c", "d")}, {"m", labels("a", "d", "c", "b")},
		{"m", labels("a", "B")}, {"M", labels("a", "b")}, {"m", labels("a", "b ")}, {"m ", labels("a", "b")}, {"m", labels("a=b", "c")}, {"m", labels("a", "=b")},
	}
	for _, x := range all {
		key, e := label.Key(x.name, x.l)
		if keys[key]++; keys[key] > 1 || e != api.OK {
			t.Errorf("%q %q: %q %d", x.name, x.l, key, e)
		}
	}
}
