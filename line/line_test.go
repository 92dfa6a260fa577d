package line_test

import (
	"math"
	"math/rand"
	"regexp"
	"slices"
	"strconv"
	"strings"
	"testing"

	"scantling/api"
	"scantling/fixed"
	"scantling/line"
)

const escapable = ",= \\"

// full is a name as long as may be; over is one byte longer.
var (
	full = strings.Repeat("f", api.MaxName)
	over = full + "f"
)

// notPlain are bytes that may stand in no name.
const notPlain = "\x00\x01\t\n\r\x1f\x7f"

// sample is the line of a name and labels, with names and values in turns.
func sample(value, time int64, name string, labels ...string) line.Line {
	l := line.Line{Name: name, Value: value, Time: time}
	for pair := range slices.Chunk(labels, 2) {
		l.Labels = append(l.Labels, api.Label{Name: pair[0], Value: pair[1]})
	}
	return l
}

// pairs is so many labels, as sample takes them.
func pairs(many int, name, value string) []string {
	return slices.Repeat([]string{name, value}, many)
}

func same(a, b line.Line) bool {
	return a.Name == b.Name && slices.Equal(a.Labels, b.Labels) && a.Value == b.Value && a.Time == b.Time
}

func wantParse(t *testing.T, s string, want line.Line) {
	t.Helper()
	if got, e := line.Parse(s); !same(got, want) || e != api.OK {
		t.Errorf("Parse(%q): %+v %d, not %+v", s, got, e, want)
	}
}

func wantError(t *testing.T, s string, want api.Errno) {
	t.Helper()
	if got, e := line.Parse(s); !same(got, line.Line{}) || e != want {
		t.Errorf("Parse(%q): %+v %d, not %d", s, got, e, want)
	}
}

func wantPrint(t *testing.T, l line.Line, want string) {
	t.Helper()
	if got, ok := line.Print(l); got != want || !ok {
		t.Errorf("Print(%+v): %q %t, not %q", l, got, ok, want)
	}
	if !line.Right(l) {
		t.Errorf("%+v is not right", l)
	}
}

// wantNone holds that l is right or not, and that nothing is printed of it.
func wantNone(t *testing.T, l line.Line, right bool) {
	t.Helper()
	if got, ok := line.Print(l); got != "" || ok {
		t.Errorf("Print(%+v): %q %t", l, got, ok)
	}
	if line.Right(l) != right {
		t.Errorf("Right(%+v): %t", l, !right)
	}
}

var (
	lineForm  = regexp.MustCompile(`^` + wordForm(", ") + `((?:,` + wordForm("=") + `=` + wordForm(", ") + `)*) value=` + emptyOr(wordForm(" ")) + ` ` + emptyOr(wordForm("")) + `$`)
	labelForm = regexp.MustCompile(`,` + wordForm("=") + `=` + wordForm(", "))
	unescape  = strings.NewReplacer(`\,`, `,`, `\=`, `=`, `\ `, ` `, `\\`, `\`)
)

// wordForm is the form of a word that is ended by one of stops.
func wordForm(stops string) string {
	return `((?:[^\x00-\x1f\x7f\\` + stops + `]|\\[,= \\])+)`
}

// emptyOr is the form of a word that may be empty, as the number and the time
// may be ahead of being read.
func emptyOr(form string) string { return strings.TrimSuffix(form, "+)") + "*)" }

// slowParse is Parse by the words of the document.
func slowParse(s string) (line.Line, api.Errno) {
	if len(s) > 1024 {
		return line.Line{}, api.ErrLong
	}
	found := lineForm.FindStringSubmatch(s)
	if found == nil {
		return line.Line{}, api.ErrForm
	}
	names := []string{unescape.Replace(found[1])}
	l := line.Line{Name: names[0]}
	for _, pair := range labelForm.FindAllStringSubmatch(found[2], -1) {
		label := api.Label{Name: unescape.Replace(pair[1]), Value: unescape.Replace(pair[2])}
		l.Labels = append(l.Labels, label)
		names = append(names, label.Name, label.Value)
	}
	tooLong := func(name string) bool { return len(name) > 64 }
	if slices.ContainsFunc(names, tooLong) || len(l.Labels) > 16 {
		return line.Line{}, api.ErrForm
	}
	var e api.Errno
	if l.Value, e = fixed.Read(unescape.Replace(found[len(found)-2])); e != api.OK {
		return line.Line{}, e
	}
	if l.Time, e = fixed.Whole(unescape.Replace(found[len(found)-1])); e != api.OK {
		return line.Line{}, e
	}
	if l.Time < 0 {
		return line.Line{}, api.ErrRange
	}
	return l, api.OK
}

// holdAgainstSlow holds what is parsed of s against what slowParse tells.
func holdAgainstSlow(t *testing.T, s string) {
	t.Helper()
	want, errno := slowParse(s)
	if errno == api.OK {
		wantParse(t, s, want)
		wantBack(t, want)
		return
	}
	wantError(t, s, errno)
}

// wantBack holds that what is printed of l, which is right, is parsed as it
// was.
func wantBack(t *testing.T, l line.Line) {
	t.Helper()
	if !line.Right(l) {
		t.Errorf("%+v is not right", l)
	}
	text, ok := line.Print(l)
	if !ok {
		return
	}
	wantParse(t, text, l)
	if len(text) > 1024 {
		t.Errorf("%d bytes are printed", len(text))
	}
}

// eachText calls do with every text of at most so many of the pieces.
func eachText(pieces []string, most int, do func(string)) {
	do("")
	if most == 0 {
		return
	}
	for _, piece := range pieces {
		eachText(pieces, most-1, func(behind string) { do(piece + behind) })
	}
}

// atEachPlace calls do with text, with each place of it made one of the
// pieces, with each piece put there, and with nothing there.
func atEachPlace(text string, pieces []string, do func(string)) {
	for place := range len(text) + 1 {
		ahead, behind := text[:place], text[place:]
		for _, piece := range pieces {
			do(ahead + piece + behind)
			if behind != "" {
				do(ahead + piece + behind[1:])
			}
		}
		if behind != "" {
			do(ahead + behind[1:])
		}
	}
}

// P9.1: what a line is printed as.
func TestPrint(t *testing.T) {
	for want, l := range map[string]line.Line{
		"m value=1 5":                                       sample(1000000, 5, "m"),
		"m value=0 0":                                       sample(0, 0, "m"),
		"m value=-0.5 0":                                    sample(-500000, 0, "m"),
		"m value=0.000001 10":                               sample(1, 10, "m"),
		"up,a=b value=12.34 7":                              sample(12340000, 7, "up", "a", "b"),
		"up,b=1,a=2 value=1500 7":                           sample(1500000000, 7, "up", "b", "1", "a", "2"), // in order, not sorted
		"up,a=1,a=1 value=0 1":                              sample(0, 1, "up", "a", "1", "a", "1"),          // twice, as they come
		`m\ x,a\=b=c\,d,z=1 value=-1 2`:                     sample(-1000000, 2, "m x", "a=b", "c,d", "z", "1"),
		`\,\=\ \\,\,\=\ \\=\,\=\ \\ value=0 0`:              sample(0, 0, escapable, escapable, escapable),
		"value,value=value value=3 4":                       sample(3000000, 4, "value", "value", "value"),
		"#é\xff~,\"='! value=0 0":                           sample(0, 0, "#é\xff~", "\"", "'!"),
		"m value=9223372036854.775807 9223372036854775807":  sample(math.MaxInt64, math.MaxInt64, "m"),
		"m value=-9223372036854.775808 1152921504606846977": sample(math.MinInt64, 1<<60+1, "m"),
		full + "," + full + "=" + full + " value=0 0":       sample(0, 0, full, full, full),
		"m" + strings.Repeat(",a=b", 16) + " value=0 0":     sample(0, 0, "m", pairs(16, "a", "b")...),
	} {
		wantPrint(t, l, want)
	}
}

// P9.1: names and values of no, one, most and too many bytes, in each place.
func TestRightNames(t *testing.T) {
	for name, right := range map[string]bool{
		"": false, "a": true, " ": true, ",": true, `\`: true, "\x80": true, "é": true, escapable: true,
		full: true, over: false, full[1:]: true, full + full: false, strings.Repeat("é", 32): true, strings.Repeat("é", 33): false,
		strings.Repeat(",", 64): true, strings.Repeat(",", 65): false, // counted without what escapes
		strings.Repeat("x", 1<<20): false,
	} {
		for _, l := range []line.Line{
			sample(0, 0, name), sample(0, 0, "m", name, "b"), sample(0, 0, "m", "a", name),
			sample(0, 0, "m", "a", "b", name, "d", "e", "f"), sample(0, 0, "m", "a", "b", "c", name),
			sample(0, 0, "m", append(pairs(15, "a", "b"), name, "b")...), sample(0, 0, "m", append(pairs(15, "a", "b"), "a", name)...),
		} {
			if got := line.Right(l); got != right {
				t.Errorf("Right(%+v): %t", l, got)
			}
			if _, ok := line.Print(l); ok != right {
				t.Errorf("Print(%+v): %t", l, ok)
			}
		}
	}
}

// P9.1: each byte in each place: what is not plain is not right.
func TestRightBytes(t *testing.T) {
	for b := range 256 {
		text, right := string([]byte{byte(b)}), b >= 32 && b != 127
		for _, name := range []string{text, "a" + text, text + "a", "a" + text + "b", full[1:] + text} {
			for _, l := range []line.Line{sample(0, 0, name), sample(0, 0, "m", name, "b"), sample(0, 0, "m", "a", name), sample(0, 0, "m", "a", "b", "c", name)} {
				if line.Right(l) != right {
					t.Errorf("Right(%+v): %t", l, !right)
				}
				if _, ok := line.Print(l); ok != right {
					t.Errorf("Print(%+v): %t", l, ok)
				}
			}
		}
	}
}

// P9.1: how many labels, and what times there may be.
func TestRightLabelsAndTimes(t *testing.T) {
	for many := range 40 {
		l := sample(0, 0, "m", pairs(many, "a", "b")...)
		if line.Right(l) != (many <= 16) {
			t.Errorf("Right of %d labels: %t", many, many > 16)
		}
	}
	wantNone(t, sample(0, 0, "m", pairs(17, "a", "b")...), false)
	wantNone(t, line.Line{Name: "m", Labels: make([]api.Label, 1<<16)}, false)
	for time, right := range map[int64]bool{0: true, 1: true, -1: false, 1 << 32: true, 1<<60 + 1: true, math.MaxInt64: true, math.MinInt64: false, -1 << 32: false} {
		for _, value := range []int64{0, -1, 1, math.MinInt64, math.MaxInt64} {
			l := sample(value, time, "m", "a", "b")
			if line.Right(l) != right {
				t.Errorf("Right(%+v): %t", l, !right)
			}
			if _, ok := line.Print(l); ok != right {
				t.Errorf("Print(%+v): %t", l, ok)
			}
		}
	}
	wantNone(t, line.Line{}, false)
	wantNone(t, line.Line{Labels: []api.Label{{Name: "a", Value: "b"}}}, false)
	wantPrint(t, line.Line{Name: "m", Labels: []api.Label{}}, "m value=0 0") // no labels may be nil or empty
}

// longest is a line whose text has as many bytes as it may have.
func longest() line.Line {
	labels := append(pairs(7, full, full), "a", full[:37])
	return sample(1000000, 5, full, labels...)
}

// P9.1, P9.2: a line may have up to MaxLine bytes, what escapes with them.
func TestLongLines(t *testing.T) {
	l := longest()
	text, ok := line.Print(l)
	if len(text) != 1024 || !ok {
		t.Fatalf("%d bytes, %t", len(text), ok)
	}
	wantParse(t, text, l)
	last := &l.Labels[7]
	last.Value = full[:38]
	wantNone(t, l, true) // right, though its text is too long
	last.Value = full[:36] + ","
	wantNone(t, l, true)
	last.Value = full[:35] + ","
	wantBack(t, l)
	if text, ok := line.Print(l); len(text) != 1024 || !ok {
		t.Errorf("%d bytes, %t", len(text), ok)
	}
	l.Time = 10
	wantNone(t, l, true)
	l.Time, l.Value = 9, -1000000
	wantNone(t, l, true)
	wantNone(t, sample(0, 0, full, pairs(16, full, full)...), true)
	wantNone(t, sample(0, 0, strings.Repeat(",", 64), pairs(4, strings.Repeat(" ", 64), strings.Repeat("=", 64))...), true)
}

// P9.2: what is above MaxLine bytes is that ahead of all else.
func TestParseLong(t *testing.T) {
	text, _ := line.Print(longest())
	for _, s := range []string{
		text + " ", "x" + text, strings.Repeat("x", 1025), strings.Repeat("\x00", 1025), strings.Repeat(`\`, 1025), strings.Repeat(",", 1025),
		strings.Repeat("m value=1 5\n", 100), "m value=1e99 5" + strings.Repeat(" ", 1011), "m value=1 " + strings.Repeat("0", 1014) + "5",
		strings.Repeat("x", 1<<20), strings.Replace(text, "value=1 ", "value=01 ", 1), strings.Replace(text, "value=1 5", "value=1 -5", 1),
	} {
		wantError(t, s, api.ErrLong)
	}
	for _, s := range []string{strings.Repeat("x", 1024), strings.Repeat("\x00", 1024), text[:1023] + " ", text[1:] + " "} {
		wantError(t, s, api.ErrForm)
	}
}

// P9.2: lines as they are.
func TestParse(t *testing.T) {
	for s, want := range map[string]line.Line{
		"m value=1 5":                    sample(1000000, 5, "m"),
		"m value=-0.5 0":                 sample(-500000, 0, "m"),
		"m value=+1.5E+3 007":            sample(1500000000, 7, "m"),
		"m value=.5e-5 -0":               sample(5, 0, "m"), // a sign and 0 is not below 0
		"up,a=b value=12.340 7":          sample(12340000, 7, "up", "a", "b"),
		"up,b=1,a=2,b=1 value=0 1":       sample(0, 1, "up", "b", "1", "a", "2", "b", "1"), // in order, twice too
		`m\ x,a\=b=c\,d,z=1 value=1 2`:   sample(1000000, 2, "m x", "a=b", "c,d", "z", "1"),
		`\,\=\ \\,\,\=\ \\=\, value=1 2`: sample(1000000, 2, escapable, escapable, ","),
		"value value=1 2":                sample(1000000, 2, "value"),
		"value,value=value value=1 2":    sample(1000000, 2, "value", "value", "value"),
		"#é\xff,\"='! value=1 2":         sample(1000000, 2, "#é\xff", "\"", "'!"),
		// What ends no word there needs no escape.
		"a=b value=1 2":             sample(1000000, 2, "a=b"),
		"= value=1 2":               sample(1000000, 2, "="),
		"m,a b,c=d value=1 2":       sample(1000000, 2, "m", "a b,c", "d"),
		"m, =b value=1 2":           sample(1000000, 2, "m", " ", "b"),
		"m,,=b value=1 2":           sample(1000000, 2, "m", ",", "b"),
		"m,a=b=c,d==e value=1 2":    sample(1000000, 2, "m", "a", "b=c", "d", "=e"),
		"m,a value=1,b=2 value=3 4": sample(3000000, 4, "m", "a value", "1", "b", "2"),
		"m value=9223372036854.775807 9223372036854775807":                         sample(math.MaxInt64, math.MaxInt64, "m"),
		"m value=-9223372036854.775808 0000000000000000000":                        sample(math.MinInt64, 0, "m"),
		"m value=" + strings.Repeat("0", 63) + "1 5":                               sample(1000000, 5, "m"),
		full + "," + full + "=" + full + " value=1 2":                              sample(1000000, 2, full, full, full),
		strings.Repeat(`\,`, 64) + ",a=" + strings.Repeat(`\\`, 64) + " value=1 2": sample(1000000, 2, strings.Repeat(",", 64), "a", strings.Repeat(`\`, 64)),
		"m" + strings.Repeat(",a=b", 16) + " value=1 2":                            sample(1000000, 2, "m", pairs(16, "a", "b")...),
	} {
		wantParse(t, s, want)
		wantBack(t, want)
	}
}

// P9.2: words that are not ended as they are to be, or not there.
func TestParseWords(t *testing.T) {
	for _, s := range []string{
		"", " ", ",", "=", "m", "m ", "m,", "m=", "m,a", "m,a=", "m,a=b", "m,a=b,", "m,a=b ", "m v", "m value", "m value=", "m value=1", "m value= ", "m value=1 ",
		" value=1 5", ",a=b value=1 5", "m, value=1 5", "m,a value=1 5", "m,=b value=1 5", "m,a= value=1 5", "m,a=,b=c value=1 5", "m,a=b, value=1 5", "m,a=b,c value=1 5", "m,a=b,=d value=1 5",
		"m v=1 5", "m Value=1 5", "m values=1 5", "m valu=1 5", "m =1 5", "m  value=1 5", "m value =1 5", "m value,a=1 5", `m value\==1 5`, `m \ value=1 5`, "m value\x00=1 5", "m 1 5", "m a=b value=1 5",
		"m value=1  5", "m value= 1 5", "m value==1 5", "m value=1, 5", "m value=1,5", "m value=1=5", `m value=1\ 5`, "m value=1 5 ", "m value=1 5 6", "m value=1 5,a=b", "m value=1 5=", "m value=1 5\n", "m value=1 5\r",
		"value=1 5", "m\tvalue=1 5", "m value=1\t5", " m value=1 5", "\nm value=1 5", "m\nvalue=1 5", "\ufeffvalue=1 5",
	} {
		wantError(t, s, api.ErrForm)
		wantError(t, s+strings.Repeat(" ", 1000), api.ErrForm)
	}
}

// P9.2: words above MaxName bytes, and lines above MaxLabels labels.
func TestParseBounds(t *testing.T) {
	commas := strings.Repeat(`\,`, 65)
	for _, name := range []string{over, full + full, commas, strings.Repeat("é", 33), strings.Repeat("x", 900)} {
		for _, s := range []string{
			name + " value=1 5", name + ",a=b value=1 5", "m," + name + "=b value=1 5", "m,a=" + name + " value=1 5",
			"m,a=b,c=d," + name + "=f value=1 5", "m,a=b,c=" + name + ",e=f value=1 5", "m " + name + "=1 5", "m value" + name + "=1 5",
		} {
			wantError(t, s, api.ErrForm)
		}
	}
	for many := 17; many < 100; many++ {
		wantError(t, "m"+strings.Repeat(",a=b", many)+" value=1 5", api.ErrForm)
		wantError(t, "m"+strings.Repeat(",a=b", many)+" value=1e99 5", api.ErrForm)
	}
	wantError(t, "m"+strings.Repeat(",a=b", 16)+", value=1 5", api.ErrForm)
	wantParse(t, strings.Repeat("é", 32)+" value=1 5", sample(1000000, 5, strings.Repeat("é", 32)))
}

// P9.2: the error of Cut, in each word.
func TestParseCutErrors(t *testing.T) {
	words := []string{"m", ",a", "=b", ",c", "=d", " value", "=1", " 5"}
	for place := range words {
		ahead, behind := strings.Join(words[:place+1], ""), strings.Join(words[place+1:], "")
		for _, fault := range []string{`\`, `\x`, `\value`, `\5`, `\"`, "\\\n", "\x00", "\t", "\n", "\r", "\x1f", "\x7f"} {
			if fault == `\` && place < len(words)-1 {
				fault = `\` + "a" // else it would escape what ends the word
			}
			wantError(t, ahead+fault+behind, api.ErrForm)
			wantError(t, strings.Replace(ahead+fault+behind, "=1", "=1e99", 1), api.ErrForm) // ahead of the number's error
		}
	}
	wantError(t, `m\ value=1 5`, api.ErrForm)
	wantError(t, `m,a\=b value=1 5`, api.ErrForm)
	wantError(t, `m value\=1 5`, api.ErrForm)
	wantError(t, `m,a=b\ value=1 5`, api.ErrForm)
	wantError(t, `m value=1 5\`, api.ErrForm)
	wantError(t, `m value=1 5\ `, api.ErrForm)
}

// P9.2: the errors of the number, of the time, and which of them is told.
func TestParseNumbers(t *testing.T) {
	tooLong := strings.Repeat("0", 65)
	for s, want := range map[string]api.Errno{
		"m value=x 5": api.ErrForm, "m value=1. 5": api.ErrForm, "m value=0x1 5": api.ErrForm, "m value=1e 5": api.ErrForm, `m value=1\,5 5`: api.ErrForm, "m value=1i 5": api.ErrForm, "m value=NaN 5": api.ErrForm,
		"m value=" + tooLong + " 5": api.ErrForm, "m value=1e00001 5": api.ErrForm,
		"m value=1e99 5": api.ErrRange, "m value=0.0000001 5": api.ErrRange, "m value=9223372036854.775808 5": api.ErrRange, "m value=-9223372036854.775809 5": api.ErrRange, "m value=1e-9999 5": api.ErrRange,
		"m value=1 x": api.ErrForm, "m value=1 +5": api.ErrForm, "m value=1 5.0": api.ErrForm, "m value=1 5e1": api.ErrForm, "m value=1 -": api.ErrForm, "m value=1 --5": api.ErrForm, `m value=1 \,`: api.ErrForm, `m value=1 5\,`: api.ErrForm,
		"m value=1 00000000000000000005": api.ErrForm, "m value=1 -00000000000000000005": api.ErrForm, "m value=1 " + tooLong: api.ErrForm, "m value=1 5 ": api.ErrForm, "m value=1 ,5": api.ErrForm, "m value=1 =": api.ErrForm,
		"m value=1 9223372036854775808": api.ErrRange, "m value=1 9999999999999999999": api.ErrRange, "m value=1 -9223372036854775809": api.ErrRange,
		"m value=1 -1": api.ErrRange, "m value=1 -5": api.ErrRange, "m value=1 -9223372036854775808": api.ErrRange, "m value=1 -0000000000000000001": api.ErrRange,
		// The number's error is told ahead of the time's.
		"m value=x -5": api.ErrForm, "m value=x 9223372036854775808": api.ErrForm, "m value=x x": api.ErrForm,
		"m value=1e99 x": api.ErrRange, "m value=1e99 +5": api.ErrRange, "m value=1e99 5 ": api.ErrRange, "m value=1e99 5.0": api.ErrRange, "m value=1e99 -": api.ErrRange, "m value=1e99 " + tooLong: api.ErrRange, "m value=1e99 -5": api.ErrRange,
		// Of no number, and of no time, too, it is the reading that tells.
		"m value= ": api.ErrForm, "m value= 5": api.ErrForm, "m value= -5": api.ErrForm, "m value= 9223372036854775808": api.ErrForm, "m value=1 ": api.ErrForm, "m value=x ": api.ErrForm,
		"m value=1e99 ": api.ErrRange, "m value=0.0000001 ": api.ErrRange, "m,a=b value=-1e30 ": api.ErrRange,
		// But what has not the words of a line is that ahead of both.
		"m value=1e99": api.ErrForm, "m,a=b value=-1e30": api.ErrForm, "m value=1e99 \x01": api.ErrForm, "m value=1e99 \\": api.ErrForm, "m,=b value=1e99 ": api.ErrForm, "m value=1e99 5\x00": api.ErrForm, "m value=1e99 \\x": api.ErrForm, "m v=1e99 5": api.ErrForm, " value=1e99 -5": api.ErrForm, over + " value=1e99 5": api.ErrForm,
	} {
		wantError(t, s, want)
	}
}

// P9.2: all texts of some pieces that lines are made of.
func TestParseTextsOfPieces(t *testing.T) {
	eachText([]string{"m", ",a=b", ",", "=", " ", " value=", "1", `\`, "-"}, 6, func(s string) { holdAgainstSlow(t, s) })
	letters := strings.Split(",= \\a\x1f", "")
	eachText(letters, 4, func(s string) {
		for _, around := range [][2]string{{"", " value=1 5"}, {"m,", " value=1 5"}, {"m,a=", ",c=d value=1 5"}, {"m", "value=1 5"}, {"m value", "1 5"}, {"m value=1", "5"}, {"m value=1 5", ""}} {
			holdAgainstSlow(t, around[0]+s+around[1])
		}
	})
}

// P9.2: each byte at each place of lines.
func TestParseEachByteAtEachPlace(t *testing.T) {
	var bytes []string
	for b := range 256 {
		bytes = append(bytes, string([]byte{byte(b)}))
	}
	for _, s := range []string{"m value=1 5", `up\ x,a\=b=c,d=\\ value=-1.5e3 120`, "m,a=b value=1e99 5", "m,a=b value=1 -5"} {
		atEachPlace(s, bytes, func(text string) { holdAgainstSlow(t, text) })
	}
	text, _ := line.Print(longest())
	atEachPlace(text, []string{",", "=", " ", `\`}, func(text string) { holdAgainstSlow(t, text) })
}

// someName is a name by chance, of the bytes that matter most.
func someName(chance *rand.Rand) string {
	name := make([]byte, 1+chance.Intn(5))
	if chance.Intn(8) == 0 {
		name = make([]byte, 1+chance.Intn(64))
	}
	for i := range name {
		name[i] = byte(32 + chance.Intn(224))
		if name[i] == 127 || chance.Intn(3) == 0 {
			name[i] = escapable[chance.Intn(len(escapable))]
		}
	}
	return string(name)
}

// someLine is a line by chance, which is right.
func someLine(chance *rand.Rand) line.Line {
	l := line.Line{Name: someName(chance), Value: int64(chance.Uint64()) >> chance.Intn(64), Time: chance.Int63() >> chance.Intn(63)}
	for range chance.Intn(17) {
		l.Labels = append(l.Labels, api.Label{Name: someName(chance), Value: someName(chance)})
	}
	return l
}

// P9.3: what was printed is parsed as it was.
func TestPrintedIsParsedAsItWas(t *testing.T) {
	chance := rand.New(rand.NewSource(9))
	for range 20000 {
		wantBack(t, someLine(chance))
	}
	for _, value := range []int64{0, 1, -1, 999999, 1000000, -1000001, math.MaxInt64, math.MinInt64} {
		for _, time := range []int64{0, 1, 9, 10, 1 << 60, math.MaxInt64} {
			wantBack(t, sample(value, time, "m", "a", "b"))
		}
	}
	for b := 32; b < 256; b++ {
		if text := string([]byte{byte(b)}); b != 127 {
			wantBack(t, sample(0, 0, text, text, text, "a"+text, text+`\`))
		}
	}
}

// P9.2: lines by chance with something put in, left out, or cut off.
func TestParseNearLines(t *testing.T) {
	chance := rand.New(rand.NewSource(99))
	one := func(of ...string) string { return of[chance.Intn(len(of))] }
	for range 20000 {
		s, ok := line.Print(someLine(chance))
		if !ok {
			continue
		}
		for range chance.Intn(3) {
			place := chance.Intn(len(s) + 1)
			ahead, behind := s[:place], s[place:]
			switch chance.Intn(3) {
			case 0:
				s = ahead + one(",", "=", " ", `\`, "-", "\x1f", "0", "value=", "e99", ",a=b", over) + behind
			case 1:
				s = ahead + behind[min(len(behind), 1+chance.Intn(3)):]
			case 2:
				s = ahead
			}
		}
		holdAgainstSlow(t, s)
	}
}

// P9.1: what Print tells, by the words of the document.
func TestPrintByWords(t *testing.T) {
	chance := rand.New(rand.NewSource(999))
	escape := strings.NewReplacer(`,`, `\,`, `=`, `\=`, ` `, `\ `, `\`, `\\`)
	for range 20000 {
		l := someLine(chance)
		want := escape.Replace(l.Name)
		for _, label := range l.Labels {
			want += "," + escape.Replace(label.Name) + "=" + escape.Replace(label.Value)
		}
		want += " value=" + fixed.Text(l.Value) + " " + strconv.FormatInt(l.Time, 10)
		if len(want) > 1024 {
			wantNone(t, l, true)
			continue
		}
		wantPrint(t, l, want)
		at := chance.Intn(len(l.Name) + 1)
		l.Name = l.Name[:at] + string(notPlain[chance.Intn(len(notPlain))]) + l.Name[at:]
		wantNone(t, l, false)
	}
}

// P3: the labels that are handed in stay as they were, their spare room too.
func TestLabelsAreNotWrittenInto(t *testing.T) {
	room := []api.Label{{Name: "z", Value: "1 2"}, {Name: "a", Value: "2"}, {Name: "spare", Value: "3"}}
	was := slices.Clone(room)
	l := line.Line{Name: "m", Labels: room[:2]}
	wantPrint(t, l, `m,z=1\ 2,a=2 value=0 0`)
	if !slices.Equal(room, was) {
		t.Errorf("%v, not %v", room, was)
	}
}

// P3: the labels that are told are of the caller alone, their spare room too.
func TestLabelsAreNew(t *testing.T) {
	const text = "m,a=b,c=d,e=f value=1 2"
	one, _ := line.Parse(text)
	two, _ := line.Parse(text)
	_ = append(one.Labels, api.Label{Name: "x", Value: "y"})
	one.Labels[0] = api.Label{}
	wantParse(t, text, two)
	if want := sample(1000000, 2, "m", "a", "b", "c", "d", "e", "f"); !same(two, want) {
		t.Errorf("%+v", two)
	}
}
