package lex_test

import (
	"bytes"
	"math/rand"
	"slices"
	"strings"
	"testing"

	"scantling/api"
	"scantling/lex"
)

const escapable = ",= \\"

// cutting is what Cut answers.
type cutting struct {
	word, rest string
	stop       byte
	e          api.Errno
}

func cut(s, stops string) cutting {
	word, rest, stop, e := lex.Cut(s, stops)
	return cutting{word, rest, stop, e}
}

func wantCut(t *testing.T, s, stops string, want cutting) {
	t.Helper()
	if got := cut(s, stops); got != want {
		t.Errorf("Cut(%q, %q): %#v, not %#v", s, stops, got, want)
	}
}

func wantLines(t *testing.T, batch string, want ...string) {
	t.Helper()
	if got := lex.Lines(batch); !slices.Equal(got, want) {
		t.Errorf("Lines(%q): %q, not %q", batch, got, want)
	}
}

// slowCut is Cut by the words of the document, one step of it a call.
func slowCut(s, stops string) cutting {
	if s == "" {
		return cutting{}
	}
	steps, stands := 1, s[0]
	switch {
	case s[0] < 32, s[0] == 127:
		return cutting{e: api.ErrForm}
	case s[0] == '\\':
		if len(s) == 1 || !strings.Contains(escapable, s[1:2]) {
			return cutting{e: api.ErrForm}
		}
		steps, stands = 2, s[1]
	case strings.Contains(stops, s[:1]):
		return cutting{rest: s[1:], stop: s[0]}
	}
	after := slowCut(s[steps:], stops)
	if after.e == api.OK {
		after.word = string([]byte{stands}) + after.word
	}
	return after
}

// eachText calls do with every text of the letters, of up to most of them.
func eachText(letters string, most int, do func(string)) {
	do("")
	if most == 0 {
		return
	}
	for i := range len(letters) {
		eachText(letters, most-1, func(behind string) { do(letters[i:i+1] + behind) })
	}
}

// P8.1: words, what stands behind them, and what ended them.
func TestCutWords(t *testing.T) {
	wantCut(t, "a=b", "=", cutting{"a", "b", '=', api.OK})
	wantCut(t, "a,b=c", ",=", cutting{"a", "b=c", ',', api.OK})
	wantCut(t, "a,b=c", "=,", cutting{"a", "b=c", ',', api.OK})
	wantCut(t, "a,b=c", "=", cutting{"a,b", "c", '=', api.OK})
	wantCut(t, "up a=1 5", " ", cutting{"up", "a=1 5", ' ', api.OK})
	wantCut(t, "abc", ",= ", cutting{"abc", "", 0, api.OK})
	wantCut(t, "abc", "", cutting{"abc", "", 0, api.OK})
	wantCut(t, "a,b=c d", "", cutting{"a,b=c d", "", 0, api.OK})
	wantCut(t, "", ",", cutting{})
	wantCut(t, "", "", cutting{})
	wantCut(t, ",", ",", cutting{"", "", ',', api.OK})
	wantCut(t, ",,", ",", cutting{"", ",", ',', api.OK})
	wantCut(t, ",x", ",", cutting{"", "x", ',', api.OK})
	wantCut(t, "x,", ",", cutting{"x", "", ',', api.OK})
	wantCut(t, "x,", ",,", cutting{"x", "", ',', api.OK})
	wantCut(t, "axb", "x", cutting{"a", "b", 'x', api.OK})
	wantCut(t, "a~b", "~", cutting{"a", "b", '~', api.OK})
	wantCut(t, "\xffé z", " ", cutting{"\xffé", "z", ' ', api.OK})
	wantCut(t, "a\xe9b", "\xe9", cutting{"a", "b", 0xe9, api.OK})
	wantCut(t, "a\x80b", "é", cutting{"a\x80b", "", 0, api.OK})
	wantCut(t, "aéb", "é", cutting{"a", "\xa9b", 0xc3, api.OK}) // byte by byte
}

// P8.1: what is escaped ends nothing, and stands in the word without its escape.
func TestCutEscaped(t *testing.T) {
	wantCut(t, `a\,b,c`, ",", cutting{"a,b", "c", ',', api.OK})
	wantCut(t, `a\=b=c`, "=", cutting{"a=b", "c", '=', api.OK})
	wantCut(t, `a\ b c`, " ", cutting{"a b", "c", ' ', api.OK})
	wantCut(t, `a\\b,c`, ",", cutting{`a\b`, "c", ',', api.OK})
	wantCut(t, `a\\,b`, ",", cutting{`a\`, "b", ',', api.OK})
	wantCut(t, `a\\\,b,c`, ",", cutting{`a\,b`, "c", ',', api.OK})
	wantCut(t, `a\\\\,b`, ",", cutting{`a\\`, "b", ',', api.OK})
	wantCut(t, `a\=b,c`, ",", cutting{"a=b", "c", ',', api.OK})
	wantCut(t, `\,\=\ \\`, ",= ", cutting{`,= \`, "", 0, api.OK})
	wantCut(t, `\,\=\ \\`, "", cutting{`,= \`, "", 0, api.OK})
	wantCut(t, `\,`, ",", cutting{",", "", 0, api.OK})
	wantCut(t, `\,,`, ",", cutting{",", "", ',', api.OK})
}

// P8.1: the rest is as it came, whatever stands there.
func TestCutRest(t *testing.T) {
	wantCut(t, `a,b\,c`, ",", cutting{"a", `b\,c`, ',', api.OK})
	wantCut(t, `a,\`, ",", cutting{"a", `\`, ',', api.OK})
	wantCut(t, `a,\x`, ",", cutting{"a", `\x`, ',', api.OK})
	wantCut(t, "a,\x7f\x00\n", ",", cutting{"a", "\x7f\x00\n", ',', api.OK})
	wantCut(t, `a,\\\`, ",", cutting{"a", `\\\`, ',', api.OK})
}

// P8.1: what no word has.
func TestCutForm(t *testing.T) {
	for _, s := range []string{
		`\`, `a\`, `a\\\`, `\a`, `a\b`, `a\b,c`, `\\\a`, `\"`, `\#`, `\/`, `\n`, `\0`, "\\\xff", "\\é",
		"\\\n", "\\\x00", "\\\x7f", "\\\x1f", // what may not stand there, escaped or not
		"\t", "a\tb", "a\n", "a\rb,c", "\x00", "a\x00", "\x1f", "\x7f", "a\x7f,", "\x7f,", "a\\,\x01,",
	} {
		wantCut(t, s, ",", cutting{e: api.ErrForm})
		wantCut(t, s, ",= ", cutting{e: api.ErrForm})
		wantCut(t, s, "", cutting{e: api.ErrForm})
	}
	wantCut(t, `\x`, "x", cutting{e: api.ErrForm}) // only those four may be escaped
	wantCut(t, `a\#b`, "#", cutting{e: api.ErrForm})
	wantCut(t, "a\tb", "\t", cutting{e: api.ErrForm}) // told ahead of what ends a word
	wantCut(t, "a\x7fb", "\x7f", cutting{e: api.ErrForm})
	wantCut(t, "a\nb", "\n", cutting{e: api.ErrForm})
}

// P8.1: each byte alone, escaped, and as what ends a word.
func TestCutEachByte(t *testing.T) {
	for b := range 256 {
		text := string([]byte{byte(b)})
		for _, s := range []string{text, "a" + text, text + "a", "a" + text + "b," + text, `\` + text, `a\` + text + "b,c", `\\` + text, text + `\`} {
			for _, stops := range []string{"", ",", "=", " ", ",= ", text, "," + text, text + "="} {
				if b != '\\' {
					wantCut(t, s, stops, slowCut(s, stops))
				}
			}
		}
	}
}

// P8.1: all short texts of what matters, and all stops of them.
func TestCutShortTexts(t *testing.T) {
	eachText(",= x", 2, func(stops string) {
		eachText(",= \\x\x1f", 5, func(s string) {
			if want, got := slowCut(s, stops), cut(s, stops); got != want {
				t.Fatalf("Cut(%q, %q): %#v, not %#v", s, stops, got, want)
			}
		})
	})
}

// P8.1: stops that have what escapes are refused, ahead of what s is.
func TestCutStops(t *testing.T) {
	for _, stops := range []string{`\`, `,\`, `\,`, `,\=`, `\\`, ",= \\", strings.Repeat(",", 300) + `\`} {
		for _, s := range []string{"", "a", "a,b", `\`, `a\b`, "\x00", "a\\,b"} {
			wantCut(t, s, stops, cutting{e: api.ErrArg})
		}
	}
	wantCut(t, "a\x00b", "\x00\x7f\n", cutting{e: api.ErrForm}) // any other bytes may be stops
	wantCut(t, "ab", "\x00\x7f\n", cutting{word: "ab"})
}

// P8.1: a text cut again and again.
func TestCutAgain(t *testing.T) {
	rest, words, stops := `a\,b,c=d\= e,,\\ `, []string{}, ""
	for {
		word, behind, stop, e := lex.Cut(rest, ",= ")
		if e != api.OK {
			t.Fatal(e)
		}
		words = append(words, word)
		if stop == 0 {
			break
		}
		stops += string(stop)
		rest = behind
	}
	if want := []string{"a,b", "c", "d=", "e", "", `\`, ""}; !slices.Equal(words, want) || stops != ",= ,, " {
		t.Errorf("%q %q", words, stops)
	}
}

// P8.1: long texts.
func TestCutLong(t *testing.T) {
	long := strings.Repeat("abc ", 1<<18)
	wantCut(t, long, ",", cutting{word: long})
	wantCut(t, long+","+long, ",", cutting{long, long, ',', api.OK})
	wantCut(t, strings.Repeat(`\,`, 1<<18)+",x", ",", cutting{strings.Repeat(",", 1<<18), "x", ',', api.OK})
	wantCut(t, long+"\x7f", ",", cutting{e: api.ErrForm})
	wantCut(t, long+`\`, ",", cutting{e: api.ErrForm})
}

// P8.2: a byte ahead of each that may be escaped, and no other.
func TestEscape(t *testing.T) {
	for s, want := range map[string]string{
		"": "", "abc": "abc", ",": `\,`, "=": `\=`, " ": `\ `, `\`: `\\`, `\\`: `\\\\`, `\,`: `\\\,`,
		`a,b=c d\`: `a\,b\=c\ d\\`, ",,==": `\,\,\=\=`, "é ü": `é\ ü`, "\xff\x80,": "\xff\x80" + `\,`,
		"a\tb\nc\x00\x7f": "a\tb\nc\x00\x7f", "#\"'/": "#\"'/",
	} {
		if got := lex.Escape(s); got != want {
			t.Errorf("Escape(%q): %q, not %q", s, got, want)
		}
	}
	for b := range 256 {
		text := string([]byte{byte(b)})
		want := text
		if strings.Contains(escapable, text) {
			want = `\` + text
		}
		if got := lex.Escape(text); got != want {
			t.Errorf("Escape(%q): %q", text, got)
		}
		if got := lex.Escape("a" + text + text + "b"); got != "a"+want+want+"b" {
			t.Errorf("Escape of %q twice: %q", text, got)
		}
	}
}

// P8.2: each byte, in each place.
func TestPlain(t *testing.T) {
	if !lex.Plain("") || !lex.Plain("a b~,=\\#") || !lex.Plain(strings.Repeat("é\xff", 1000)) {
		t.Error("texts that are plain")
	}
	for b := range 256 {
		text, want := string([]byte{byte(b)}), b >= 32 && b != 127
		for _, s := range []string{text, "a" + text, text + "a", "ab" + text + "cd", text + text} {
			if lex.Plain(s) != want {
				t.Errorf("Plain(%q): %t", s, !want)
			}
		}
	}
}

// P8.2: cut at each newline, without what says nothing.
func TestLines(t *testing.T) {
	wantLines(t, "")
	wantLines(t, "\n")
	wantLines(t, "\n\n\n")
	wantLines(t, "a", "a")
	wantLines(t, "a\n", "a")
	wantLines(t, "\na", "a")
	wantLines(t, "a\nb", "a", "b")
	wantLines(t, "a\n\nb\n", "a", "b")
	wantLines(t, "b\na\nb\n", "b", "a", "b")
	wantLines(t, " \n\t\n", " ", "\t")
	wantLines(t, "a\\\nb", `a\`, "b") // a newline is cut at, whatever stands ahead of it
	wantLines(t, "\xff\n\x00\né", "\xff", "\x00", "é")
	wantLines(t, "a\vb\fc\u0085d\u2028e", "a\vb\fc\u0085d\u2028e") // no other byte ends a line
}

// P8.2: one carriage return at the end of a line is no part of it.
func TestLinesReturns(t *testing.T) {
	wantLines(t, "a\r\nb\r\n", "a", "b")
	wantLines(t, "a\r", "a") // the last line ends too
	wantLines(t, "a\r\r\n", "a\r")
	wantLines(t, "a\rb\n", "a\rb")
	wantLines(t, "\ra\n", "\ra")
	wantLines(t, "\n\ra", "\ra")
	wantLines(t, "\r")
	wantLines(t, "\r\n\r\n")
	wantLines(t, "\r\r", "\r")
	wantLines(t, "a\r\n\r\n\r\r\nb", "a", "\r", "b")
}

// P8.2: what begins with a # is left out.
func TestLinesRemarks(t *testing.T) {
	wantLines(t, "#")
	wantLines(t, "#\n#a\n##\n#\r\n")
	wantLines(t, "#a\nb\n#c", "b")
	wantLines(t, " #\na#\n\r#", " #", "a#", "\r#")
	wantLines(t, "\\#a", `\#a`)
	wantLines(t, "a\n\n#b\r\nc\r\n\r\r\n d#\n", "a", "c", "\r", " d#")
}

// slowLines is Lines by the words of the document, byte by byte.
func slowLines(batch string) []string {
	var lines []string
	line := []byte{}
	for _, b := range []byte(batch + "\n") {
		if b != '\n' {
			line = append(line, b)
			continue
		}
		if last := len(line) - 1; last >= 0 && line[last] == '\r' {
			line = line[:last]
		}
		if len(line) > 0 && !bytes.HasPrefix(line, []byte("#")) {
			lines = append(lines, string(line))
		}
		line = line[:0]
	}
	return lines
}

// P8.2: all short batches of what matters.
func TestLinesShortBatches(t *testing.T) {
	eachText("a#\r\n ", 7, func(batch string) {
		if got, want := lex.Lines(batch), slowLines(batch); !slices.Equal(got, want) {
			t.Fatalf("Lines(%q): %q, not %q", batch, got, want)
		}
	})
}

// P8.2, P3: the list is of the caller alone, its spare room too.
func TestLinesAreNew(t *testing.T) {
	batch := "a\nb\nc"
	one, two := lex.Lines(batch), lex.Lines(batch)
	_ = append(one, "x")
	one[0] = "y"
	if !slices.Equal(two, []string{"a", "b", "c"}) || !slices.Equal(lex.Lines(batch), two) {
		t.Errorf("%q %q", two, lex.Lines(batch))
	}
}

// wantBack holds that s is cut out of its escaped text as it was.
func wantBack(t *testing.T, s string) {
	t.Helper()
	text := lex.Escape(s)
	for _, stops := range []string{"", ",", "=", " ", ",=", ", ", "= ", ",= "} {
		want := cutting{word: s}
		if !lex.Plain(s) {
			want = cutting{e: api.ErrForm}
		}
		if got := cut(text, stops); got != want {
			t.Fatalf("Cut(%q, %q): %#v, not %#v", text, stops, got, want)
		}
		if stops == "" || !lex.Plain(s) {
			continue
		}
		more := cutting{s, `\z`, stops[0], api.OK}
		if got := cut(text+stops[:1]+`\z`, stops); got != more {
			t.Fatalf("Cut(%q and more, %q): %#v", text, stops, got)
		}
	}
}

// P8.3: what was escaped is cut as it was.
func TestEscapedIsCutAsItWas(t *testing.T) {
	eachText(escapable+"a\x1f", 5, func(s string) { wantBack(t, s) })
	for b := range 256 {
		text := string([]byte{byte(b)})
		wantBack(t, text)
		wantBack(t, "a"+text+`\`+text)
	}
	chance := rand.New(rand.NewSource(8))
	for range 3000 {
		s := make([]byte, chance.Intn(40))
		for i := range s {
			s[i] = byte(32 + chance.Intn(224))
			if s[i] == 127 || chance.Intn(3) == 0 {
				s[i] = escapable[chance.Intn(4)]
			}
		}
		wantBack(t, string(s))
	}
}
