package fixed_test

import (
	"math"
	"math/big"
	"math/rand"
	"regexp"
	"strconv"
	"strings"
	"testing"

	"scantling/api"
	"scantling/fixed"
)

const longest = 64

// edges are numbers beside which something is another thing.
var edges = []int64{
	0, 1, 9, 10, 99, 100, 123456, 500000, 999999,
	1000000, 1000001, 1000010, 1100000, 1999999, 2000000, 9999999, 10000000, 12340000, 100000000000,
	999999999999999999, 1000000000000000000, 1000000000000000001,
	1 << 31, 1<<32 - 1, 1 << 32, 1<<53 + 1, 1 << 62,
	9223372036853999999, 9223372036854000000, 9223372036854000001, 9223372036854775800,
	math.MaxInt64 - 1, math.MaxInt64,
}

func wantRead(t *testing.T, s string, want int64, errno api.Errno) {
	t.Helper()
	if got, err := fixed.Read(s); got != want || err != errno {
		t.Errorf("Read(%q): %d %d, not %d %d", s, got, err, want, errno)
	}
}

func wantWhole(t *testing.T, s string, want int64, errno api.Errno) {
	t.Helper()
	if got, err := fixed.Whole(s); got != want || err != errno {
		t.Errorf("Whole(%q): %d %d, not %d %d", s, got, err, want, errno)
	}
}

// P7.1: numbers worked out by hand.
func TestReadNumbers(t *testing.T) {
	for s, want := range map[string]int64{
		"0": 0, "00": 0, "+0": 0, "-0": 0, ".0": 0, "0.0": 0, "-.0": 0, "0e0": 0, "-0.00e-0": 0,
		"1": 1000000, "+1": 1000000, "-1": -1000000, "7": 7000000, "10": 10000000, "1234567890": 1234567890000000,
		"1.5": 1500000, "+1.5": 1500000, "-1.5": -1500000, "-2.25": -2250000,
		".5": 500000, "+.5": 500000, "-.5": -500000, "0.5": 500000, "00.50": 500000,
		"0.000001": 1, "-0.000001": -1, "0.000010": 10, "0.123456": 123456, "123.456789": 123456789,
		"1.5e3": 1500000000, "1e0": 1000000, "1e1": 10000000, "1e+1": 10000000, "1e-1": 100000, "1E2": 100000000, "1E-2": 10000, "1E+2": 100000000,
		".5e1": 5000000, ".5e-5": 5, "-.25e+2": -25000000, "-3e-6": -3, "12e-6": 12, "120e-7": 12, "12.5e-5": 125,
		"1e01": 10000000, "1e001": 10000000, "1e0001": 10000000, "1e-0006": 1, "1e0000": 1000000, "1e-0": 1000000,
		"000012.500000000": 12500000, "1.500000000000000000000": 1500000,
	} {
		wantRead(t, s, want, api.OK)
	}
}

// P7.1: the ends of what 64 bits with a sign hold, however they are written.
func TestReadEnds(t *testing.T) {
	for s, want := range map[string]int64{
		"9223372036854.775807": math.MaxInt64, "+9223372036854.775807": math.MaxInt64, "9223372036854775807e-6": math.MaxInt64,
		"-9223372036854.775808": math.MinInt64, "-9223372036854775808E-6": math.MinInt64, "-9223372036854775808000000e-12": math.MinInt64,
		"-.9223372036854775808e13": math.MinInt64, "0.0009223372036854775807e16": math.MaxInt64,
		"-9223372036854.775807": -math.MaxInt64, "9223372036854.775806": math.MaxInt64 - 1,
		"9223372036854.775807000": math.MaxInt64, "00009223372036854.775807": math.MaxInt64,
		"9e12": 9000000000000000000, "9.2e12": 9200000000000000000, "-9e12": -9000000000000000000,
	} {
		wantRead(t, s, want, api.OK)
	}
	for _, s := range []string{
		"9223372036854.775808", "+9223372036854.775808", "9223372036854775808e-6", "9223372036854.775809", "9223372036854.776", "9223372036855",
		"-9223372036854.775809", "-9223372036854775809e-6", "-9223372036854.77581", "-9223372036855",
		"9.3e12", "-9.3e12", "1e13", "-1e13", "10000000000000", "9999999999999", "9999999999999.999999",
		"18446744073709.551615", "18446744073709.551616", "18446744073709.551617", "-18446744073709.551616", // what wraps
		"36893488147419.103232", "340282366920938463463374607431768.211456", "18446744073709551616", "18446744073709551616000000",
		"99999999999999999999", "1e14", "1e64", "1e100", "1e255", "1e256", "1e9999", "-1e9999", "1e+9999", "1.5e9999", "0.0000000000000000000000001e9999",
		strings.Repeat("9", longest), "-" + strings.Repeat("9", longest-1),
	} {
		wantRead(t, s, 0, api.ErrRange)
	}
}

// P7.1: what is no whole number of millionths.
func TestReadTooFine(t *testing.T) {
	for _, s := range []string{
		"0.0000001", "-0.0000001", "0.0000009", "0.0000015", "1.0000001", "1.2345678", "1e-7", "-1e-7", "15e-7", "10e-8", "0.1e-6", "1.5e-6",
		"1e-9999", "-1e-9999", "123456e-13", "9223372036854.7758071", "9223372036854.77580700000001", "." + strings.Repeat("0", longest-2) + "1",
		"99999999999999999999e-7", "1000000000000000000001e-7",
	} {
		wantRead(t, s, 0, api.ErrRange)
	}
	for s, want := range map[string]int64{
		"10e-7": 1, "1000e-9": 1, "0.0000010": 1, "0.000001000000000000": 1, "-1500e-8": -15, "1.0000000": 1000000,
		"1000000000000000000000e-20": 10000000, "." + strings.Repeat("0", 50) + "1e45": 1,
	} {
		wantRead(t, s, want, api.OK)
	}
}

// P7.1: 0 is a whole number, however far its digits are moved.
func TestReadNothing(t *testing.T) {
	for _, s := range []string{
		"0e9999", "0e-9999", "-0e9999", "+0E-9999", "0.0000000", "-0.0000000000", "0.0e9999", ".0e-9999", "000e13", "0e14",
		strings.Repeat("0", longest), "-" + strings.Repeat("0", longest-1), "." + strings.Repeat("0", longest-1), "0e0000",
	} {
		wantRead(t, s, 0, api.OK)
	}
}

// P7.1: what is no such text.
func TestReadForm(t *testing.T) {
	for _, s := range []string{
		"", "+", "-", ".", "+.", "-.", "e", "E5", "e5", "-e5", ".e5", "1.", "-1.", "1.e5", "1e", "1E", "1e+", "1e-", "1.5e", "1e.", "1e.5",
		"1..2", "..1", "1.2.3", "1.5.", "--1", "++1", "+-1", "-+1", "1-", "1+", "1-1", "1e--1", "1e+-1", "1e1-", "1ee1", "1e1e1", "1eE1", "1e1.5", "1e 1",
		"1e00001", "1e12345", "1e-00001", "1e+00000", "0e00000", "1e99999999999999999999",
		" 1", "1 ", " ", "1 000", "1,5", "1_000", "0x1", "x", "1x", "x1", "0b1", "1f", "NaN", "Inf", "-Inf", "inf", "nan", "infinity", "1\n", "\t1", "1\x00", "\x00", "-\x00",
		"\u0661", "\uff11", "1\u0661", "\u22121", "1\u00b2", "\xff", "1\xff", "'1'", "1/", "/1", "1:", ":1",
	} {
		wantRead(t, s, 0, api.ErrForm)
	}
}

// P7.1: a text of 64 bytes may be one; one above them is none, whatever it means.
func TestReadLong(t *testing.T) {
	zeros := strings.Repeat("0", longest)
	for _, of := range []struct {
		ahead, behind string
		want          int64
	}{{"", "1", 1000000}, {"-", "1.5", -1500000}, {"+", ".5", 500000}, {"1.5", "", 1500000}, {"", "1e-6", 1}, {"-.5", "e1", -5000000}, {"", "", 0}} {
		fill := longest - len(of.ahead) - len(of.behind)
		wantRead(t, of.ahead+zeros[:fill]+of.behind, of.want, api.OK)
		wantRead(t, of.ahead+zeros[:fill-1]+of.behind, of.want, api.OK)
		wantRead(t, of.ahead+zeros[:fill]+"0"+of.behind, 0, api.ErrForm)
	}
	for _, s := range []string{
		strings.Repeat("9", longest+1), strings.Repeat("1", 1024), "." + strings.Repeat("0", longest), strings.Repeat("x", longest+1), strings.Repeat(" ", 1<<16), strings.Repeat("-", 1<<20),
		strings.Repeat("0", 1<<20), "1" + strings.Repeat("0", 255) + "e-256", "1e-7" + strings.Repeat("0", longest), strings.Repeat("0", 256) + "1", strings.Repeat("0", 319) + "1",
	} {
		wantRead(t, s, 0, api.ErrForm)
	}
}

// P7.1: no form is ErrForm also of numbers that would be out of range.
func TestReadFormAhead(t *testing.T) {
	for _, s := range []string{"99999999999999999999x", "1e9999x", "1e-7 ", "0.0000001.", "1e99999", "-99999999999999999999-", "9223372036854.775808e", strings.Repeat("9", longest+1)} {
		wantRead(t, s, 0, api.ErrForm)
	}
}

var form = regexp.MustCompile(`^([+-]?)([0-9]*)(\.[0-9]+)?([eE][+-]?[0-9]{1,4})?$`)

var (
	million = big.NewRat(api.Million, 1)
	ten     = big.NewInt(10)
)

// slowRead is Read by the words of the document, in numbers of any length.
func slowRead(s string) (int64, api.Errno) {
	found := form.FindStringSubmatch(s)
	if found == nil || found[2]+found[3] == "" || len(s) > longest {
		return 0, api.ErrForm
	}
	digits := found[2] + strings.TrimPrefix(found[3], ".")
	whole, _ := new(big.Int).SetString(digits, 10)
	exponent := len(found[2]) - len(digits)
	if found[4] != "" {
		far, _ := strconv.Atoi(found[4][1:])
		exponent += far
	}
	power := new(big.Int).Exp(ten, big.NewInt(int64(max(exponent, -exponent))), nil)
	number := new(big.Rat).SetInt(whole)
	if exponent < 0 {
		number.Quo(number, new(big.Rat).SetInt(power))
	} else {
		number.Mul(number, new(big.Rat).SetInt(power))
	}
	if found[1] == "-" {
		number.Neg(number)
	}
	number.Mul(number, million)
	if !number.IsInt() || !number.Num().IsInt64() {
		return 0, api.ErrRange
	}
	return number.Num().Int64(), api.OK
}

var wholeForm = regexp.MustCompile(`^-?[0-9]{1,19}$`)

// slowWhole is Whole by the words of the document.
func slowWhole(s string) (int64, api.Errno) {
	if !wholeForm.MatchString(s) {
		return 0, api.ErrForm
	}
	number, _ := new(big.Int).SetString(s, 10)
	if !number.IsInt64() {
		return 0, api.ErrRange
	}
	return number.Int64(), api.OK
}

func holdAgainstSlow(t *testing.T, s string) {
	t.Helper()
	want, errno := slowRead(s)
	wantRead(t, s, want, errno)
	want, errno = slowWhole(s)
	wantWhole(t, s, want, errno)
}

// P7.1, P7.2: all texts of some bytes up to a length.
func TestAllShortTexts(t *testing.T) {
	for letters, most := range map[string]int{"+-.eE019": 5, "-.e1": 7, "-05.e ": 6, "+,_x1e": 4} {
		var texts func(s string)
		texts = func(s string) {
			holdAgainstSlow(t, s)
			if len(s) < most {
				for i := range len(letters) {
					texts(s + letters[i:i+1])
				}
			}
		}
		texts("")
	}
}

// P7.1, P7.2: each byte at each place of texts that are right.
func TestEachByteAtEachPlace(t *testing.T) {
	for _, s := range []string{"-1", "+12.5e-3", "9223372036854775807", "-9223372036854.775808", ".25E+0002", "0"} {
		for place := range len(s) + 1 {
			for b := range 256 {
				holdAgainstSlow(t, s[:place]+string([]byte{byte(b)})+s[place:])
				if place < len(s) {
					holdAgainstSlow(t, s[:place]+string([]byte{byte(b)})+s[place+1:])
				}
			}
		}
	}
}

// P7.1, P7.2: texts by chance, of all lengths about the bound, and what is near them.
func TestTextsByChance(t *testing.T) {
	chance := rand.New(rand.NewSource(7))
	digits := func(most int) string {
		out := make([]byte, chance.Intn(most+1))
		for i := range out {
			out[i] = "00001234567899"[chance.Intn(14)]
		}
		return string(out)
	}
	one := func(of ...string) string { return of[chance.Intn(len(of))] }
	for range 60000 {
		s := one("", "", "+", "-") + one("", "0", strings.Repeat("0", chance.Intn(longest))) + digits(21)
		if chance.Intn(2) == 0 {
			s += "." + digits(9) + one("", strings.Repeat("0", chance.Intn(40)))
		}
		if chance.Intn(2) == 0 {
			s += one("e", "E") + one("", "+", "-", "-") + one("", "0", "00", "1") + strconv.Itoa(chance.Intn(30))
		}
		holdAgainstSlow(t, s)
	}
}

// P7.1: each exponent that may be told, both ways, of numbers at which they reach the ends.
func TestExponents(t *testing.T) {
	for exponent := range 10000 {
		tail := strconv.Itoa(exponent)
		for _, s := range []string{"0", "1", "-1", "9.2", "12300", ".000045", "5" + strings.Repeat("0", 50), "." + strings.Repeat("0", 50) + "6"} {
			if exponent < 80 || exponent > 9990 || exponent&(exponent-1) == 0 || exponent%1000 == 0 {
				for _, e := range []string{"e", "E", "e+", "e-", "E-"} {
					holdAgainstSlow(t, s+e+tail)
				}
			} else if _, err := fixed.Read(s + "e" + tail); s != "0" && err != api.ErrRange {
				t.Errorf("Read(%q): %d", s+"e"+tail, err)
			} else if _, err := fixed.Read(s + "e-" + tail); s != "0" && err != api.ErrRange {
				t.Errorf("Read(%q): %d", s+"e-"+tail, err)
			}
		}
	}
}

// P7.2: texts worked out by hand.
func TestText(t *testing.T) {
	for want, n := range map[string]int64{
		"0": 0, "1": 1000000, "-1": -1000000, "10": 10000000, "100": 100000000, "1000000": 1000000000000,
		"0.000001": 1, "-0.000001": -1, "0.00001": 10, "0.1": 100000, "-0.5": -500000, "0.5": 500000, "0.999999": 999999, "-0.999999": -999999,
		"1.000001": 1000001, "1.00001": 1000010, "1.1": 1100000, "12.34": 12340000, "-12.034": -12034000, "10.01": 10010000, "1.5": 1500000,
		"9223372036854.775807": math.MaxInt64, "9223372036854.775806": math.MaxInt64 - 1, "9223372036854": 9223372036854000000,
		"-9223372036854.775808": math.MinInt64, "-9223372036854.775807": math.MinInt64 + 1, "-9223372036854": -9223372036854000000,
	} {
		if got := fixed.Text(n); got != want {
			t.Errorf("Text(%d): %q, not %q", n, got, want)
		}
	}
}

// P7.2: nothing in a text is needless.
var shape = regexp.MustCompile(`^-?(0|[1-9][0-9]*)(\.[0-9]{0,5}[1-9])?$`)

func holdText(t *testing.T, n int64) {
	t.Helper()
	text := fixed.Text(n)
	if !shape.MatchString(text) || text == "-0" {
		t.Errorf("Text(%d): %q", n, text)
	}
	number, ok := new(big.Rat).SetString(text)
	if !ok || number.Mul(number, million).Cmp(new(big.Rat).SetInt64(n)) != 0 {
		t.Errorf("Text(%d): %q, which is another number", n, text)
	}
	wantRead(t, text, n, api.OK) // P7.3
}

// P7.2, P7.3: numbers about the edges, and by chance of all sizes.
func TestTextIsReadAsItWas(t *testing.T) {
	for _, edge := range edges {
		for near := int64(-1100); near <= 1100; near++ {
			holdText(t, edge+near)
			holdText(t, -edge+near)
			holdText(t, ^edge+near)
		}
	}
	chance := rand.New(rand.NewSource(77))
	for range 50000 {
		holdText(t, int64(chance.Uint64())>>chance.Intn(64))
		holdText(t, chance.Int63n(2e7)-1e7)
		holdText(t, (chance.Int63n(2e9)-1e9)*[]int64{1, 10, 100, 1000, 10000, 100000, 1000000}[chance.Intn(7)])
	}
}

// P7.3: a number is read the same, however it is written.
func TestReadTheSame(t *testing.T) {
	check := func(n int64) {
		whole := strings.TrimPrefix(strconv.FormatInt(n, 10), "-")
		sign := strconv.FormatInt(n, 10)[:len(strconv.FormatInt(n, 10))-len(whole)]
		for shift := 0; shift <= 24; shift++ {
			// The point stands shift digits ahead of the end.
			long := strings.Repeat("0", max(0, shift-len(whole))) + whole
			ahead, part := long[:len(long)-shift], long[len(long)-shift:]
			if part != "" {
				part = "." + part
			}
			exponent := strconv.Itoa(shift - 6)
			wantRead(t, sign+ahead+part+"e"+exponent, n, api.OK)
			wantRead(t, sign+"00"+ahead+part+"E"+exponent, n, api.OK)
			wantRead(t, sign+whole+strings.Repeat("0", shift)+"e-"+strconv.Itoa(shift+6), n, api.OK)
			if part != "" {
				wantRead(t, sign+ahead+part+"000e"+exponent, n, api.OK)
			}
			if sign == "" {
				wantRead(t, "+"+ahead+part+"e"+exponent, n, api.OK)
			}
			if shift >= 6 {
				wantRead(t, sign+ahead+part+"e+"+exponent, n, api.OK)
			}
		}
	}
	for _, edge := range edges {
		check(edge)
		check(-edge)
		check(^edge)
	}
	chance := rand.New(rand.NewSource(777))
	for range 500 {
		check(int64(chance.Uint64()) >> chance.Intn(64))
	}
}

// P7.2: whole numbers worked out by hand.
func TestWhole(t *testing.T) {
	for s, want := range map[string]int64{
		"0": 0, "-0": 0, "7": 7, "-7": -7, "007": 7, "-007": -7, "10": 10, "1000000": 1000000, "1152921504606846976": 1 << 60, "1152921504606846977": 1<<60 + 1,
		"0000000000000000000": 0, "-0000000000000000000": 0, "0000000000000000001": 1, "-0000000000000000001": -1,
		"9223372036854775807": math.MaxInt64, "9223372036854775806": math.MaxInt64 - 1, "-9223372036854775808": math.MinInt64, "-9223372036854775807": -math.MaxInt64,
	} {
		wantWhole(t, s, want, api.OK)
	}
	for _, s := range []string{"9223372036854775808", "9223372036854775809", "-9223372036854775809", "9999999999999999999", "-9999999999999999999", "9300000000000000000"} {
		wantWhole(t, s, 0, api.ErrRange)
	}
}

// P7.2: what tells no whole number.
func TestWholeForm(t *testing.T) {
	for _, s := range []string{
		"", "-", "+", "+1", "+0", "--1", "-+1", "+-1", "1-", "-1-", "1.0", "1.", ".1", ".", "1e1", "1e0", "e", "1E3", " 1", "1 ", "- 1", "1\n", "1\x00", "\x00",
		"x", "1x", "x1", "0x1", "1_0", "1,000", "\u0661", "\uff11", "\u22121", "\xff", "1/", ":1",
		"00000000000000000000", "-00000000000000000000", "00000000000000000001", "10000000000000000000", "18446744073709551616", "-18446744073709551616", "99999999999999999999",
		strings.Repeat("0", longest), strings.Repeat("0", 256), strings.Repeat("1", 257), strings.Repeat("9", 1<<20), "9223372036854775808x", "9999999999999999999 ",
	} {
		wantWhole(t, s, 0, api.ErrForm)
	}
}

// P7.2: of each number of 64 bits the digits are read as it is.
func TestWholeIsReadAsItWas(t *testing.T) {
	for _, edge := range edges {
		for near := int64(-100); near <= 100; near++ {
			for _, n := range []int64{edge + near, -edge + near, ^edge + near} {
				wantWhole(t, strconv.FormatInt(n, 10), n, api.OK)
			}
		}
	}
	chance := rand.New(rand.NewSource(7777))
	for range 50000 {
		n := int64(chance.Uint64()) >> chance.Intn(64)
		wantWhole(t, strconv.FormatInt(n, 10), n, api.OK)
	}
}
