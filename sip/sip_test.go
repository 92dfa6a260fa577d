package sip_test

import (
	"math"
	"strings"
	"sync"
	"testing"

	"scantling/sip"
)

// The sums of the texts 00, 00 01, 00 01 02 .. with the key 00 .. 0f: the
// vectors that SipHash-2-4 was published with.
var published = [64]uint64{
	0x726fdb47dd0e0e31, 0x74f839c593dc67fd, 0x0d6c8009d9a94f5a, 0x85676696d7fb7e2d,
	0xcf2794e0277187b7, 0x18765564cd99a68d, 0xcbc9466e58fee3ce, 0xab0200f58b01d137,
	0x93f5f5799a932462, 0x9e0082df0ba9e4b0, 0x7a5dbbc594ddb9f3, 0xf4b32f46226bada7,
	0x751e8fbc860ee5fb, 0x14ea5627c0843d90, 0xf723ca908e7af2ee, 0xa129ca6149be45e5,
	0x3f2acc7f57c29bdb, 0x699ae9f52cbe4794, 0x4bc1b3f0968dd39c, 0xbb6dc91da77961bd,
	0xbed65cf21aa2ee98, 0xd0f2cbb02e3b67c7, 0x93536795e3a33e88, 0xa80c038ccd5ccec8,
	0xb8ad50c6f649af94, 0xbce192de8a85b8ea, 0x17d835b85bbb15f3, 0x2f2e6163076bcfad,
	0xde4daaaca71dc9a5, 0xa6a2506687956571, 0xad87a3535c49ef28, 0x32d892fad841c342,
	0x7127512f72f27cce, 0xa7f32346f95978e3, 0x12e0b01abb051238, 0x15e034d40fa197ae,
	0x314dffbe0815a3b4, 0x027990f029623981, 0xcadcd4e59ef40c4d, 0x9abfd8766a33735c,
	0x0e3ea96b5304a7d0, 0xad0c42d6fc585992, 0x187306c89bc215a9, 0xd4a60abcf3792b95,
	0xf935451de4f21df2, 0xa9538f0419755787, 0xdb9acddff56ca510, 0xd06c98cd5c0975eb,
	0xe612a3cb9ecba951, 0xc766e62cfcadaf96, 0xee64435a9752fe72, 0xa192d576b245165a,
	0x0a8787bf8ecb74b2, 0x81b3e73d20b49b6f, 0x7fa8220ba3b2ecea, 0x245731c13ca42499,
	0xb78dbfaf3a8d83bd, 0xea1ad565322a1a0b, 0x60e61c23a3795013, 0x6606d7e446282b93,
	0x6ca4ecb15c5f91e1, 0x9f626da15c9625f3, 0xe51b38608ef25f57, 0x958a324ceb064572,
}

const publishedK0, publishedK1 = 0x0706050403020100, 0x0f0e0d0c0b0a0908

// The lengths of the texts that are summed with other keys: about a word, and
// about where the count of bytes no longer fits into one byte.
var sumLengths = [12]int{0, 1, 7, 8, 9, 255, 256, 257, 511, 512, 1024, 65537}

// text has every byte there is, and unlike words.
func text(length int) string {
	b := make([]byte, length)
	for i := range b {
		b[i] = byte(255 - i*7 - i/256)
	}
	return string(b)
}

// P1.1
func TestSumIsThePublishedOne(t *testing.T) {
	var b []byte
	for n, want := range published {
		if got := sip.Sum(publishedK0, publishedK1, string(b)); got != want {
			t.Errorf("%d bytes: %016x, not %016x", n, got, want)
		}
		b = append(b, byte(n))
	}
}

// P1.1: other keys and longer texts; the sums are those of another program
// (openssl mac SIPHASH).
func TestSumOfOtherKeysAndLongTexts(t *testing.T) {
	for _, c := range []struct {
		k0, k1 uint64
		want   [len(sumLengths)]uint64
	}{
		{0, 0, [...]uint64{
			0x1e924b9d737700d7, 0x20dd4eb33d9590f2, 0x885e4034e4205de6, 0x4562d024b47f35f6,
			0x2069d4962a7124ed, 0xbdc90d6d11e0b645, 0x89d5ecbbb4329b75, 0xc335c54868aa5435,
			0x96f58f6cf7697eab, 0xf92c852111438f82, 0x1022da3ce3b83df5, 0x736c789e8d4b9987,
		}},
		{1, 0, [...]uint64{
			0x54e761ac4b1ca3de, 0x69ce802912c70ef1, 0x9a12d5dc78e7e521, 0x2d1b53beec1c809c,
			0x9c0b30d0f08d7cb1, 0xe5a89735923237f8, 0xe7103e9e53a20527, 0x8d2367203cf98a41,
			0x9f206c03d5ab4025, 0x768479d8023171a0, 0x409652f3854cba29, 0xcf3d79e59a4a7cdc,
		}},
		{0, 1, [...]uint64{
			0xc4235c5247d6521c, 0x6d033915367333ee, 0x1caeb4dd7489c35c, 0xbab69fd8be3e5b9a,
			0x21aaaa810a866a76, 0xbc39d40a9c11ca51, 0x2a6ca14ba9f3f875, 0xb6f6013b9659e1fd,
			0x52b3d905636b23ef, 0xb5ecbd3fe306927c, 0xa4faa149fa1efc70, 0x6911670742529f1a,
		}},
		{math.MaxUint64, math.MaxUint64, [...]uint64{
			0x35dd279ee86ce565, 0xeb45304aebf4e114, 0x21ee5394f5f59de0, 0x199064d37cc6e426,
			0x27cedeec359e3aac, 0xc2b5e05157b9175b, 0x73f0a206b3803ed4, 0x749ff965450d0d60,
			0x12ca755a1c0c7ee6, 0x5b7740ce1e6e8e20, 0x471af57446ded199, 0xc1e7c2899a777f8d,
		}},
		{1 << 63, 1, [...]uint64{
			0xb80261731e097a96, 0x1c479d327dadaa4b, 0x624333fb6f47777d, 0xc11f110c10b873cf,
			0xdb27ac7d65c159f7, 0xbcec0ec2d24f521c, 0x136a32c7a2ef3223, 0x16c2142938a14343,
			0x3dbefd39e60aa774, 0x4c1eddee248e835b, 0x0c6c016edac8273c, 0xd9b2927a6622212b,
		}},
	} {
		for i, length := range sumLengths {
			if got := sip.Sum(c.k0, c.k1, text(length)); got != c.want[i] {
				t.Errorf("key %x %x, %d bytes: %016x, not %016x", c.k0, c.k1, length, got, c.want[i])
			}
		}
	}
}

// P1.2
func TestKeyOfTexts(t *testing.T) {
	for _, c := range []struct {
		text   string
		k0, k1 uint64
	}{
		{"", 0x1e924b9d737700d7, 0x54e761ac4b1ca3de},
		{"a", 0x96c20860cd93a249, 0xb756d69b679d63d1},
		{"abc", 0x3fc884964770eede, 0x4f4bd7030974e1cb},
		{"seven b", 0xedefee90cf5b1d0c, 0x6cfba9abd98088f1},
		{"eight by", 0x8863d661292b36be, 0xdf18e14551b73b41},
		{"nine byte", 0x9ab0f7381b0219b1, 0x22e8fe2a7935f09d},
		{"größe", 0x22c0c0fb72e9fa30, 0x32ac34dd91e9e806},
		{text(255), 0xbdc90d6d11e0b645, 0xe5a89735923237f8},
		{text(256), 0x89d5ecbbb4329b75, 0xe7103e9e53a20527},
		{text(65537), 0x736c789e8d4b9987, 0xcf3d79e59a4a7cdc},
	} {
		if k0, k1 := sip.Key(c.text); k0 != c.k0 || k1 != c.k1 {
			t.Errorf("%d bytes: %016x %016x, not %016x %016x", len(c.text), k0, k1, c.k0, c.k1)
		}
	}
}

// P1.2
func TestRankOfBits(t *testing.T) {
	for _, c := range []struct {
		h          uint64
		from, want int
	}{
		{8, 0, 4}, {8, 1, 3}, {8, 3, 1}, {8, 4, 61},
		{5, 0, 1}, {5, 1, 2}, {5, 3, 62},
		{0, 0, 65}, {0, 1, 64}, {0, 32, 33}, {0, 62, 3}, {0, 63, 2},
		{1, 0, 1}, {1, 1, 64}, {1, 63, 2},
		{1 << 63, 0, 64}, {1 << 63, 1, 63}, {1 << 63, 62, 2}, {1 << 63, 63, 1},
		{1 << 62, 63, 2}, {1 << 62, 62, 1},
		{math.MaxUint64, 0, 1}, {math.MaxUint64, 31, 1}, {math.MaxUint64, 63, 1},
	} {
		if got := sip.Rank(c.h, c.from); got != c.want {
			t.Errorf("Rank(%x, %d) is %d, not %d", c.h, c.from, got, c.want)
		}
	}
}

// P1.2: two bits of all, of every place and from every place.
func TestRankOfEveryPlace(t *testing.T) {
	for low := range 64 {
		for high := low; high < 64; high++ {
			h := uint64(1)<<low | uint64(1)<<high
			for from := range 64 {
				want := 64 - from + 1
				if from <= low {
					want = low - from + 1
				} else if from <= high {
					want = high - from + 1
				}
				if got := sip.Rank(h, from); got != want {
					t.Fatalf("Rank(%x, %d) is %d, not %d", h, from, got, want)
				}
			}
		}
	}
}

// P1.2, P6: wrong inputs.
func TestRankFromNoBit(t *testing.T) {
	for _, from := range []int{-1, -2, -63, -64, -65, math.MinInt, math.MinInt + 1, 64, 65, 127, 128, 256, 1 << 32, math.MaxInt} {
		for _, h := range []uint64{0, 1, 8, 1 << 63, math.MaxUint64} {
			if got := sip.Rank(h, from); got != 0 {
				t.Errorf("Rank(%x, %d) is %d, not 0", h, from, got)
			}
		}
	}
}

// P1.3: the same text has the same sum, wherever it stands, whatever was
// summed between, whoever else sums.
func TestSumIsSoAgain(t *testing.T) {
	for _, length := range []int{0, 1, 7, 8, 9, 255, 256, 257} {
		s := text(length)
		first := sip.Sum(3, 4, s)
		k0, k1 := sip.Key(s)
		for shift := range 9 {
			piece := (strings.Repeat("x", shift) + s + "tail")[shift : shift+length]
			sip.Sum(4, 3, piece+"between")
			if got := sip.Sum(3, 4, piece); got != first {
				t.Errorf("%d bytes, %d behind: %016x, not %016x", length, shift, got, first)
			}
			if a, b := sip.Key(piece); a != k0 || b != k1 {
				t.Errorf("%d bytes, %d behind: key %016x %016x, not %016x %016x", length, shift, a, b, k0, k1)
			}
		}
	}
}

// P1.3
func TestSumIsSoAmongMany(t *testing.T) {
	const many = 8
	s := text(300)
	want := sip.Sum(5, 6, s)
	var got [many]uint64
	var wait sync.WaitGroup
	for i := range many {
		wait.Go(func() {
			sip.Sum(uint64(i), 6, s[i:])
			got[i] = sip.Sum(5, 6, s)
		})
	}
	wait.Wait()
	for i, sum := range got {
		if sum != want {
			t.Errorf("worker %d: %016x, not %016x", i, sum, want)
		}
	}
}

// P1.3: each bit of each byte is turned, and no two of the texts share a sum.
func TestSumHangsOnEachByte(t *testing.T) {
	for _, length := range []int{1, 2, 7, 8, 9, 15, 16, 17, 63, 64, 65, 255, 256, 257} {
		b := []byte(text(length))
		seen := map[uint64]int{sip.Sum(7, 8, string(b)): -1}
		for bit := range length * 8 {
			b[bit/8] ^= 1 << (bit % 8)
			sum := sip.Sum(7, 8, string(b))
			b[bit/8] ^= 1 << (bit % 8)
			if other, ok := seen[sum]; ok {
				t.Fatalf("%d bytes: bits %d and %d turned have one sum", length, bit, other)
			}
			seen[sum] = bit
		}
	}
}

// P1.1, P1.3: zeros are bytes too, so that texts of them are unlike by how
// many there are; 256 more too, which the highest byte alone would not tell.
func TestSumHangsOnHowManyZeros(t *testing.T) {
	zeros := strings.Repeat("\x00", 1100)
	seen := map[uint64]int{}
	for length := range len(zeros) + 1 {
		sum := sip.Sum(0, 0, zeros[:length])
		if other, ok := seen[sum]; ok {
			t.Fatalf("%d and %d zeros have one sum", length, other)
		}
		seen[sum] = length
	}
}

// P1.1: each bit of both words of the key counts.
func TestSumHangsOnTheKey(t *testing.T) {
	for _, s := range []string{"", "abc", text(256)} {
		seen := map[uint64]int{sip.Sum(0, 0, s): -1}
		for bit := range 128 {
			var key [2]uint64
			key[bit/64] = 1 << (bit % 64)
			sum := sip.Sum(key[0], key[1], s)
			if other, ok := seen[sum]; ok {
				t.Fatalf("%d bytes: key bits %d and %d have one sum", len(s), bit, other)
			}
			seen[sum] = bit
		}
	}
}
