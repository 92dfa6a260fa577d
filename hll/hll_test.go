package hll_test

import (
	"math"
	"math/big"
	"math/rand"
	"strconv"
	"strings"
	"testing"

	"scantling/api"
	"scantling/hll"
	"scantling/sip"
)

const fewestBits, mostBits, mostRank = 4, 10, 26

// run is that many registers of one rank, one behind another.
type run struct {
	rank byte
	many int
}

// registers is the registers of some runs.
func registers(runs ...run) string {
	var all strings.Builder
	for _, r := range runs {
		all.WriteString(strings.Repeat(string([]byte{r.rank}), r.many))
	}
	return all.String()
}

func newSketch(t *testing.T, bits int) *hll.Sketch {
	t.Helper()
	s, err := hll.New(bits)
	if s == nil || err != api.OK {
		t.Fatalf("New(%d): %v %d", bits, s, err)
	}
	return s
}

func sketchOf(t *testing.T, registers string) *hll.Sketch {
	t.Helper()
	s, err := hll.Of(registers)
	if s == nil || err != api.OK {
		t.Fatalf("Of %d registers: %v %d", len(registers), s, err)
	}
	return s
}

// holds asks of s all that it tells.
func holds(t *testing.T, s *hll.Sketch, registers string) {
	t.Helper()
	if got := s.Registers(); got != registers {
		t.Fatalf("registers %x, not %x", got, registers)
	}
	if got := 1 << s.Bits(); got != len(registers) {
		t.Fatalf("%d bits of %d registers", s.Bits(), len(registers))
	}
	if got, want := s.Estimate(), estimateSlowly(registers); got != want {
		t.Fatalf("%d of %x, not %d", got, registers, want)
	}
}

// addSlowly is the registers behind Add of h, by the words of the document;
// and whether they are other ones.
func addSlowly(registers []byte, bits int, h uint64) bool {
	place := h % uint64(len(registers))
	rank := 1
	for bit := bits; bit < 64 && h>>bit&1 == 0; bit++ {
		rank++
	}
	rank = min(rank, mostRank)
	above := rank > int(registers[place])
	if above {
		registers[place] = byte(rank)
	}
	return above
}

// estimateSlowly is Estimate by the words of the document, over numbers of any
// length.
func estimateSlowly(registers string) uint64 {
	many := int64(len(registers))
	whole := new(big.Int).Lsh(big.NewInt(1), 26)
	sum, zeros := new(big.Int), int64(0)
	for _, register := range []byte(registers) {
		power := new(big.Int).Lsh(big.NewInt(1), uint(register))
		sum.Add(sum, power.Div(whole, power))
		if register == 0 {
			zeros++
		}
	}
	a := big.NewInt(map[int64]int64{16: 6730, 32: 6970, 64: 7090}[many])
	if many >= 128 {
		a.Div(big.NewInt(72130000*many), big.NewInt(10000*many+10790))
	}
	raw := a.Mul(a, big.NewInt(many*many))
	raw.Mul(raw, whole)
	raw.Div(raw, sum.Mul(sum, big.NewInt(10000)))
	if zeros == 0 || raw.Cmp(big.NewInt(5*many/2)) > 0 {
		return raw.Uint64()
	}
	var few int64
	for i := zeros + 1; i <= many; i++ {
		few += many * 65536 / i
	}
	return uint64(few / 65536)
}

// someRegisters is registers by chance, of ranks up to a highest one.
func someRegisters(chance *rand.Rand, bits int) string {
	all := make([]byte, 1<<bits)
	highest := 1 + chance.Intn(mostRank)
	zeros := chance.Intn(3)
	for i := range all {
		if chance.Intn(3) >= zeros {
			all[i] = byte(chance.Intn(highest + 1))
		}
	}
	return string(all)
}

// someSum is a sum by chance, that often has many zeros low down.
func someSum(chance *rand.Rand, bits int) uint64 {
	h := chance.Uint64()
	place := h % (1 << bits)
	return h>>bits<<(bits+chance.Intn(65-bits)) | place
}

// P3.1
func TestNew(t *testing.T) {
	for bits := fewestBits; bits <= mostBits; bits++ {
		s := newSketch(t, bits)
		if got := s.Bits(); got != bits {
			t.Errorf("%d bits, not %d", got, bits)
		}
		holds(t, s, strings.Repeat("\x00", 1<<bits))
		if got := s.Estimate(); got != 0 {
			t.Errorf("%d bits: a new one has %d", bits, got)
		}
	}
}

// P3.1, P6: wrong inputs.
func TestNewOfWrongBits(t *testing.T) {
	wrong := []int{3, 11, 2, 1, 0, -1, -4, -10, 12, 16, 32, 63, 64, 65, 127, 256 + 4, 1<<32 + 5, 1 << 62, math.MaxInt, math.MinInt, math.MinInt + 4}
	for _, bits := range wrong {
		if s, err := hll.New(bits); s != nil || err != api.ErrArg {
			t.Errorf("%d bits: %v %d", bits, s, err)
		}
	}
}

// P3.1: which register, which rank, and whether it is above what it was.
func TestAdd(t *testing.T) {
	for _, c := range []struct {
		bits  int
		h     uint64
		place int
		rank  byte
	}{
		{4, 16, 0, 1}, {4, 0x1f, 15, 1}, {4, 0x21, 1, 2}, {4, 0x42, 2, 3}, {4, 0x35, 5, 1}, {4, 0xc7, 7, 3},
		{4, 1 << 28, 0, 25}, {4, 1 << 29, 0, 26}, {4, 1 << 30, 0, 26}, {4, 1 << 63, 0, 26},
		{4, 0, 0, 26}, {4, 15, 15, 26}, {4, math.MaxUint64, 15, 1},
		{5, 16, 16, 26}, {5, 32, 0, 1}, {5, 1<<30 | 31, 31, 26}, {5, 1<<29 | 31, 31, 25},
		{7, 0x80, 0, 1}, {7, 0x1ff, 127, 1}, {7, 0x140, 64, 2},
		{8, 0xabcd00, 0, 1}, {8, 0xabce00, 0, 2}, {8, 0xff, 255, 26},
		{10, 1023, 1023, 26}, {10, 1024, 0, 1}, {10, 1 << 11, 0, 2}, {10, 512, 512, 26},
		{10, 1 << 34, 0, 25}, {10, 1 << 35, 0, 26}, {10, 1 << 36, 0, 26}, {10, 1<<63 | 1000, 1000, 26},
		{10, math.MaxUint64, 1023, 1}, {10, math.MaxUint64 - 1024, 1023, 2}, {10, 0, 0, 26},
	} {
		s := newSketch(t, c.bits)
		if !s.Add(c.h) {
			t.Errorf("%d bits, %x: a new one stays as it is", c.bits, c.h)
		}
		holds(t, s, registers(run{0, c.place}, run{c.rank, 1}, run{0, 1<<c.bits - 1 - c.place}))
		if s.Add(c.h) {
			t.Errorf("%d bits, %x: another one by it again", c.bits, c.h)
		}
	}
}

// P3.1: only what is above counts; the other registers stay.
func TestAddAboveAndBelow(t *testing.T) {
	for bits := fewestBits; bits <= mostBits; bits++ {
		s := newSketch(t, bits)
		last := 1<<bits - 1
		for _, c := range []struct {
			rank, want byte
			above      bool
		}{
			{3, 3, true}, {3, 3, false}, {2, 3, false}, {1, 3, false}, {4, 4, true}, {3, 4, false},
			{25, 25, true}, {24, 25, false}, {26, 26, true}, {25, 26, false}, {27, 26, false}, {40, 26, false}, {1, 26, false},
		} {
			if got := s.Add(1<<(bits+int(c.rank)-1) | uint64(last)); got != c.above {
				t.Errorf("%d bits, rank %d: %v", bits, c.rank, got)
			}
			holds(t, s, registers(run{0, last}, run{c.want, 1}))
		}
		if !s.Add(1<<bits | uint64(last-1)) {
			t.Errorf("%d bits: the register ahead stays as it is", bits)
		}
		holds(t, s, registers(run{0, last - 1}, run{1, 1}, run{26, 1}))
	}
}

// P3.1: each place, with each first bit that there may be, and none.
func TestAddOfEachPlaceAndRank(t *testing.T) {
	for bits := fewestBits; bits <= mostBits; bits++ {
		s := newSketch(t, bits)
		want := make([]byte, 1<<bits)
		for first := bits; first <= 64; first++ {
			for place := range uint64(1 << bits) {
				h := place | math.MaxUint64<<first // of 64 no bit is left
				if first < 64 && place%2 == 1 {
					h = place | 1<<first
				}
				above := addSlowly(want, bits, h)
				if got := s.Add(h); got != above {
					t.Fatalf("%d bits, %x: %v", bits, h, got)
				}
			}
			holds(t, s, string(want))
		}
		holds(t, s, registers(run{mostRank, 1 << bits}))
	}
}

// P3.1
func TestAddByChance(t *testing.T) {
	chance := rand.New(rand.NewSource(31))
	for bits := fewestBits; bits <= mostBits; bits++ {
		s := newSketch(t, bits)
		want := make([]byte, 1<<bits)
		for n := range 4000 {
			h := someSum(chance, bits)
			above := addSlowly(want, bits, h)
			if got := s.Add(h); got != above {
				t.Fatalf("%d bits, %x: %v", bits, h, got)
			}
			if n < 50 || n%400 == 0 {
				holds(t, s, string(want))
			}
		}
		holds(t, s, string(want))
	}
}

// P3.1: what was told stays as it was told.
func TestRegistersTheyWere(t *testing.T) {
	s := newSketch(t, 4)
	before := s.Registers()
	s.Add(16)
	between := s.Registers()
	s.Clear()
	if before != registers(run{0, 16}) || between != registers(run{1, 1}, run{0, 15}) {
		t.Errorf("%x, %x", before, between)
	}
}

// P3.1
func TestClear(t *testing.T) {
	for bits := fewestBits; bits <= mostBits; bits++ {
		other := sketchOf(t, registers(run{7, 1 << bits}))
		s := sketchOf(t, registers(run{mostRank, 1 << bits}))
		for range 2 {
			s.Clear()
			holds(t, s, registers(run{0, 1 << bits}))
		}
		holds(t, other, registers(run{7, 1 << bits}))
		if !s.Add(1 << bits) {
			t.Errorf("%d bits: nothing is added to one that was cleared", bits)
		}
		holds(t, s, registers(run{1, 1}, run{0, 1<<bits - 1}))
	}
}

// P3.1
func TestOf(t *testing.T) {
	chance := rand.New(rand.NewSource(32))
	for bits := fewestBits; bits <= mostBits; bits++ {
		many := 1 << bits
		all := []string{
			registers(run{0, many}), registers(run{1, many}), registers(run{25, many}), registers(run{26, many}),
			registers(run{26, 1}, run{0, many - 1}), registers(run{0, many - 1}, run{26, 1}),
		}
		for range 50 {
			all = append(all, someRegisters(chance, bits))
		}
		for _, want := range all {
			s := sketchOf(t, want)
			holds(t, s, want)
			next := []byte(want)
			for range 20 {
				h := someSum(chance, bits)
				if got, above := s.Add(h), addSlowly(next, bits, h); got != above {
					t.Fatalf("%x: Add of %x is %v", want, h, got)
				}
			}
			holds(t, s, string(next))
		}
	}
}

// P3.1: each rank, at each place.
func TestOfEachRank(t *testing.T) {
	for bits := fewestBits; bits <= mostBits; bits++ {
		for place := range 1 << bits {
			all := make([]byte, 1<<bits)
			for rank := range 256 {
				if rank > 30 && place%97 != 0 {
					continue
				}
				all[place] = byte(rank)
				s, err := hll.Of(string(all))
				if rank <= mostRank && (err != api.OK || s == nil || s.Registers() != string(all)) {
					t.Fatalf("rank %d at %d of %d bits: %d", rank, place, bits, err)
				}
				if rank > mostRank && (err != api.ErrForm || s != nil) {
					t.Fatalf("rank %d at %d of %d bits: %v %d", rank, place, bits, s, err)
				}
			}
		}
	}
}

// P3.1: registers that are no sketch's, by how many they are.
func TestOfWrongLength(t *testing.T) {
	for _, rank := range []byte{0, 1, 26, 27, 255} {
		for many := range 2100 {
			all := registers(run{rank, many})
			s, err := hll.Of(all)
			right := many >= 16 && many <= 1024 && many&(many-1) == 0 && rank <= mostRank
			if right && (s == nil || err != api.OK) || !right && (s != nil || err != api.ErrForm) {
				t.Errorf("%d of %d: %v %d", many, rank, s, err)
			}
		}
		for _, many := range []int{4096, 1 << 16, 1<<16 + 16, 1 << 20} {
			if s, err := hll.Of(registers(run{rank, many})); s != nil || err != api.ErrForm {
				t.Errorf("%d of %d: %v %d", many, rank, s, err)
			}
		}
	}
}

// P3.1
func TestMerge(t *testing.T) {
	chance := rand.New(rand.NewSource(33))
	for bits := fewestBits; bits <= mostBits; bits++ {
		many := 1 << bits
		all := []string{registers(run{0, many}), registers(run{26, many}), registers(run{26, many / 2}, run{1, many / 2}), registers(run{2, many})}
		for range 8 {
			all = append(all, someRegisters(chance, bits))
		}
		for _, left := range all {
			for _, right := range all {
				want := []byte(left)
				for i := range want {
					want[i] = max(left[i], right[i])
				}
				s, other := sketchOf(t, left), sketchOf(t, right)
				if err := s.Merge(other); err != api.OK {
					t.Fatalf("%x and %x: %d", left, right, err)
				}
				holds(t, s, string(want))
				holds(t, other, right)
				s.Clear()
				holds(t, other, right)
			}
		}
	}
}

// P3.1: merged, each goes on for itself.
func TestMergeKeepsNothing(t *testing.T) {
	s, other := newSketch(t, 4), sketchOf(t, registers(run{2, 16}))
	s.Merge(other)
	other.Clear()
	holds(t, s, registers(run{2, 16}))
	other.Add(1<<10 | 3)
	holds(t, s, registers(run{2, 16}))
	s.Add(1<<20 | 3)
	holds(t, other, registers(run{0, 3}, run{7, 1}, run{0, 12}))
}

// P3.1
func TestMergeWithItself(t *testing.T) {
	chance := rand.New(rand.NewSource(34))
	for bits := fewestBits; bits <= mostBits; bits++ {
		want := someRegisters(chance, bits)
		s := sketchOf(t, want)
		if err := s.Merge(s); err != api.OK {
			t.Errorf("%d bits: %d", bits, err)
		}
		holds(t, s, want)
	}
}

// P3.1, P2: of other Bits nothing changes.
func TestMergeOfOtherBits(t *testing.T) {
	for left := fewestBits; left <= mostBits; left++ {
		for right := fewestBits; right <= mostBits; right++ {
			if left == right {
				continue
			}
			s, other := sketchOf(t, registers(run{1, 1 << left})), sketchOf(t, registers(run{2, 1 << right}))
			if err := s.Merge(other); err != api.ErrArg {
				t.Errorf("%d and %d bits: %d", left, right, err)
			}
			holds(t, s, registers(run{1, 1 << left}))
			holds(t, other, registers(run{2, 1 << right}))
		}
	}
}

// P3.2: the estimates are worked out by another program.
func TestEstimateOfRegisters(t *testing.T) {
	for bits, want := range map[int]struct{ ones, nearlyMost, most, mostButOne, oneButOne uint64 }{
		4:  {21, 361314123, 722628247, 172, 38},
		5:  {44, 748398051, 1496796102, 713, 97},
		6:  {90, 1522565906, 3045131812, 2904, 239},
		7:  {183, 3071760610, 6143521220, 11717, 567},
		8:  {367, 6169291023, 12338582047, 47067, 1311},
		9:  {736, 12364351851, 24728703703, 188663, 2978},
		10: {1475, 24756191494, 49512382988, 755487, 6665},
	} {
		many := 1 << bits
		for _, c := range []struct {
			registers string
			want      uint64
		}{
			{registers(run{0, many}), 0},
			{registers(run{26, 1}, run{0, many - 1}), 1},
			{registers(run{0, many - 1}, run{1, 1}), 1},
			{registers(run{1, many}), want.ones},
			{registers(run{25, many}), want.nearlyMost},
			{registers(run{26, many}), want.most},
			{registers(run{26, many - 1}, run{0, 1}), want.mostButOne},
			{registers(run{0, 1}, run{1, many - 1}), want.oneButOne},
		} {
			s := sketchOf(t, c.registers)
			for range 2 {
				if got := s.Estimate(); got != c.want {
					t.Errorf("%d bits, %x: %d, not %d", bits, c.registers, got, c.want)
				}
			}
			holds(t, s, c.registers)
		}
	}
}

// P3.2: one below 5 times M divided by 2, just that, and one above it, each
// with registers that are 0, and with another estimate by these.
func TestEstimateAboutTheBound(t *testing.T) {
	for _, c := range []struct {
		runs []run
		want uint64
	}{
		{[]run{{0, 1}, {2, 12}, {3, 3}}, 38},
		{[]run{{0, 1}, {2, 11}, {3, 4}}, 38},
		{[]run{{0, 1}, {2, 10}, {3, 5}}, 41},
		{[]run{{0, 1}, {1, 1}, {2, 30}}, 97},
		{[]run{{0, 2}, {2, 25}, {3, 5}}, 81},
		{[]run{{0, 1}, {2, 31}}, 81},
		{[]run{{0, 1}, {1, 6}, {2, 57}}, 239},
		{[]run{{0, 3}, {2, 60}, {3, 1}}, 186},
		{[]run{{0, 1}, {1, 5}, {2, 58}}, 161},
		{[]run{{0, 7}, {2, 116}, {3, 5}}, 363},
		{[]run{{0, 24}, {3, 97}, {4, 7}}, 212},
		{[]run{{0, 1}, {1, 15}, {2, 112}}, 321},
		{[]run{{0, 13}, {2, 242}, {3, 1}}, 753},
		{[]run{{0, 1}, {1, 35}, {2, 220}}, 1311},
		{[]run{{0, 13}, {2, 240}, {3, 3}}, 641},
		{[]run{{0, 1}, {1, 75}, {2, 436}}, 2978},
		{[]run{{0, 26}, {2, 485}, {3, 1}}, 1516},
		{[]run{{0, 1}, {1, 74}, {2, 437}}, 1281},
		{[]run{{0, 53}, {2, 966}, {3, 5}}, 3023},
		{[]run{{0, 191}, {3, 832}, {4, 1}}, 1717},
		{[]run{{0, 1}, {1, 153}, {2, 870}}, 2561},
	} {
		s := sketchOf(t, registers(c.runs...))
		if got := s.Estimate(); got != c.want {
			t.Errorf("%v: %d, not %d", c.runs, got, c.want)
		}
	}
}

// P3.2: as many registers that are 0 as there may be.
func TestEstimateByZeros(t *testing.T) {
	of16 := [...]uint64{54, 38, 30, 24, 20, 17, 14, 12, 10, 8, 7, 5, 4, 3, 2, 1, 0}
	for zeros := 1; zeros <= 16; zeros++ {
		s := sketchOf(t, registers(run{1, 16 - zeros}, run{0, zeros}))
		if got := s.Estimate(); got != of16[zeros] {
			t.Errorf("%d of 16: %d, not %d", zeros, got, of16[zeros])
		}
	}
	for bits := fewestBits; bits <= mostBits; bits++ {
		for zeros := range 1<<bits + 1 {
			holds(t, sketchOf(t, registers(run{0, zeros}, run{1, 1<<bits - zeros})), registers(run{0, zeros}, run{1, 1<<bits - zeros}))
		}
	}
}

// P3.2: each part of the sum is rounded down by itself: rounded down but once
// these were one more.
func TestEstimateRoundsEachPartDown(t *testing.T) {
	for _, c := range []struct {
		many, zeros int
		want        uint64
	}{{128, 25, 206}, {512, 57, 1119}, {1024, 372, 1035}, {1024, 22, 3909}} {
		s := sketchOf(t, registers(run{1, c.many - c.zeros}, run{0, c.zeros}))
		if got := s.Estimate(); got != c.want {
			t.Errorf("%d of %d: %d, not %d", c.zeros, c.many, got, c.want)
		}
	}
}

// P3.2
func TestEstimateByChance(t *testing.T) {
	chance := rand.New(rand.NewSource(35))
	for bits := fewestBits; bits <= mostBits; bits++ {
		for range 1000 {
			want := someRegisters(chance, bits)
			holds(t, sketchOf(t, want), want)
		}
	}
}

// P3.2: few sums and many; the estimates are worked out by another program.
func TestEstimateOfSums(t *testing.T) {
	marks := [...]int{0, 1, 2, 3, 5, 8, 10, 20, 50, 100, 200, 500, 1000, 2000, 5000, 10000, 50000, 100000}
	for bits, want := range map[int][len(marks)]uint64{
		4:  {0, 1, 2, 3, 5, 10, 10, 20, 24, 101, 238, 832, 1260, 2051, 4921, 9232, 43510, 137225},
		5:  {0, 1, 2, 3, 5, 9, 9, 18, 36, 96, 232, 555, 1079, 2181, 5213, 11829, 38371, 103527},
		6:  {0, 1, 2, 3, 5, 8, 9, 16, 36, 91, 254, 584, 1062, 2175, 4960, 10420, 44836, 104231},
		7:  {0, 1, 2, 3, 5, 8, 10, 19, 46, 105, 248, 546, 1094, 2246, 5285, 10642, 45088, 92510},
		8:  {0, 1, 2, 3, 5, 8, 10, 18, 46, 100, 217, 513, 1083, 2163, 5486, 10083, 48970, 97608},
		9:  {0, 1, 2, 3, 5, 8, 10, 19, 47, 102, 209, 506, 1008, 2134, 5217, 10108, 48442, 95293},
		10: {0, 1, 2, 3, 5, 8, 10, 20, 48, 100, 201, 511, 1000, 1964, 5108, 10129, 49919, 97820},
	} {
		s := newSketch(t, bits)
		added := 0
		for i, mark := range marks {
			for ; added < mark; added++ {
				s.Add(sip.Sum(0, 0, strconv.Itoa(added)))
			}
			if got := s.Estimate(); got != want[i] {
				t.Errorf("%d bits, %d sums: %d, not %d", bits, mark, got, want[i])
			}
		}
	}
}

// P3.3
func TestInWhateverOrder(t *testing.T) {
	chance := rand.New(rand.NewSource(36))
	for bits := fewestBits; bits <= mostBits; bits++ {
		for _, many := range []int{1, 2, 30, 3000} {
			sums := make([]uint64, many)
			want := make([]byte, 1<<bits)
			for i := range sums {
				sums[i] = someSum(chance, bits)
				addSlowly(want, bits, sums[i])
			}
			for range 5 {
				chance.Shuffle(many, func(i, j int) { sums[i], sums[j] = sums[j], sums[i] })
				s := newSketch(t, bits)
				for i, h := range sums {
					s.Add(h)
					if s.Add(h) || s.Add(sums[chance.Intn(i+1)]) {
						t.Fatalf("%d bits: what was added changes it again", bits)
					}
				}
				holds(t, s, string(want))
			}
		}
	}
}

// P3.3
func TestMergedIsAllOfBoth(t *testing.T) {
	chance := rand.New(rand.NewSource(37))
	for bits := fewestBits; bits <= mostBits; bits++ {
		for _, many := range []int{0, 1, 5, 100, 2000} {
			var parts [3]*hll.Sketch
			for i := range parts {
				parts[i] = newSketch(t, bits)
			}
			all := newSketch(t, bits)
			for range many {
				h := someSum(chance, bits)
				all.Add(h)
				parts[chance.Intn(3)].Add(h)
				parts[chance.Intn(3)].Add(h) // often in two of them
			}
			mergedInAnyOrder(t, parts, all.Registers())
		}
	}
}

// mergedInAnyOrder merges parts one by one, in each order.
func mergedInAnyOrder(t *testing.T, parts [3]*hll.Sketch, want string) {
	t.Helper()
	for first := range 3 {
		for second := range 3 {
			if first == second {
				continue
			}
			s := sketchOf(t, parts[first].Registers())
			for _, part := range []*hll.Sketch{parts[second], parts[3-first-second], parts[second]} {
				if err := s.Merge(part); err != api.OK {
					t.Fatal(err)
				}
			}
			holds(t, s, want)
		}
	}
}
