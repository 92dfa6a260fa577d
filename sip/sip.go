// Package sip is layer 1: see shared/doc/01-sip.md.
package sip

import "math/bits"

const (
	wordBytes = 8
	wordBits  = 64
)

// state is the four words v0 to v3 that a text is mixed into.
type state [4]uint64

// Sum is SipHash-2-4 of s, with the key of the two words k0, k1.
func Sum(k0, k1 uint64, s string) uint64 {
	v := begin(k0, k1)
	words := len(s) / wordBytes
	for i := range words {
		v.mix(lowestFirst(s[i*wordBytes : (i+1)*wordBytes]))
	}
	v.mix(lastWord(s[words*wordBytes:], len(s)))
	return v.finish()
}

// Key is two sums of s that differ in their keys: 128 bits that a text goes by.
func Key(s string) (k0, k1 uint64) {
	return Sum(0, 0, s), Sum(1, 0, s)
}

// Rank is the place, counted from 1 on, of the first bit of h that is 1, of
// those from the bit from on upward; one more than there are, if none is; 0,
// if h has no bit from.
func Rank(h uint64, from int) int {
	if from < 0 || from >= wordBits {
		return 0
	}
	// The shift fills up with zeros from above, so a count of them may go past
	// the bits that there are.
	zeros := bits.TrailingZeros64(h >> uint(from))
	return min(zeros, wordBits-from) + 1
}

// begin is the state that the key of k0, k1 starts from.
func begin(k0, k1 uint64) state {
	return state{
		k0 ^ 0x736f6d6570736575,
		k1 ^ 0x646f72616e646f6d,
		k0 ^ 0x6c7967656e657261,
		k1 ^ 0x7465646279746573,
	}
}

// mix takes one word in.
func (v *state) mix(word uint64) {
	v[3] ^= word
	v.rounds(2)
	v[0] ^= word
}

// finish is the sum of all that was mixed in.
func (v *state) finish() uint64 {
	v[2] ^= 255
	v.rounds(4)
	return v[0] ^ v[1] ^ v[2] ^ v[3]
}

func (v *state) rounds(many int) {
	for range many {
		v.round()
	}
}

func (v *state) round() {
	v[0] += v[1]
	v[2] += v[3]
	v[1] = bits.RotateLeft64(v[1], 13)
	v[3] = bits.RotateLeft64(v[3], 16)
	v[1] ^= v[0]
	v[3] ^= v[2]
	v[0] = bits.RotateLeft64(v[0], 32)
	v[2] += v[1]
	v[0] += v[3]
	v[1] = bits.RotateLeft64(v[1], 17)
	v[3] = bits.RotateLeft64(v[3], 21)
	v[1] ^= v[2]
	v[3] ^= v[0]
	v[2] = bits.RotateLeft64(v[2], 32)
}

// lastWord is what is left of a text, zeros, and in its highest byte how many
// bytes the whole text has, so that texts that differ only in zeros at their
// end have other sums.
func lastWord(left string, whole int) uint64 {
	return lowestFirst(left) | uint64(whole)<<56
}

// lowestFirst is the word of at most eight bytes, the lowest first.
func lowestFirst(s string) uint64 {
	var word uint64
	for i := range len(s) {
		word |= uint64(s[i]) << uint(i*8)
	}
	return word
}
