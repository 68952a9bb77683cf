package sha

import "math/bits"

const (
	// blockSize is how many bytes the state takes in at a time.
	blockSize = 64
	// rounds is how often the letters are moved for a block.
	rounds = 64
)

// constants are the numbers k0 to k63.
var constants = [rounds]uint32{
	0x428a2f98, 0x71374491, 0xb5c0fbcf, 0xe9b5dba5, 0x3956c25b, 0x59f111f1, 0x923f82a4, 0xab1c5ed5,
	0xd807aa98, 0x12835b01, 0x243185be, 0x550c7dc3, 0x72be5d74, 0x80deb1fe, 0x9bdc06a7, 0xc19bf174,
	0xe49b69c1, 0xefbe4786, 0x0fc19dc6, 0x240ca1cc, 0x2de92c6f, 0x4a7484aa, 0x5cb0a9dc, 0x76f988da,
	0x983e5152, 0xa831c66d, 0xb00327c8, 0xbf597fc7, 0xc6e00bf3, 0xd5a79147, 0x06ca6351, 0x14292967,
	0x27b70a85, 0x2e1b2138, 0x4d2c6dfc, 0x53380d13, 0x650a7354, 0x766a0abb, 0x81c2c92e, 0x92722c85,
	0xa2bfe8a1, 0xa81a664b, 0xc24b8b70, 0xc76c51a3, 0xd192e819, 0xd6990624, 0xf40e3585, 0x106aa070,
	0x19a4c116, 0x1e376c08, 0x2748774c, 0x34b0bcb5, 0x391c0cb3, 0x4ed8aa4a, 0x5b9cca4f, 0x682e6ff3,
	0x748f82ee, 0x78a5636f, 0x84c87814, 0x8cc70208, 0x90befffa, 0xa4506ceb, 0xbef9a3f7, 0xc67178f2,
}

// state is what a hash knows of the blocks that went by: the letters a to h.
type state [8]uint32

// begin: the state ahead of all blocks.
func begin() state {
	return state{
		0x6a09e667, 0xbb67ae85, 0x3c6ef372, 0xa54ff53a,
		0x510e527f, 0x9b05688c, 0x1f83d9ab, 0x5be0cd19,
	}
}

// block takes in one block.
func (s *state) block(content *[blockSize]byte) {
	now := *s
	for t, word := range spread(content) {
		now.step(constants[t] + word)
	}
	for i, letter := range now {
		s[i] += letter
	}
}

// step moves each letter to the next one's place; input is kt + wt.
func (s *state) step(input uint32) {
	const a, b, c, e, f, g, h = 0, 1, 2, 4, 5, 6, 7
	choice := s[e]&s[f] | ^s[e]&s[g]
	most := s[a]&s[b] | s[a]&s[c] | s[b]&s[c]
	t1 := s[h] + turned(s[e], 6, 11, 25) + choice + input
	t2 := turned(s[a], 2, 13, 22) + most
	copy(s[b:], s[:h])
	// At e's place stands d by now.
	s[e] += t1
	s[a] = t1 + t2
}

// spread: the words of a block, and those that are made from them.
func spread(content *[blockSize]byte) [rounds]uint32 {
	var w [rounds]uint32
	for t := range blockSize / 4 {
		four := content[4*t : 4*t+4]
		w[t] = uint32(four[0])<<24 | uint32(four[1])<<16 | uint32(four[2])<<8 | uint32(four[3])
	}
	for t := blockSize / 4; t < rounds; t++ {
		w[t] = small1(w[t-2]) + w[t-7] + small0(w[t-15]) + w[t-16]
	}
	return w
}

// small0 is the chapter's s0.
func small0(x uint32) uint32 {
	return right(x, 7) ^ right(x, 18) ^ x>>3
}

// small1 is the chapter's s1.
func small1(x uint32) uint32 {
	return right(x, 17) ^ right(x, 19) ^ x>>10
}

// turned adds three turns of a word without carry: the chapter's S0 and S1.
func turned(x uint32, i, j, k int) uint32 {
	return right(x, i) ^ right(x, j) ^ right(x, k)
}

// right turns a word to the right.
func right(x uint32, by int) uint32 {
	return bits.RotateLeft32(x, -by)
}
