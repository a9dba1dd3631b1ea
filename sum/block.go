package sum

import (
	"math/bits"

	"pollard/api"
)

// The sizes of FIPS 180-4's SHA-256.
const (
	blockBytes  = 64
	blockWords  = 16
	lengthBytes = 8
	rounds      = 64
	sumWords    = api.IDBytes / wordSize
	wordSize    = 4
)

// roundWords holds what each round adds: the first 32 bits behind the point of the cube roots of the first 64 primes.
var roundWords = [rounds]uint32{
	0x428a2f98, 0x71374491, 0xb5c0fbcf, 0xe9b5dba5, 0x3956c25b, 0x59f111f1, 0x923f82a4, 0xab1c5ed5,
	0xd807aa98, 0x12835b01, 0x243185be, 0x550c7dc3, 0x72be5d74, 0x80deb1fe, 0x9bdc06a7, 0xc19bf174,
	0xe49b69c1, 0xefbe4786, 0x0fc19dc6, 0x240ca1cc, 0x2de92c6f, 0x4a7484aa, 0x5cb0a9dc, 0x76f988da,
	0x983e5152, 0xa831c66d, 0xb00327c8, 0xbf597fc7, 0xc6e00bf3, 0xd5a79147, 0x06ca6351, 0x14292967,
	0x27b70a85, 0x2e1b2138, 0x4d2c6dfc, 0x53380d13, 0x650a7354, 0x766a0abb, 0x81c2c92e, 0x92722c85,
	0xa2bfe8a1, 0xa81a664b, 0xc24b8b70, 0xc76c51a3, 0xd192e819, 0xd6990624, 0xf40e3585, 0x106aa070,
	0x19a4c116, 0x1e376c08, 0x2748774c, 0x34b0bcb5, 0x391c0cb3, 0x4ed8aa4a, 0x5b9cca4f, 0x682e6ff3,
	0x748f82ee, 0x78a5636f, 0x84c87814, 0x8cc70208, 0x90befffa, 0xa4506ceb, 0xbef9a3f7, 0xc67178f2,
}

// firstWords is the words ahead of all blocks: the first 32 bits behind the point of the square roots of the first 8 primes.
func firstWords() [sumWords]uint32 {
	return [sumWords]uint32{
		0x6a09e667, 0xbb67ae85, 0x3c6ef372, 0xa54ff53a, 0x510e527f, 0x9b05688c, 0x1f83d9ab, 0x5be0cd19,
	}
}

// mixed is the words behind one more block.
func mixed(words [sumWords]uint32, block [blockBytes]byte) [sumWords]uint32 {
	plan := schedule(block)
	w := words
	for i := range rounds {
		down := w[7] + bigSigma1(w[4]) + choice(w[4], w[5], w[6]) + roundWords[i] + plan[i]
		top := down + bigSigma0(w[0]) + majority(w[0], w[1], w[2])
		copy(w[1:], w[:sumWords-1])
		w[0] = top
		w[4] += down
	}
	for i := range sumWords {
		words[i] += w[i]
	}
	return words
}

// schedule is a block's own word for each round.
func schedule(block [blockBytes]byte) [rounds]uint32 {
	var plan [rounds]uint32
	for i := range blockWords {
		for j := range wordSize {
			plan[i] = plan[i]<<8 | uint32(block[i*wordSize+j])
		}
	}
	for i := blockWords; i < rounds; i++ {
		plan[i] = smallSigma1(plan[i-2]) + plan[i-7] + smallSigma0(plan[i-15]) + plan[i-16]
	}
	return plan
}

// padding is what comes behind all bytes, so that the last block is full: a bit, noughts, and the count of the bits.
func padding(length uint64) string {
	noughts := (2*blockBytes - 1 - lengthBytes - length%blockBytes) % blockBytes
	p := make([]byte, 1+noughts+lengthBytes)
	p[0] = 0x80
	count := length * 8
	for i := range lengthBytes {
		p[len(p)-1-i] = byte(count >> (8 * i))
	}
	return string(p)
}

// wordBytes is words as bytes, the highest first.
func wordBytes(words [sumWords]uint32) string {
	var out [api.IDBytes]byte
	for i := range out {
		out[i] = byte(words[i/wordSize] >> (8 * (wordSize - 1 - i%wordSize)))
	}
	return string(out[:])
}

// The names of the functions below are those of FIPS 180-4, 4.1.2.

func choice(x, y, z uint32) uint32 { return x&y ^ ^x&z }

func majority(x, y, z uint32) uint32 { return x&y ^ x&z ^ y&z }

func bigSigma0(x uint32) uint32 { return right(x, 2) ^ right(x, 13) ^ right(x, 22) }

func bigSigma1(x uint32) uint32 { return right(x, 6) ^ right(x, 11) ^ right(x, 25) }

func smallSigma0(x uint32) uint32 { return right(x, 7) ^ right(x, 18) ^ x>>3 }

func smallSigma1(x uint32) uint32 { return right(x, 17) ^ right(x, 19) ^ x>>10 }

func right(x uint32, n int) uint32 { return bits.RotateLeft32(x, -n) }
