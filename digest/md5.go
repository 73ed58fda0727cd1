package digest

const (
	blockBytes = 64
	wordBytes  = 4
	sizeBytes  = 8 // the room of the length, at the end of the last block
	padByte    = 128
)

// sines has the whole part of 2^32 times |sin(i + 1)|: written out, as a sine that is worked out may differ in its last bits from machine to machine.
var sines = [64]uint32{
	0xd76aa478, 0xe8c7b756, 0x242070db, 0xc1bdceee, 0xf57c0faf, 0x4787c62a, 0xa8304613, 0xfd469501,
	0x698098d8, 0x8b44f7af, 0xffff5bb1, 0x895cd7be, 0x6b901122, 0xfd987193, 0xa679438e, 0x49b40821,
	0xf61e2562, 0xc040b340, 0x265e5a51, 0xe9b6c7aa, 0xd62f105d, 0x02441453, 0xd8a1e681, 0xe7d3fbc8,
	0x21e1cde6, 0xc33707d6, 0xf4d50d87, 0x455a14ed, 0xa9e3e905, 0xfcefa3f8, 0x676f02d9, 0x8d2a4c8a,
	0xfffa3942, 0x8771f681, 0x6d9d6122, 0xfde5380c, 0xa4beea44, 0x4bdecfa9, 0xf6bb4b60, 0xbebfbc70,
	0x289b7ec6, 0xeaa127fa, 0xd4ef3085, 0x04881d05, 0xd9d4d039, 0xe6db99e5, 0x1fa27cf8, 0xc4ac5665,
	0xf4292244, 0x432aff97, 0xab9423a7, 0xfc93a039, 0x655b59c3, 0x8f0ccc92, 0xffeff47d, 0x85845dd1,
	0x6fa87e4f, 0xfe2ce6e0, 0xa3014314, 0x4e0811a1, 0xf7537e82, 0xbd3af235, 0x2ad7d2bb, 0xeb86d391,
}

// turns has the shifts of each round; they come again every four steps.
var turns = [4][4]int{
	{7, 12, 17, 22},
	{5, 9, 14, 20},
	{4, 11, 16, 23},
	{6, 10, 15, 21},
}

// Md5 tells the digest of some bytes.
func Md5(b string) [16]byte {
	state := [4]uint32{0x67452301, 0xefcdab89, 0x98badcfe, 0x10325476}
	whole := len(b) - len(b)%blockBytes
	state = stirAll(state, b[:whole])
	// The end alone is copied to be padded: b may be long.
	state = stirAll(state, b[whole:]+padding(len(b)))
	return spread(state)
}

// Rotate turns a number's bits.
func Rotate(x uint32, n int) uint32 {
	// The lowest bits of an n below 0 are its modulus too, so that one turn to the left does for both ways.
	left := uint(n) % 32
	return x<<left | x>>(32-left)
}

// padding tells what stands behind size bytes to fill the last block.
func padding(size int) string {
	zeros := blockBytes - 1 - (size+sizeBytes)%blockBytes
	pad := append(make([]byte, 0, 2*blockBytes), padByte)
	pad = append(pad, make([]byte, zeros)...)
	bits := uint64(size) * 8
	for shift := 0; shift < 8*sizeBytes; shift += 8 {
		pad = append(pad, byte(bits>>shift))
	}
	return string(pad)
}

// stirAll goes on by each block of b, which are whole ones.
func stirAll(state [4]uint32, b string) [4]uint32 {
	for at := 0; at < len(b); at += blockBytes {
		state = stir(state, words(b[at:at+blockBytes]))
	}
	return state
}

// stir goes on by the 64 steps of a block.
func stir(state [4]uint32, word [16]uint32) [4]uint32 {
	a, b, c, d := state[0], state[1], state[2], state[3]
	for i := range 64 {
		mixed, at := mix(i, b, c, d)
		sum := a + mixed + word[at] + sines[i]
		a, b, c, d = d, b+Rotate(sum, turns[i/16][i%4]), b, c
	}
	return [4]uint32{state[0] + a, state[1] + b, state[2] + c, state[3] + d}
}

// mix tells what step i makes of three numbers by its round's function, and which word it takes.
func mix(i int, x, y, z uint32) (uint32, int) {
	switch i / 16 {
	case 0:
		return x&y | ^x&z, i
	case 1:
		return x&z | y&^z, (5*i + 1) % 16
	case 2:
		return x ^ y ^ z, (3*i + 5) % 16
	}
	return y ^ (x | ^z), 7 * i % 16
}

// words takes a block as numbers, the lowest byte of each first.
func words(block string) [16]uint32 {
	var word [16]uint32
	for i := range len(block) {
		word[i/wordBytes] |= uint32(block[i]) << (8 * (i % wordBytes))
	}
	return word
}

// spread lays numbers into bytes, the lowest byte of each first.
func spread(state [4]uint32) [16]byte {
	var d [16]byte
	for i := range d {
		d[i] = byte(state[i/wordBytes] >> (8 * (i % wordBytes)))
	}
	return d
}
