// Package lanes is layer 1: see shared/doc/01-lanes.md. Each function names its promise there.
package lanes

const (
	wordLong  = 4  // bytes of a word of 32 bits
	numLong   = 8  // bytes of a number of 64 bits
	widthMost = 64 // bytes that High answers at most
)

// Low: P1.1.
func Low(s string) uint64 {
	n := uint64(0)
	for i := range min(len(s), numLong) {
		n |= uint64(s[i]) << (8 * i)
	}
	return n
}

// High: P1.2.
func High(n uint64, width int) string {
	// Held within its ends first, so that no width panics or asks for memory without end.
	width = min(max(width, 0), widthMost)
	out := make([]byte, width)
	for i := range min(width, numLong) {
		out[width-1-i] = byte(n >> (8 * i))
	}
	return string(out)
}

// Words: P1.3.
func Words(s string, big bool) []uint32 {
	out := make([]uint32, len(s)/wordLong)
	for i := range wordLong * len(out) {
		out[i/wordLong] |= uint32(s[i]) << shift(i, big)
	}
	return out
}

// Text: P1.4.
func Text(l []uint32, big bool) string {
	out := make([]byte, wordLong*len(l))
	for i := range wordLong * len(l) {
		out[i] = byte(l[i/wordLong] >> shift(i, big))
	}
	return string(out)
}

// shift stands alone so that Words and Text, which undo one another, cannot come to differ: by how many bits the byte at the place i lies above the lowest of its word.
func shift(i int, big bool) int {
	if big {
		return 8 * (wordLong - 1 - i%wordLong)
	}
	return 8 * (i % wordLong)
}

// Xor: P1.5.
func Xor(a, b string) string {
	out := []byte(a)
	for i := range min(len(a), len(b)) {
		out[i] ^= b[i]
	}
	return string(out)
}

// Alike: P1.6.
func Alike(a, b string) bool {
	// No way out of the loop: how long it takes must not tell where two texts begin to differ.
	differ := byte(0)
	for i := range min(len(a), len(b)) {
		differ |= a[i] ^ b[i]
	}
	return differ == 0 && len(a) == len(b)
}

// Bit: P1.7.
func Bit(s string, at int) int {
	if at < 0 || at/8 >= len(s) {
		return 0
	}
	return int(s[at/8]>>(at%8)) & 1
}
