package digest

import (
	"crypto/sha256"
	"encoding"
	"encoding/binary"
	"encoding/hex"
	"math"
	"math/big"
	"math/rand/v2"
	"strings"
	"testing"
	"unsafe"

	"murmur/api"
)

// bytesOf is n bytes that follow no simple rule, the same ones each time, others for each seed.
func bytesOf(n int, seed uint32) string {
	key, out := [32]byte{}, make([]byte, n)
	binary.BigEndian.PutUint32(key[:], seed)
	rand.NewChaCha8(key).Read(out)
	return string(out)
}

// wordsOf is eight words that follow no simple rule.
func wordsOf(seed uint32) [8]uint32 {
	out, s := [8]uint32{}, bytesOf(32, seed)
	for i := range out {
		out[i] = binary.BigEndian.Uint32([]byte(s[4*i:]))
	}
	return out
}

// knownOf is the library's SHA-256 of s.
func knownOf(s string) string {
	out := sha256.Sum256([]byte(s))
	return string(out[:])
}

const stateMark = "sha\x03" // what the library's kept state of SHA-256 begins with

// knownBlock is the library's h behind the block b: its state is written down with h in it, fed b, and read again.
func knownBlock(t *testing.T, h [8]uint32, b string) [8]uint32 {
	t.Helper()
	state := []byte(stateMark)
	for _, word := range h {
		state = binary.BigEndian.AppendUint32(state, word)
	}
	state = append(state, make([]byte, 64+8)...)
	hash := sha256.New()
	if err := hash.(encoding.BinaryUnmarshaler).UnmarshalBinary(state); err != nil {
		t.Fatal(err)
	}
	hash.Write([]byte(b))
	state, err := hash.(encoding.BinaryMarshaler).MarshalBinary()
	if err != nil {
		t.Fatal(err)
	}
	for i := range h {
		h[i] = binary.BigEndian.Uint32(state[len(stateMark)+4*i:])
	}
	return h
}

// knownBlocks is the library's h behind all whole blocks of s, and what is left of s.
func knownBlocks(t *testing.T, h [8]uint32, s string) ([8]uint32, string) {
	t.Helper()
	for len(s) >= 64 {
		h, s = knownBlock(t, h, s[:64]), s[64:]
	}
	return h, s
}

// knownEnd is what a feeder's end is by the chapter's words, with the library's blocks.
func knownEnd(t *testing.T, f api.Feeder) string {
	t.Helper()
	s := f.Rest + "\x80"
	for len(s)%64 != 56 {
		s += "\x00"
	}
	s += string(binary.BigEndian.AppendUint64(nil, 8*uint64(f.Long)))
	h, _ := knownBlocks(t, f.Words, s)
	out := []byte{}
	for _, word := range h {
		out = binary.BigEndian.AppendUint32(out, word)
	}
	return string(out)
}

// turnedSlowly is the word turned to the right, bit by bit.
func turnedSlowly(word uint32, by int) uint32 {
	for range by {
		word = word>>1 | word<<31
	}
	return word
}

// greaterPart is 1 in each bit in which two of three are 1.
func greaterPart(a, b, c uint32) uint32 {
	out := uint32(0)
	for i := range 32 {
		if a>>i&1+b>>i&1+c>>i&1 >= 2 {
			out |= 1 << i
		}
	}
	return out
}

// roundByWords is a round, word for word as the chapter has it.
func roundByWords(v [8]uint32, k uint32) [8]uint32 {
	p := v[7] + k + (turnedSlowly(v[4], 6) ^ turnedSlowly(v[4], 11) ^ turnedSlowly(v[4], 25)) + (v[6] ^ (v[4] & (v[5] ^ v[6])))
	q := (turnedSlowly(v[0], 2) ^ turnedSlowly(v[0], 13) ^ turnedSlowly(v[0], 22)) + greaterPart(v[0], v[1], v[2])
	return [8]uint32{p + q, v[0], v[1], v[2], v[3] + p, v[4], v[5], v[6]}
}

// rootBits is the 32 bits behind the point in the root of the given power of n.
func rootBits(n, power int64) uint32 {
	all := new(big.Int).Lsh(big.NewInt(n), uint(32*power))
	low, high := big.NewInt(0), big.NewInt(1<<40)
	for new(big.Int).Sub(high, low).Cmp(big.NewInt(1)) > 0 {
		mid := new(big.Int).Rsh(new(big.Int).Add(low, high), 1)
		if new(big.Int).Exp(mid, big.NewInt(power), nil).Cmp(all) <= 0 {
			low = mid
		} else {
			high = mid
		}
	}
	return uint32(low.Uint64())
}

// primes is the first n primes.
func primes(n int) []int64 {
	out := []int64{}
	for p := int64(2); len(out) < n; p++ {
		if big.NewInt(p).ProbablyPrime(0) {
			out = append(out, p)
		}
	}
	return out
}

func TestStart(t *testing.T) { // P2.1
	want := [8]uint32{0x6a09e667, 0xbb67ae85, 0x3c6ef372, 0xa54ff53a, 0x510e527f, 0x9b05688c, 0x1f83d9ab, 0x5be0cd19}
	if got := Start(); got != want {
		t.Errorf("Start: %x, want %x", got, want)
	}
	for i, p := range primes(8) {
		if got, root := Start()[i], rootBits(p, 2); got != root {
			t.Errorf("word %d of Start: %x, want %x", i, got, root)
		}
	}
}

func TestRound(t *testing.T) { // P2.2
	for _, c := range []struct {
		what string
		v    [8]uint32
		k    uint32
		want [8]uint32
	}{
		{"nothing", [8]uint32{}, 0, [8]uint32{}},
		{"k alone", [8]uint32{}, 1, [8]uint32{1, 0, 0, 0, 1}},
		{"v0 alone", [8]uint32{1}, 0, [8]uint32{1<<30 ^ 1<<19 ^ 1<<10, 1}},
		{"v4 alone", [8]uint32{4: 1}, 0, [8]uint32{1<<26 ^ 1<<21 ^ 1<<7, 0, 0, 0, 1<<26 ^ 1<<21 ^ 1<<7, 1}},
		{"two of v0, v1, v2", [8]uint32{0, 6, 12}, 0, [8]uint32{4, 0, 6, 12}},
		{"v3", [8]uint32{3: 5}, 0, [8]uint32{4: 5}},
		{"v5 is not chosen", [8]uint32{5: 9}, 0, [8]uint32{6: 9}},
		{"v6 is chosen", [8]uint32{6: 9}, 0, [8]uint32{9, 0, 0, 0, 9, 0, 0, 9}},
		{"v7", [8]uint32{7: 9}, 0, [8]uint32{9, 0, 0, 0, 9}},
		{"sums modulo 2^32", [8]uint32{3: 3, 7: math.MaxUint32}, 2, [8]uint32{1, 0, 0, 0, 4}},
		{"the first of \"abc\" in FIPS 180's example", Start(), 0x428a2f98 + 0x61626380,
			[8]uint32{0x5d6aebcd, 0x6a09e667, 0xbb67ae85, 0x3c6ef372, 0xfa2a4622, 0x510e527f, 0x9b05688c, 0x1f83d9ab}},
	} {
		if got := Round(c.v, c.k); got != c.want {
			t.Errorf("%s: Round(%x, %x): %x, want %x", c.what, c.v, c.k, got, c.want)
		}
	}
	for seed := range uint32(200) {
		v, k := wordsOf(seed), seed*2654435761
		if got, want := Round(v, k), roundByWords(v, k); got != want {
			t.Errorf("Round(%x, %x): %x, want %x", v, k, got, want)
		}
	}
}

func TestConstants(t *testing.T) { // P2.3
	for i, p := range primes(64) {
		if want := rootBits(p, 3); constants[i] != want {
			t.Errorf("constant %d: %x, want %x", i, constants[i], want)
		}
	}
}

func TestBlock(t *testing.T) { // P2.3
	abc := "abc\x80" + strings.Repeat("\x00", 59) + "\x18"
	want := [8]uint32{0xba7816bf, 0x8f01cfea, 0x414140de, 0x5dae2223, 0xb00361a3, 0x96177a9c, 0xb410ff61, 0xf20015ad}
	if got := Block(Start(), abc); got != want {
		t.Errorf("Block of \"abc\" and its end: %x, want %x", got, want)
	}
	for seed := range uint32(100) {
		h, b := wordsOf(seed), bytesOf(64, seed+1000)
		if got, want := Block(h, b), knownBlock(t, h, b); got != want {
			t.Errorf("Block(%x, %q): %x, want %x", h, b, got, want)
		}
	}
	for _, b := range []string{strings.Repeat("\x00", 64), strings.Repeat("\xff", 64)} {
		if got, want := Block([8]uint32{}, b), knownBlock(t, [8]uint32{}, b); got != want {
			t.Errorf("Block of no words and %q: %x, want %x", b, got, want)
		}
	}
}

func TestBlockIsItsRounds(t *testing.T) { // P2.3
	known := primes(64)
	for seed := range uint32(20) {
		h, b := wordsOf(seed), bytesOf(64, seed)
		w := []uint32{}
		for i := range 16 {
			w = append(w, binary.BigEndian.Uint32([]byte(b[4*i:])))
		}
		for i := 16; i < 64; i++ {
			x, y := w[i-15], w[i-2]
			w = append(w, w[i-16]+w[i-7]+(turnedSlowly(x, 7)^turnedSlowly(x, 18)^x>>3)+(turnedSlowly(y, 17)^turnedSlowly(y, 19)^y>>10))
		}
		want := h
		for i, word := range w {
			want = Round(want, word+rootBits(known[i], 3))
		}
		for i := range want {
			want[i] += h[i]
		}
		if got := Block(h, b); got != want {
			t.Errorf("Block(%x, %q): %x, want %x by its rounds", h, b, got, want)
		}
	}
}

func TestBlockOfAnotherLength(t *testing.T) { // P2.3
	h := wordsOf(7)
	for n := range 200 {
		if got := Block(h, bytesOf(n, 8)); n != 64 && got != h {
			t.Errorf("Block of %d bytes: %x, want %x as it was", n, got, h)
		}
	}
}

func TestOfKnownTexts(t *testing.T) { // P2.4, P2.9
	for _, c := range []struct{ s, want string }{
		{"", "e3b0c44298fc1c149afbf4c8996fb92427ae41e4649b934ca495991b7852b855"},
		{"abc", "ba7816bf8f01cfea414140de5dae2223b00361a396177a9cb410ff61f20015ad"},
		{"abcdbcdecdefdefgefghfghighijhijkijkljklmklmnlmnomnopnopq", "248d6a61d20638b8e5c026930c3e6039a33ce45964ff2167f6ecedd419db06c1"},
		{strings.Repeat("a", 1000000), "cdc76e5c9914fb9281a1c7e284d73e67f1809a48a497200e046d39ccc7112cd0"},
	} {
		if got := hex.EncodeToString([]byte(Of(c.s))); got != c.want {
			t.Errorf("Of %d bytes: %s, want %s", len(c.s), got, c.want)
		}
	}
}

func TestOfEachLength(t *testing.T) { // P2.4, P2.9
	for n := range 400 {
		s := bytesOf(n, uint32(n))
		if got, want := Of(s), knownOf(s); got != want {
			t.Errorf("Of %d bytes: %x, want %x", n, got, want)
		}
	}
	for _, n := range []int{8191, 8192, 65535, 65536, 1<<21 + 55, 1<<21 + 56} {
		s := bytesOf(n, uint32(n))
		if got, want := Of(s), knownOf(s); got != want {
			t.Errorf("Of %d bytes: %x, want %x", n, got, want)
		}
	}
}

func TestParts(t *testing.T) { // P2.5
	for _, c := range []struct {
		l   []string
		all string
	}{
		{nil, ""},
		{[]string{}, ""},
		{[]string{""}, "\x00\x00\x00\x00"},
		{[]string{"", ""}, "\x00\x00\x00\x00\x00\x00\x00\x00"},
		{[]string{"a"}, "\x00\x00\x00\x01a"},
		{[]string{"ab", "c"}, "\x00\x00\x00\x02ab\x00\x00\x00\x01c"},
		{[]string{"a", "bc"}, "\x00\x00\x00\x01a\x00\x00\x00\x02bc"},
		{[]string{"a", "", "bc"}, "\x00\x00\x00\x01a\x00\x00\x00\x00\x00\x00\x00\x02bc"},
		{[]string{bytesOf(255, 1)}, "\x00\x00\x00\xff" + bytesOf(255, 1)},
		{[]string{bytesOf(256, 2), "x"}, "\x00\x00\x01\x00" + bytesOf(256, 2) + "\x00\x00\x00\x01x"},
		{[]string{bytesOf(65536, 3)}, "\x00\x01\x00\x00" + bytesOf(65536, 3)},
		{[]string{bytesOf(1<<24+3, 4)}, "\x01\x00\x00\x03" + bytesOf(1<<24+3, 4)},
	} {
		if got, want := Parts(c.l...), knownOf(c.all); got != want {
			t.Errorf("Parts of %d texts: %x, want %x", len(c.l), got, want)
		}
	}
}

func TestPartsTellTheirBounds(t *testing.T) { // P2.5
	seen := map[string]int{}
	for i, l := range [][]string{{"abc"}, {"ab", "c"}, {"a", "bc"}, {"a", "b", "c"}, {"", "abc"}, {"abc", ""}, {"bc", "a"}} {
		d := Parts(l...)
		if j := seen[d]; j > 0 {
			t.Errorf("the lists %d and %d have one digest", j-1, i)
		}
		seen[d] = i + 1
	}
}

func TestPartsLeavesItsList(t *testing.T) { // R3
	room := []string{"a", "b", "behind"}
	Parts(room[:2]...)
	if room[0] != "a" || room[1] != "b" || room[2] != "behind" {
		t.Errorf("Parts changed its list: %q", room)
	}
}

func TestBegin(t *testing.T) { // P2.6
	if got, want := Begin(), (api.Feeder{Words: Start()}); got != want {
		t.Errorf("Begin: %x, want %x", got, want)
	}
}

func TestFeed(t *testing.T) { // P2.7
	for _, rest := range []int{0, 1, 63, 64, 65, 127, 128, 300} {
		for _, n := range []int{0, 1, 2, 62, 63, 64, 65, 128, 500} {
			// Long is what it is, whether or not it goes with Rest.
			for _, long := range []int{rest, rest + 64, 0, 1, 77777} {
				f, s := api.Feeder{Words: wordsOf(uint32(n)), Rest: bytesOf(rest, 1), Long: long}, bytesOf(n, 2)
				want := api.Feeder{Long: long + n}
				want.Words, want.Rest = knownBlocks(t, f.Words, f.Rest+s)
				if got := Feed(f, s); got != want {
					t.Errorf("Feed of %d bytes behind %d, Long %d: %x, want %x", n, rest, long, got, want)
				}
			}
		}
	}
}

func TestFeedStopsAtItsMost(t *testing.T) { // P2.7
	const most = 2000000000
	s := bytesOf(200, 3)
	for _, c := range []struct{ long, takes int }{
		{most - 201, 200},
		{most - 200, 200},
		{most - 199, 199},
		{most - 64, 64},
		{most - 1, 1},
		{most, 0},
		{most + 1, 0},
		{math.MaxInt - 1, 0},
		{math.MaxInt, 0},
		{0, 200},
		{-1, 200},
		{-200, 200},
		{-most, 200},
		{math.MinInt, 200},
	} {
		for _, rest := range []int{0, 5, 63, 70, 128} {
			f := api.Feeder{Words: wordsOf(4), Rest: bytesOf(rest, 5), Long: c.long}
			want := api.Feeder{Long: c.long + c.takes}
			want.Words, want.Rest = knownBlocks(t, f.Words, f.Rest+s[:c.takes])
			if got := Feed(f, s); got != want {
				t.Errorf("Feed of 200 bytes behind %d, Long %d: %x, want %x", rest, c.long, got, want)
			}
		}
	}
}

// That a Long below 0 counts as 0 shows only in texts of 2000000000 bytes and more: so what is free is asked for alone.
func TestFreeBytes(t *testing.T) { // P2.7
	const most = 2000000000
	for _, c := range []struct{ long, want int }{
		{0, most}, {1, most - 1}, {most - 1, 1}, {most, 0}, {most + 1, 0}, {math.MaxInt, 0}, {-1, most}, {-most, most}, {math.MinInt, most},
	} {
		if got := freeBytes(c.long); got != c.want {
			t.Errorf("free behind %d: %d, want %d", c.long, got, c.want)
		}
	}
}

func TestFeedersAreApart(t *testing.T) { // P2.7, R3
	first := Feed(Begin(), bytesOf(100, 6))
	kept := first
	one, other := Feed(first, "a"), Feed(first, "b")
	End(first)
	if first != kept {
		t.Errorf("a feeder is another one behind Feed and End: %x, want %x", first, kept)
	}
	if End(one) != knownOf(bytesOf(100, 6)+"a") || End(other) != knownOf(bytesOf(100, 6)+"b") {
		t.Errorf("two texts fed to one feeder do not stand apart")
	}
}

func TestFeedKeepsNothingOfItsText(t *testing.T) { // R3
	for _, n := range []int{1, 63, 65, 1000} {
		s := bytesOf(n, 7)
		f := Feed(Begin(), s)
		if n%64 != len(f.Rest) {
			t.Fatalf("%d bytes leave %d", n, len(f.Rest))
		}
		from, at := uintptr(unsafe.Pointer(unsafe.StringData(s))), uintptr(unsafe.Pointer(unsafe.StringData(f.Rest)))
		if at >= from && at < from+uintptr(n) {
			t.Errorf("the Rest of %d bytes lies in them", n)
		}
	}
}

func TestEnd(t *testing.T) { // P2.8
	for n := range 200 {
		for _, long := range []int{n, n + 64, 0, 1, 1<<29 - 1, 1 << 29, 1<<32 + 5, 2000000000, 1 << 61, math.MaxInt, -1, -9, math.MinInt} {
			f := api.Feeder{Words: wordsOf(uint32(n)), Rest: bytesOf(n, 8), Long: long}
			if got, want := End(f), knownEnd(t, f); got != want {
				t.Errorf("End behind %d bytes, Long %d: %x, want %x", n, long, got, want)
			}
		}
	}
	if got := End(Begin()); got != knownOf("") {
		t.Errorf("End of nothing: %x", got)
	}
	if got, want := End(api.Feeder{}), knownEnd(t, api.Feeder{}); got != want {
		t.Errorf("End of a feeder without words: %x, want %x", got, want)
	}
}

func TestFedPieceByPiece(t *testing.T) { // P2.10
	for n := range 200 {
		s := bytesOf(n, uint32(n))
		want := Of(s)
		bytewise := Begin()
		for at := range n {
			bytewise = Feed(bytewise, s[at:at+1])
			if got := End(Feed(Feed(Begin(), s[:at]), s[at:])); got != want {
				t.Errorf("%d bytes fed in two pieces, the first of %d: %x, want %x", n, at, got, want)
			}
		}
		if got := End(bytewise); got != want || bytewise.Long != n {
			t.Errorf("%d bytes fed one by one: %x of %d, want %x", n, got, bytewise.Long, want)
		}
	}
	s := bytesOf(5000, 9)
	for step := 1; step < 300; step += 7 {
		f := Begin()
		for at := 0; at < len(s); at += step {
			f = Feed(Feed(f, s[at:min(at+step, len(s))]), "")
		}
		if got := End(f); got != Of(s) {
			t.Errorf("5000 bytes fed by pieces of %d: %x, want %x", step, got, Of(s))
		}
	}
}
