package stream

import (
	"encoding/binary"
	"encoding/hex"
	"math"
	"math/big"
	"math/rand/v2"
	"slices"
	"strings"
	"testing"

	"murmur/api"
)

// anyText is n bytes that follow no simple rule, the same ones for the same seed.
func anyText(n int, seed byte) string {
	out := make([]byte, n)
	rand.NewChaCha8([32]byte{seed}).Read(out)
	return string(out)
}

// anyWords is the words of a state that follows no simple rule.
func anyWords(seed byte) [16]uint32 {
	out, s := [16]uint32{}, anyText(64, seed)
	for i := range out {
		out[i] = binary.LittleEndian.Uint32([]byte(s[4*i:]))
	}
	return out
}

// run is n bytes from first on, each one more than the one ahead.
func run(first byte, n int) string {
	out := make([]byte, n)
	for i := range out {
		out[i] = first + byte(i)
	}
	return string(out)
}

// unhex is the bytes that hexadecimal digits tell, whatever white space is between them.
func unhex(t *testing.T, digits string) string {
	t.Helper()
	out, err := hex.DecodeString(strings.Join(strings.Fields(digits), ""))
	if err != nil {
		t.Fatal(err)
	}
	return string(out)
}

// check holds an answer against what is known; beside an error nothing may be answered.
func check(t *testing.T, what, got string, err api.Errno, want string, wantErr api.Errno) {
	t.Helper()
	if err != wantErr {
		t.Errorf("%s: error %d, want %d", what, err, wantErr)
	}
	if got != want {
		t.Errorf("%s: %x, want %x", what, got, want)
	}
}

// turned is s with one bit of it turned.
func turned(s string, bit int) string {
	out := []byte(s)
	out[bit/8] ^= 1 << (bit % 8)
	return string(out)
}

// spunSlowly is the word turned to the left, bit by bit.
func spunSlowly(word uint32, by int) uint32 {
	for range by {
		word = word<<1 | word>>31
	}
	return word
}

// knownQuarter is a quarter, word for word as the chapter has it, on four places of a state.
func knownQuarter(s []uint32, a, b, c, d int) {
	s[a] += s[b]
	s[d] = spunSlowly(s[d]^s[a], 16)
	s[c] += s[d]
	s[b] = spunSlowly(s[b]^s[c], 12)
	s[a] += s[b]
	s[d] = spunSlowly(s[d]^s[a], 8)
	s[c] += s[d]
	s[b] = spunSlowly(s[b]^s[c], 7)
}

// broughtBack is the quarter undone, on four places of a state.
func broughtBack(s []uint32, a, b, c, d int) {
	s[b] = spunSlowly(s[b], 32-7) ^ s[c]
	s[c] -= s[d]
	s[d] = spunSlowly(s[d], 32-8) ^ s[a]
	s[a] -= s[b]
	s[b] = spunSlowly(s[b], 32-12) ^ s[c]
	s[c] -= s[d]
	s[d] = spunSlowly(s[d], 32-16) ^ s[a]
	s[a] -= s[b]
}

// places is where the quarters of Mixed lie, as RFC 8439 writes them down.
func places() [][4]int {
	return [][4]int{
		{0, 4, 8, 12}, {1, 5, 9, 13}, {2, 6, 10, 14}, {3, 7, 11, 15},
		{0, 5, 10, 15}, {1, 6, 11, 12}, {2, 7, 8, 13}, {3, 4, 9, 14},
	}
}

// knownMixed is Mixed, by places.
func knownMixed(s [16]uint32) [16]uint32 {
	for _, p := range places() {
		knownQuarter(s[:], p[0], p[1], p[2], p[3])
	}
	return s
}

// knownBlock is the block n, as the chapter has it.
func knownBlock(key string, n uint32, nonce string) string {
	all := "expand 32-byte k" + key + string(binary.LittleEndian.AppendUint32(nil, n)) + nonce
	s := [16]uint32{}
	for i := range s {
		s[i] = binary.LittleEndian.Uint32([]byte(all[4*i:]))
	}
	mixed, out := s, []byte{}
	for range 10 {
		mixed = knownMixed(mixed)
	}
	for i := range s {
		out = binary.LittleEndian.AppendUint32(out, mixed[i]+s[i])
	}
	return string(out)
}

// knownStream is n bytes of the blocks from first on.
func knownStream(key, nonce string, first uint32, n int) string {
	out := strings.Builder{}
	for out.Len() < n {
		out.WriteString(knownBlock(key, first, nonce))
		first++
	}
	return out.String()[:n]
}

// knownHidden is s or'ed with the blocks from first on.
func knownHidden(key, nonce string, first uint32, s string) string {
	out, with := []byte(s), knownStream(key, nonce, first, len(s))
	for i := range out {
		out[i] ^= with[i]
	}
	return string(out)
}

// bigOf is the number of the bytes, the lowest first.
func bigOf(s string) *big.Int {
	b := []byte(s)
	slices.Reverse(b)
	return new(big.Int).SetBytes(b)
}

// bytesOf is the lowest 16 bytes of the number, the lowest first.
func bytesOf(n *big.Int) string {
	low := new(big.Int).And(n, power(128, -1))
	b := low.FillBytes(make([]byte, 16))
	slices.Reverse(b)
	return string(b)
}

// power is 2 to the power of n, and more.
func power(n uint, more int64) *big.Int {
	out := new(big.Int).Lsh(big.NewInt(1), n)
	return out.Add(out, big.NewInt(more))
}

// knownTag is a tag by numbers of any greatness.
func knownTag(key, s string) string {
	mask := []byte(strings.Repeat("\xff", 16))
	for _, i := range []int{3, 7, 11, 15} {
		mask[i] = 0x0f
	}
	for _, i := range []int{4, 8, 12} {
		mask[i] = 0xfc
	}
	r := new(big.Int).And(bigOf(key[:16]), bigOf(string(mask)))
	sum, modulus := new(big.Int), power(130, -5)
	for len(s) > 0 {
		long := min(len(s), 16)
		sum.Add(sum, bigOf(s[:long]+"\x01"))
		sum.Mod(sum.Mul(sum, r), modulus)
		s = s[long:]
	}
	return bytesOf(sum.Add(sum, bigOf(key[16:])))
}

// knownClosingTag is the tag of what is hidden and of what is beside it.
func knownClosingTag(key, nonce, more, hidden string) string {
	all := []byte{}
	for _, s := range []string{more, hidden} {
		all = append(all, s...)
		for len(all)%16 != 0 {
			all = append(all, 0)
		}
	}
	all = binary.LittleEndian.AppendUint64(all, uint64(len(more)))
	all = binary.LittleEndian.AppendUint64(all, uint64(len(hidden)))
	return knownTag(knownBlock(key, 0, nonce)[:32], string(all))
}

// knownClosed is what Close makes of s, however long s is.
func knownClosed(key, nonce, more, s string) string {
	hidden := knownHidden(key, nonce, 1, s)
	return hidden + knownClosingTag(key, nonce, more, hidden)
}

// wrongKeys calls do with each key and nonce of which one, or each, has a wrong length.
func wrongKeys(do func(key, nonce string)) {
	for _, n := range []int{0, 1, 16, 31, 32, 33, 64, 6001} {
		for _, m := range []int{0, 1, 8, 11, 12, 13, 24, 32} {
			if n != 32 || m != 12 {
				do(anyText(n, 1), anyText(m, 2))
			}
		}
	}
}

func TestQuarter(t *testing.T) { // P4.1
	for _, c := range []struct {
		what    string
		q, want [4]uint32
	}{
		{"nothing", [4]uint32{}, [4]uint32{}},
		{"RFC 8439, 2.1.1", [4]uint32{0x11111111, 0x01020304, 0x9b8d6f43, 0x01234567}, [4]uint32{0xea2a92f4, 0xcb1cf8ce, 0x4581472e, 0x5881c4bb}},
		{"RFC 8439, 2.2.1", [4]uint32{0x516461b1, 0x2a5f714c, 0x53372767, 0x3d631689}, [4]uint32{0xbdb886dc, 0xcfacafd2, 0xe46bea80, 0xccc07c79}},
		// d is spun to 2^16, c gets that, b is that spun by 12 to 2^28, a gets that; and so on.
		{"a alone", [4]uint32{1}, [4]uint32{0x10000001, 0x80808808, 0x01010110, 0x01000110}},
	} {
		if got := Quarter(c.q); got != c.want {
			t.Errorf("%s: Quarter(%x): %x, want %x", c.what, c.q, got, c.want)
		}
	}
	for seed := range byte(200) {
		s := anyWords(seed)
		want := s
		knownQuarter(want[:], 0, 1, 2, 3)
		if got := Quarter([4]uint32(s[:4])); got != [4]uint32(want[:4]) {
			t.Errorf("Quarter(%x): %x, want %x", s[:4], got, want[:4])
		}
	}
}

func TestQuarterAtTheEndsOfItsWords(t *testing.T) { // P4.1
	ends := []uint32{0, 1, 1 << 31, math.MaxInt32, math.MaxUint32}
	for i := range 5 * 5 * 5 * 5 {
		q := [4]uint32{ends[i%5], ends[i/5%5], ends[i/25%5], ends[i/125]}
		want := q
		knownQuarter(want[:], 0, 1, 2, 3)
		if got := Quarter(q); got != want {
			t.Errorf("Quarter(%x): %x, want %x", q, got, want)
		}
	}
}

func TestMixed(t *testing.T) { // P4.2
	if got := Mixed([16]uint32{}); got != [16]uint32{} {
		t.Errorf("Mixed of nothing: %x", got)
	}
	for seed := range byte(200) {
		s := anyWords(seed)
		if got, want := Mixed(s), knownMixed(s); got != want {
			t.Errorf("Mixed(%x): %x, want %x", s, got, want)
		}
	}
	for i := range 16 {
		for _, word := range []uint32{1, math.MaxUint32} {
			s := [16]uint32{}
			s[i] = word
			if got, want := Mixed(s), knownMixed(s); got != want {
				t.Errorf("Mixed of %x at %d alone: %x, want %x", word, i, got, want)
			}
		}
	}
}

func TestMixedByItsQuarters(t *testing.T) { // P4.2
	s := anyWords(1)
	want := s
	for _, p := range places() {
		q := Quarter([4]uint32{want[p[0]], want[p[1]], want[p[2]], want[p[3]]})
		want[p[0]], want[p[1]], want[p[2]], want[p[3]] = q[0], q[1], q[2], q[3]
	}
	if got := Mixed(s); got != want {
		t.Errorf("Mixed(%x): %x, want %x by its quarters", s, got, want)
	}
}

func TestBlockOfKnownKeys(t *testing.T) { // P4.3
	zeros, last := strings.Repeat("\x00", 32), strings.Repeat("\x00", 31)+"\x01"
	for _, c := range []struct { // RFC 8439's.
		what, key string
		n         uint32
		nonce     string
		want      string
	}{
		{"2.3.2", run(0, 32), 1, "\x00\x00\x00\x09\x00\x00\x00\x4a\x00\x00\x00\x00",
			`10f1e7e4d13b5915500fdd1fa32071c4 c7d1f4c733c068030422aa9ac3d46c4e
			 d2826446079faa0914c2d705d98b02a2 b5129cd1de164eb9cbd083e8a2503c4e`},
		{"A.1, the first", zeros, 0, zeros[:12],
			`76b8e0ada0f13d90405d6ae55386bd28 bdd219b8a08ded1aa836efcc8b770dc7
			 da41597c5157488d7724e03fb8d84a37 6a43b8f41518a11cc387b669b2ee6586`},
		{"A.1, the second", zeros, 1, zeros[:12],
			`9f07e7be5551387a98ba977c732d080d cb0f29a048e3656912c6533e32ee7aed
			 29b721769ce64e43d57133b074d839d5 31ed1f28510afb45ace10a1f4b794d6f`},
		{"A.1, the third", last, 1, zeros[:12],
			`3aeb5224ecf849929b9d828db1ced4dd 832025e8018b8160b82284f3c949aa5a
			 8eca00bbb4a73bdad192b5c42f73f2fd 4e273644c8b36125a64addeb006c13a0`},
		{"A.1, the fifth", zeros, 0, zeros[:11] + "\x02",
			`c2c64d378cd536374ae204b9ef933fcd 1a8b2288b3dfa49672ab765b54ee27c7
			 8a970e0e955c14f3a88e741b97c286f7 5f8fc299e8148362fa198a39531bed6d`},
	} {
		got, err := Block(c.key, c.n, c.nonce)
		check(t, c.what, got, err, unhex(t, c.want), api.OK)
	}
}

func TestBlockOfEachNumber(t *testing.T) { // P4.3
	for seed := range byte(20) {
		key, nonce := anyText(32, seed), anyText(12, seed+100)
		for _, n := range []uint32{0, 1, 2, 255, 256, 65535, 65536, 1 << 24, 0x01020304, math.MaxInt32, 1 << 31, math.MaxUint32 - 1, math.MaxUint32} {
			got, err := Block(key, n, nonce)
			check(t, "Block", got, err, knownBlock(key, n, nonce), api.OK)
		}
	}
}

func TestBlockHasAllOfKeyAndNonce(t *testing.T) { // P4.3
	key, nonce := anyText(32, 1), anyText(12, 2)
	seen := map[string]bool{knownBlock(key, 0, nonce): true}
	note := func(what string, bit int, block string, err api.Errno) {
		if err != api.OK || seen[block] {
			t.Errorf("the bit %d of the %s does not count", bit, what)
		}
		seen[block] = true
	}
	for bit := range 8 * 32 {
		block, err := Block(turned(key, bit), 0, nonce)
		note("key", bit, block, err)
	}
	for bit := range 8 * 12 {
		block, err := Block(key, 0, turned(nonce, bit))
		note("nonce", bit, block, err)
	}
	for bit := range 32 {
		block, err := Block(key, 1<<bit, nonce)
		note("number", bit, block, err)
	}
}

func TestBlockOfWrongKeys(t *testing.T) { // P4.3
	wrongKeys(func(key, nonce string) {
		for _, n := range []uint32{0, 1, math.MaxUint32} {
			got, err := Block(key, n, nonce)
			check(t, "Block", got, err, "", api.ErrArg)
		}
	})
}

func TestStream(t *testing.T) { // P4.4
	for _, key := range []string{strings.Repeat("\x00", 32), strings.Repeat("\xff", 32), anyText(32, 1)} {
		for _, nonce := range []string{strings.Repeat("\x00", 12), strings.Repeat("\xff", 12), anyText(12, 2)} {
			all := knownStream(key, nonce, 0, 6000)
			for _, n := range []int{0, 1, 2, 62, 63, 64, 65, 127, 128, 129, 1000, 5951, 5952, 5953, 5999, 6000} {
				got, err := Stream(key, nonce, n)
				check(t, "Stream", got, err, all[:n], api.OK)
			}
		}
	}
}

func TestStreamIsItsBlocks(t *testing.T) { // P4.4
	key, nonce := anyText(32, 3), anyText(12, 4)
	all := ""
	for n := range uint32(94) {
		block, err := Block(key, n, nonce)
		if err != api.OK || len(block) != 64 {
			t.Fatalf("Block %d: %x, error %d", n, block, err)
		}
		all += block
	}
	got, err := Stream(key, nonce, 6000)
	check(t, "Stream of 6000", got, err, all[:6000], api.OK)
}

func TestStreamOfWrongLengths(t *testing.T) { // P4.4
	key, nonce := anyText(32, 3), anyText(12, 4)
	for _, n := range []int{math.MinInt, -6000, -64, -63, -1, 6001, 6016, 6017, 1 << 32, 1<<32 + 1, math.MaxInt - 64, math.MaxInt} {
		got, err := Stream(key, nonce, n)
		check(t, "Stream", got, err, "", api.ErrArg)
	}
}

func TestStreamOfWrongKeys(t *testing.T) { // P4.4
	wrongKeys(func(key, nonce string) {
		for _, n := range []int{-1, 0, 1, 64, 6000, 6001} {
			got, err := Stream(key, nonce, n)
			check(t, "Stream", got, err, "", api.ErrArg)
		}
	})
}

func TestHide(t *testing.T) { // P4.5
	for seed := range byte(5) {
		key, nonce := anyText(32, seed), anyText(12, seed+100)
		for _, n := range []int{0, 1, 31, 63, 64, 65, 128, 500, 5999, 6000} {
			s := anyText(n, seed+200)
			got, err := Hide(key, nonce, s)
			check(t, "Hide", got, err, knownHidden(key, nonce, 0, s), api.OK)
		}
		zeros, err := Hide(key, nonce, strings.Repeat("\x00", 300))
		check(t, "Hide of bytes 0", zeros, err, knownStream(key, nonce, 0, 300), api.OK)
	}
}

func TestHideOfWrongTexts(t *testing.T) { // P4.5
	for _, n := range []int{6001, 6064, 70000} {
		got, err := Hide(anyText(32, 1), anyText(12, 2), anyText(n, 3))
		check(t, "Hide of too many bytes", got, err, "", api.ErrArg)
	}
	wrongKeys(func(key, nonce string) {
		for _, s := range []string{"", "text", anyText(6001, 1)} {
			got, err := Hide(key, nonce, s)
			check(t, "Hide", got, err, "", api.ErrArg)
		}
	})
}

func TestTagOfKnownTexts(t *testing.T) { // P4.6
	zeros, ones := strings.Repeat("\x00", 16), strings.Repeat("\xff", 16)
	two := "\x02" + zeros[:15]
	great := "\x01" + zeros[:7] + "\x04" + zeros[:7]
	words := unhex(t, "e33594d7505e43b900000000000000003394d7505e4379cd01000000000000000000000000000000000000000000000001000000000000000000000000000000")
	for _, c := range []struct{ what, key, s, want string }{ // RFC 8439's.
		{"2.5.2", unhex(t, "85d6be7857556d337f4452fe42d506a80103808afb0db2fd4abff6af4149f51b"), "Cryptographic Forum Research Group",
			unhex(t, "a8061dc1305136c6c22b8baf0c0127a9")},
		{"A.3, the first", zeros + zeros, strings.Repeat("\x00", 64), zeros},
		{"A.3, the seventh", two + zeros, ones, "\x03" + zeros[:15]},
		{"A.3, the eighth", two + ones, two, "\x03" + zeros[:15]},
		{"A.3, the ninth", "\x01" + zeros[:15] + zeros, ones + "\xf0" + ones[:15] + "\x11" + zeros[:15], "\x05" + zeros[:15]},
		{"A.3, the tenth", "\x01" + zeros[:15] + zeros, ones + "\xfb" + strings.Repeat("\xfe", 15) + strings.Repeat("\x01", 16), zeros},
		{"A.3, the eleventh", two + zeros, "\xfd" + ones[:15], "\xfa" + ones[:15]},
		{"A.3, the twelfth", great + zeros, words, "\x14" + zeros[:7] + "\x55" + zeros[:7]},
		{"A.3, the last", great + zeros, words[:48], "\x13" + zeros[:15]},
		{"nothing", ones + "0123456789abcdef", "", "0123456789abcdef"},
		{"one byte", "\x01" + zeros[:15] + zeros, "a", "a\x01" + zeros[:14]},
		{"15 bytes", "\x01" + zeros[:15] + zeros, "0123456789abcde", "0123456789abcde\x01"},
		{"16 bytes", "\x01" + zeros[:15] + zeros, "0123456789abcdef", "0123456789abcdef"},
	} {
		got, err := Tag(c.key, c.s)
		check(t, c.what, got, err, c.want, api.OK)
	}
}

// knownTagKeys is keys of all kinds, those with the greatest and the least r among them.
func knownTagKeys() []string {
	out := []string{strings.Repeat("\x00", 32), strings.Repeat("\xff", 32), "\x01" + strings.Repeat("\x00", 31), "\x01" + strings.Repeat("\x00", 15) + strings.Repeat("\xff", 16)}
	for seed := range byte(10) {
		out = append(out, anyText(32, seed))
	}
	return out
}

func TestTagOfEachLength(t *testing.T) { // P4.6
	for _, key := range knownTagKeys() {
		for n := range 100 {
			for _, s := range []string{anyText(n, 1), strings.Repeat("\x00", n), strings.Repeat("\xff", n)} {
				got, err := Tag(key, s)
				check(t, "Tag", got, err, knownTag(key, s), api.OK)
			}
		}
		for _, s := range []string{anyText(6001, 1), strings.Repeat("\xff", 6400)} {
			got, err := Tag(key, s)
			check(t, "Tag of many bytes", got, err, knownTag(key, s), api.OK)
		}
	}
}

// With an r of 1 the texts' numbers are but added: three whole texts come to 3 * 2^128 and what they tell, so that their sum lies at the modulus, or a little aside.
func TestTagAroundItsModulus(t *testing.T) { // P4.6
	zeros := strings.Repeat("\x00", 16)
	for _, closing := range []string{zeros, "\x05" + zeros[1:], strings.Repeat("\xff", 16), "\xfb" + strings.Repeat("\xff", 15)} {
		key := "\x01" + zeros[1:] + closing
		for less := int64(1); less < 12; less++ {
			for more := range int64(20) {
				s := bytesOf(power(128, -less)) + bytesOf(big.NewInt(more)) + zeros
				got, err := Tag(key, s)
				check(t, "Tag", got, err, knownTag(key, s), api.OK)
			}
		}
	}
}

func TestTagLeavesBitsOfItsKeyAway(t *testing.T) { // P4.6
	key, s := anyText(32, 1), anyText(40, 2)
	for bit := range 8 * 32 {
		at := bit / 8
		away := at < 16 && (at%4 == 3 && bit%8 >= 4 || at%4 == 0 && at > 0 && bit%8 < 2)
		was, _ := Tag(key, s)
		got, err := Tag(turned(key, bit), s)
		if same := got == was; same != away || err != api.OK {
			t.Errorf("the bit %d of the byte %d of the key counts: %v, want %v", bit%8, at, !same, !away)
		}
	}
}

func TestTagOfWrongKeys(t *testing.T) { // P4.6
	for n := range 100 {
		for _, s := range []string{"", "text"} {
			got, err := Tag(anyText(n, 1), s)
			if n != 32 {
				check(t, "Tag", got, err, "", api.ErrArg)
			} else if err != api.OK || len(got) != 16 {
				t.Errorf("Tag with a key of 32 bytes: %x, error %d", got, err)
			}
		}
	}
}

const sunscreen = "Ladies and Gentlemen of the class of '99: If I could offer you only one tip for the future, sunscreen would be it."

func TestCloseOfKnownTexts(t *testing.T) { // P4.7
	for _, c := range []struct{ what, key, nonce, more, s, want string }{
		{"RFC 8439, 2.8.2", run(0x80, 32), "\x07\x00\x00\x00" + run(0x40, 8), "PQRS" + run(0xc0, 8), sunscreen,
			`d31a8d34648e60db7b86afbc53ef7ec2 a4aded51296e08fea9e2b5a736ee62d6 3dbea45e8ca9671282fafb69da92728b
			 1a71de0a9e060b2905d6a5b67ecd3b36 92ddbd7f2d778b8c9803aee328091b58 fab324e4fad675945585808b4831d7bc
			 3ff4def08e4b7a9de576d26586cec64b 6116 1ae10b594f09e26a7e902ecbd0600691`},
	} {
		got, err := Close(c.key, c.nonce, c.more, c.s)
		check(t, c.what, got, err, unhex(t, c.want), api.OK)
		got, err = Open(c.key, c.nonce, c.more, unhex(t, c.want))
		check(t, c.what+", opened", got, err, c.s, api.OK)
	}
}

// RFC 8439's 2.4.2 hides from the block 1 on, as Close does, whatever the tag is.
func TestCloseHidesFromByte64On(t *testing.T) { // P4.7
	got, err := Close(run(0, 32), "\x00\x00\x00\x00\x00\x00\x00\x4a\x00\x00\x00\x00", "", sunscreen)
	want := unhex(t, `6e2e359a2568f98041ba0728dd0d6981 e97e7aec1d4360c20a27afccfd9fae0b f91b65c5524733ab8f593dabcd62b357
		1639d624e65152ab8f530c359f0861d8 07ca0dbf500d6a6156a38e088a22b65e 52bc514d16ccf806818ce91ab7793736
		5af90bbf74a35be6b40b8eedf2785e42 874d`)
	if err != api.OK || len(got) != len(want)+16 {
		t.Fatalf("Close: %d bytes, error %d", len(got), err)
	}
	check(t, "Close, without its tag", got[:len(want)], err, want, api.OK)
}

func TestCloseOfEachLength(t *testing.T) { // P4.7
	longs := []int{0, 1, 4, 15, 16, 17, 31, 32, 33, 64, 65, 255, 256, 1000}
	for seed := range byte(2) {
		key, nonce := anyText(32, seed), anyText(12, seed+100)
		for _, n := range longs {
			for _, m := range longs {
				more, s := anyText(n, seed+200), anyText(m, seed+210)
				got, err := Close(key, nonce, more, s)
				check(t, "Close", got, err, knownClosed(key, nonce, more, s), api.OK)
			}
		}
	}
}

func TestCloseWithMuchBeside(t *testing.T) { // P4.7
	key, nonce := anyText(32, 1), anyText(12, 2)
	for _, n := range []int{6001, 65535, 65536, 1<<24 + 3} {
		more := anyText(n, 3)
		want := knownClosed(key, nonce, more, "text")
		got, err := Close(key, nonce, more, "text")
		check(t, "Close", got, err, want, api.OK)
		got, err = Open(key, nonce, more, want)
		check(t, "Open", got, err, "text", api.OK)
	}
}

func TestCloseAtItsEnds(t *testing.T) { // P4.7
	key, nonce, all := anyText(32, 1), anyText(12, 2), anyText(7000, 3)
	for _, n := range []int{5935, 5936} {
		got, err := Close(key, nonce, "more", all[:n])
		check(t, "Close", got, err, knownClosed(key, nonce, "more", all[:n]), api.OK)
	}
	for _, n := range []int{5937, 5984, 6000, 6001, 7000} {
		got, err := Close(key, nonce, "more", all[:n])
		check(t, "Close of too many bytes", got, err, "", api.ErrArg)
	}
}

func TestCloseOfWrongKeys(t *testing.T) { // P4.7
	wrongKeys(func(key, nonce string) {
		for _, s := range []string{"", "text", anyText(5937, 1)} {
			got, err := Close(key, nonce, "more", s)
			check(t, "Close", got, err, "", api.ErrArg)
		}
	})
}

func TestOpen(t *testing.T) { // P4.8
	key, nonce := anyText(32, 1), anyText(12, 2)
	for _, n := range []int{0, 1, 15, 16, 17, 64, 300, 5935, 5936} {
		for _, more := range []string{"", "more", anyText(16, 3), anyText(100, 4)} {
			s := anyText(n, 5)
			got, err := Open(key, nonce, more, knownClosed(key, nonce, more, s))
			check(t, "Open", got, err, s, api.OK)
		}
	}
}

func TestOpenOfTooFewBytes(t *testing.T) { // P4.8
	key, nonce := anyText(32, 1), anyText(12, 2)
	closed := knownClosed(key, nonce, "more", "")
	for n := range 16 {
		for _, s := range []string{closed[:n], closed[16-n:], anyText(n, 3)} {
			got, err := Open(key, nonce, "more", s)
			check(t, "Open", got, err, "", api.ErrShort)
		}
	}
	got, err := Open(key, nonce, "more", closed)
	check(t, "Open of a tag alone", got, err, "", api.OK)
	got, err = Open(key, nonce, "more", anyText(16, 4))
	check(t, "Open of 16 other bytes", got, err, "", api.ErrTag)
}

func TestOpenSeesEachBit(t *testing.T) { // P4.8
	key, nonce, more := anyText(32, 1), anyText(12, 2), anyText(20, 3)
	closed := knownClosed(key, nonce, more, anyText(37, 4))
	fails := func(what string, bit int, key, nonce, more, closed string) {
		t.Helper()
		if got, err := Open(key, nonce, more, closed); got != "" || err != api.ErrTag {
			t.Errorf("the bit %d of the %s turned: %x, error %d", bit, what, got, err)
		}
	}
	for bit := range 8 * len(closed) {
		fails("closed text", bit, key, nonce, more, turned(closed, bit))
	}
	for bit := range 8 * len(more) {
		fails("text beside it", bit, key, nonce, turned(more, bit), closed)
	}
	for bit := range 8 * len(key) {
		fails("key", bit, turned(key, bit), nonce, more, closed)
	}
	for bit := range 8 * len(nonce) {
		fails("nonce", bit, key, turned(nonce, bit), more, closed)
	}
}

func TestOpenTellsItsBounds(t *testing.T) { // P4.7, P4.8
	key, nonce := anyText(32, 1), anyText(12, 2)
	closed := knownClosed(key, nonce, "more", "text")
	for _, c := range []struct{ more, s string }{
		{"", closed},
		{"mor", closed},
		{"more\x00", closed},
		{"more" + strings.Repeat("\x00", 12), closed},
		{"more" + closed[:1], closed[1:]},
		{"mor", "e" + closed},
		{"more", closed[:4] + "\x00" + closed[4:]},
		{"more", closed[1:]},
		{"more", closed + "\x00"},
		{"more", closed[4:] + closed[:4]},
	} {
		got, err := Open(key, nonce, c.more, c.s)
		check(t, "Open of what was not closed so", got, err, "", api.ErrTag)
	}
}

func TestOpenOfTooManyBytes(t *testing.T) { // P4.8
	key, nonce := anyText(32, 1), anyText(12, 2)
	for _, n := range []int{5937, 5985, 6000, 6001, 10000} {
		closed := knownClosed(key, nonce, "more", anyText(n, 3))
		got, err := Open(key, nonce, "more", closed)
		check(t, "Open of too many bytes, whose tag is right", got, err, "", api.ErrArg)
		got, err = Open(key, nonce, "more", turned(closed, 0))
		check(t, "Open of too many bytes, whose tag is another one", got, err, "", api.ErrTag)
	}
}

func TestOpenOfWrongKeys(t *testing.T) { // P4.8
	closed := knownClosed(anyText(32, 1), anyText(12, 2), "more", "text")
	wrongKeys(func(key, nonce string) {
		for _, s := range []string{"", closed[:15], closed, anyText(7000, 3)} {
			got, err := Open(key, nonce, "more", s)
			check(t, "Open", got, err, "", api.ErrArg)
		}
	})
}

func TestHiddenTwiceIsAsItWas(t *testing.T) { // P4.9
	for n := 0; n <= 6000; n += 75 {
		key, nonce, s := anyText(32, byte(n)), anyText(12, byte(n+1)), anyText(n, byte(n+2))
		hidden, err := Hide(key, nonce, s)
		if err != api.OK || len(hidden) != n || n >= 75 && hidden == s {
			t.Errorf("Hide of %d bytes: error %d, or hidden is nothing", n, err)
		}
		got, err := Hide(key, nonce, hidden)
		check(t, "Hide, twice", got, err, s, api.OK)
	}
}

func TestLongerStreamBeginsWithShorter(t *testing.T) { // P4.9
	key, nonce, last := anyText(32, 1), anyText(12, 2), ""
	for n := range 6001 {
		next, err := Stream(key, nonce, n)
		if err != api.OK || len(next) != n || !strings.HasPrefix(next, last) {
			t.Fatalf("Stream of %d has %d bytes, or does not begin with the shorter one: error %d", n, len(next), err)
		}
		last = next
	}
}

func TestMixedCanBeBroughtBack(t *testing.T) { // P4.10
	states := [][16]uint32{{}}
	for seed := range byte(200) {
		states = append(states, anyWords(seed))
	}
	for i := range 16 * 32 {
		s := [16]uint32{}
		s[i/32] = 1 << (i % 32)
		states = append(states, s)
	}
	for _, s := range states {
		back := Mixed(s)
		for _, p := range slices.Backward(places()) {
			broughtBack(back[:], p[0], p[1], p[2], p[3])
		}
		if back != s {
			t.Errorf("Mixed(%x) is brought back to %x", s, back)
		}
		q := Quarter([4]uint32(s[:4]))
		broughtBack(q[:], 0, 1, 2, 3)
		if q != [4]uint32(s[:4]) {
			t.Errorf("Quarter(%x) is brought back to %x", s[:4], q)
		}
	}
}

func TestClosedIsOpened(t *testing.T) { // P4.11
	for n := 0; n <= 5936; n += 53 {
		key, nonce, more, s := anyText(32, byte(n)), anyText(12, byte(n+1)), anyText(n%77, byte(n+2)), anyText(n, byte(n+3))
		closed, err := Close(key, nonce, more, s)
		if err != api.OK || len(closed) != n+16 {
			t.Fatalf("Close of %d bytes: %d bytes, error %d", n, len(closed), err)
		}
		got, err := Open(key, nonce, more, closed)
		check(t, "Open of what was closed", got, err, s, api.OK)
		got, err = Open(key, nonce, more+"x", closed)
		check(t, "Open of what was closed, with more beside it", got, err, "", api.ErrTag)
	}
}
