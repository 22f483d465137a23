package keyed

import (
	"crypto/hkdf"
	"crypto/hmac"
	"crypto/sha256"
	"encoding/hex"
	"math"
	"math/rand/v2"
	"slices"
	"strings"
	"testing"
)

// anyText is n bytes that follow no simple rule, the same ones for the same seed.
func anyText(n int, seed uint64) string {
	source, out := rand.NewPCG(seed, uint64(n)), make([]byte, n)
	for i := range out {
		out[i] = byte(source.Uint64())
	}
	return string(out)
}

// knownMac is the library's HMAC-SHA-256.
func knownMac(key, s string) string {
	h := hmac.New(sha256.New, []byte(key))
	h.Write([]byte(s))
	return string(h.Sum(nil))
}

// knownExpand is the library's Expand, of a key that is taken as it is.
func knownExpand(t *testing.T, key, info string, n int) string {
	t.Helper()
	out, err := hkdf.Expand(sha256.New, []byte(key), info, n)
	if err != nil {
		t.Fatal(err)
	}
	return string(out)
}

// unhex is the bytes that hexadecimal digits tell.
func unhex(t *testing.T, digits string) string {
	t.Helper()
	out, err := hex.DecodeString(digits)
	if err != nil {
		t.Fatal(err)
	}
	return string(out)
}

// knownKeys is keys of all kinds of length, the ends of a block among them.
func knownKeys() []string {
	out := []string{"", "key", strings.Repeat("\x00", 64), strings.Repeat("\xff", 65)}
	for _, n := range []int{1, 31, 32, 33, 63, 64, 65, 66, 127, 128, 129, 1000} {
		out = append(out, anyText(n, 1))
	}
	return out
}

func TestMacOfKnownTexts(t *testing.T) { // P3.1
	long := strings.Repeat("\xaa", 131)
	for _, c := range []struct{ key, s, want string }{
		{"", "", "b613679a0814d9ec772f95d778c35fc5ff1697c493715653c6c712144292c5ad"},
		{"key", "The quick brown fox jumps over the lazy dog", "f7bc83f430538424b13298e6aa6fb143ef4d59a14946175997479dbc2d1a3cd8"},
		// RFC 4231's.
		{strings.Repeat("\x0b", 20), "Hi There", "b0344c61d8db38535ca8afceaf0bf12b881dc200c9833da726e9376c2e32cff7"},
		{"Jefe", "what do ya want for nothing?", "5bdcc146bf60754e6a042426089575c75a003f089d2739839dec58b964ec3843"},
		{long, "Test Using Larger Than Block-Size Key - Hash Key First", "60e431591ee0b67f0d8a26aacbf5b77f8e0bc6213728c5140546040f0ee37f54"},
		{long, "This is a test using a larger than block-size key and a larger than block-size data. The key needs to be hashed before being used by the HMAC algorithm.",
			"9b09ffa71b942fcb27635fbcd5b0e944bfdc63644f0713938a7f51535c3a35e2"},
	} {
		if got := hex.EncodeToString([]byte(Mac(c.key, c.s))); got != c.want {
			t.Errorf("Mac(%q, %q): %s, want %s", c.key, c.s, got, c.want)
		}
	}
}

func TestMacOfEachLength(t *testing.T) { // P3.1
	for _, key := range knownKeys() {
		for _, n := range []int{0, 1, 55, 56, 63, 64, 65, 119, 120, 500} {
			s := anyText(n, 2)
			if got, want := Mac(key, s), knownMac(key, s); got != want {
				t.Errorf("Mac of %d bytes with a key of %d: %x, want %x", n, len(key), got, want)
			}
		}
	}
	great := anyText(1<<20+1, 3)
	if got, want := Mac(great, great), knownMac(great, great); got != want {
		t.Errorf("Mac of %d bytes with themselves: %x, want %x", len(great), got, want)
	}
}

func TestMacHasAllOfKeyAndText(t *testing.T) { // P3.1
	key, s := anyText(64, 4), anyText(64, 5)
	for i := range 64 {
		other := []byte(key)
		other[i] ^= 1
		if Mac(string(other), s) == Mac(key, s) {
			t.Errorf("the byte %d of the key does not count", i)
		}
		other = []byte(s)
		other[i] ^= 1
		if Mac(key, string(other)) == Mac(key, s) {
			t.Errorf("the byte %d of the text does not count", i)
		}
	}
}

func TestMacFillsKeysWithZeros(t *testing.T) { // P3.1
	for _, c := range []struct {
		zeros int
		same  bool
	}{{0, true}, {1, true}, {60, true}, {61, true}, {62, false}} {
		filled := "key" + strings.Repeat("\x00", c.zeros)
		if same := Mac(filled, "s") == Mac("key", "s"); same != c.same {
			t.Errorf("a key with %d bytes 0 behind it is as good as without: %v, want %v", c.zeros, same, c.same)
		}
	}
}

func TestLongKeyIsItsDigest(t *testing.T) { // P3.1, P3.9
	for n := range 200 {
		key := anyText(n, 6)
		sum := sha256.Sum256([]byte(key))
		short := string(sum[:])
		if same := Mac(key, "s") == Mac(short, "s"); same != (n > 64) {
			t.Errorf("Mac: a key of %d bytes is as good as its digest: %v", n, same)
		}
		if same := Expand(key, "s", 50) == Expand(short, "s", 50); same != (n > 64) {
			t.Errorf("Expand: a key of %d bytes is as good as its digest: %v", n, same)
		}
	}
}

func TestExtract(t *testing.T) { // P3.2
	for _, salt := range knownKeys() {
		for _, s := range []string{"", "s", anyText(22, 7), anyText(200, 8)} {
			if got, want := Extract(salt, s), knownMac(salt, s); got != want {
				t.Errorf("Extract(%q, %q): %x, want %x", salt, s, got, want)
			}
			want, err := hkdf.Extract(sha256.New, []byte(s), []byte(salt))
			if err != nil {
				t.Fatal(err)
			}
			if got := Extract(salt, s); got != string(want) {
				t.Errorf("Extract(%q, %q): %x, want %x as the library has it", salt, s, got, want)
			}
		}
	}
}

// run is the bytes from first to last, each one more than the one ahead.
func run(first, last int) string {
	out := []byte{}
	for b := first; b <= last; b++ {
		out = append(out, byte(b))
	}
	return string(out)
}

func TestExtractAndExpandOfKnownTexts(t *testing.T) { // P3.2, P3.3
	for _, c := range []struct { // RFC 5869's.
		what, s, salt, info, key, want string
	}{
		{"its first", strings.Repeat("\x0b", 22), run(0, 12), run(0xf0, 0xf9),
			"077709362c2e32df0ddc3f0dc47bba6390b6c73bb50f9c3122ec844ad7c2b3e5",
			"3cb25f25faacd57a90434f64d0362f2a2d2d0a90cf1a5a4c5db02d56ecc4c5bf34007208d5b887185865"},
		{"its second", run(0, 0x4f), run(0x60, 0xaf), run(0xb0, 0xff),
			"06a6b88c5853361a06104c9ceb35b45cef760014904671014a193f40c15fc244",
			"b11e398dc80327a1c8e7f78c596a49344f012eda2d4efad8a050cc4c19afa97c59045a99cac7827271cb41c65e590e09da3275600c2f09b8367793a9aca3db71cc30c58179ec3e87c14c01d5c1f3434f1d87"},
		{"its third", strings.Repeat("\x0b", 22), "", "",
			"19ef24a32c717b167f33a91d6f648bdf96596776afdb6377ac434c1c293ccb04",
			"8da4e775a563c18f715f802a063c5a31b8a11f5c5ee1879ec3454e5f3c738d2d9d201395faa4b61a96c8"},
	} {
		key, want := unhex(t, c.key), unhex(t, c.want)
		if got := Extract(c.salt, c.s); got != key {
			t.Errorf("%s: Extract: %x, want %x", c.what, got, key)
		}
		if got := Expand(key, c.info, len(want)); got != want {
			t.Errorf("%s: Expand: %x, want %x", c.what, got, want)
		}
	}
}

func TestExpand(t *testing.T) { // P3.3
	for _, key := range knownKeys() {
		for _, info := range []string{"", "info", anyText(100, 9)} {
			for _, n := range []int{1, 31, 32, 33, 63, 64, 65, 500} {
				if got, want := Expand(key, info, n), knownExpand(t, key, info, n); got != want {
					t.Errorf("Expand(%q, %q, %d): %x, want %x", key, info, n, got, want)
				}
			}
		}
	}
}

func TestExpandByItsTexts(t *testing.T) { // P3.3
	one := knownMac("k", "info\x01")
	two := knownMac("k", one+"info\x02")
	three := knownMac("k", two+"info\x03")
	if got, want := Expand("k", "info", 96), one+two+three; got != want {
		t.Errorf("Expand to three texts: %x, want %x", got, want)
	}
}

func TestExpandAtItsEnds(t *testing.T) { // P3.3
	all := knownExpand(t, "k", "i", 8160)
	for _, c := range []struct{ n, long int }{
		{math.MinInt, 0}, {-8160, 0}, {-1, 0}, {0, 0}, {1, 1}, {8127, 8127}, {8128, 8128}, {8129, 8129},
		{8159, 8159}, {8160, 8160}, {8161, 8160}, {8192, 8160}, {9000, 8160}, {math.MaxInt, 8160},
	} {
		if got := Expand("k", "i", c.n); got != all[:c.long] {
			t.Errorf("Expand to %d: %d bytes, want the first %d", c.n, len(got), c.long)
		}
	}
}

func TestLongerExpandBeginsWithShorter(t *testing.T) { // P3.9
	last := ""
	for n := 0; n <= 8300; n += 83 {
		next := Expand("key", "info", n)
		if !strings.HasPrefix(next, last) || len(next) != min(n, 8160) {
			t.Errorf("Expand to %d has %d bytes, or does not begin with the shorter one", n, len(next))
		}
		last = next
	}
}

func TestDerive(t *testing.T) { // P3.4
	great := anyText(65536+3, 10)
	for info, l := range map[string][]string{
		"":                                     nil,
		"\x00\x00":                             {""},
		"\x00\x00\x00\x00":                     {"", ""},
		"\x00\x03pad":                          {"pad"},
		"\x00\x03pad\x00\x011":                 {"pad", "1"},
		"\x00\x02pa\x00\x00\x00\x02d1":         {"pa", "", "d1"},
		"\x00\xff" + great[:255] + "\x00\x01x": {great[:255], "x"},
		"\x01\x00" + great[:256]:               {great[:256]},
		"\xff\xff" + great[:65535]:             {great[:65535]},
		"\x00\x03" + great:                     {great},
	} {
		for _, key := range knownKeys() {
			for _, n := range []int{1, 32, 80} {
				if got, want := Derive(key, n, l...), knownExpand(t, knownMac("murmur", key), info, n); got != want {
					t.Errorf("Derive of %d bytes with a key of %d, of %d texts: %x, want %x", n, len(key), len(l), got, want)
				}
			}
		}
	}
}

func TestDeriveAtItsEnds(t *testing.T) { // P3.4
	for _, c := range []struct{ n, long int }{
		{math.MinInt, 0}, {-1, 0}, {0, 0}, {1, 1}, {8160, 8160}, {8161, 8160}, {math.MaxInt, 8160},
	} {
		if got := Derive("key", c.n, "a", "b"); len(got) != c.long {
			t.Errorf("Derive of %d has %d bytes, want %d", c.n, len(got), c.long)
		}
	}
}

func TestDeriveTellsItsPartsBounds(t *testing.T) { // P3.4
	seen := []string{}
	for _, l := range [][]string{{}, {""}, {"abc"}, {"ab", "c"}, {"a", "bc"}, {"a", "b", "c"}, {"", "abc"}, {"abc", ""}} {
		key := Derive("key", 32, l...)
		if slices.Contains(seen, key) {
			t.Errorf("Derive of %q is that of another list", l)
		}
		seen = append(seen, key)
	}
}

func TestDeriveLeavesItsList(t *testing.T) { // R3
	all := []string{"a", "b", "behind", "it"}
	Derive("key", 64, all[:2]...)
	if want := []string{"a", "b", "behind", "it"}; !slices.Equal(all, want) {
		t.Errorf("Derive left %q, want %q", all, want)
	}
}

func TestStep(t *testing.T) { // P3.5
	for _, key := range knownKeys() {
		next, out := Step(key)
		if want := knownMac(key, "next"); next != want {
			t.Errorf("the first of Step(%q): %x, want %x", key, next, want)
		}
		if want := knownMac(key, "out"); out != want {
			t.Errorf("the second of Step(%q): %x, want %x", key, out, want)
		}
	}
}

// knownChain is n keys of a chain, by the library's HMAC.
func knownChain(key string, n int) []string {
	out := []string{}
	for range n {
		out = append(out, knownMac(key, "out"))
		key = knownMac(key, "next")
	}
	return out
}

func TestChain(t *testing.T) { // P3.6
	for _, key := range knownKeys() {
		all := knownChain(key, 200)
		for _, c := range []struct{ n, many int }{
			{math.MinInt, 0}, {-1, 0}, {0, 0}, {1, 1}, {2, 2}, {3, 3}, {199, 199}, {200, 200}, {201, 200}, {math.MaxInt, 200},
		} {
			if got := Chain(key, c.n); !slices.Equal(got, all[:c.many]) {
				t.Errorf("Chain(%q, %d): %d keys %x, want the first %d of %x", key, c.n, len(got), got, c.many, all)
			}
		}
	}
}

func TestLongerChainBeginsWithShorter(t *testing.T) { // P3.10
	last := []string{}
	for n := range 60 {
		next := Chain("key", n)
		if len(next) != n || !slices.Equal(next[:len(last)], last) {
			t.Errorf("the chain of %d has %d keys, or does not begin with the shorter one", n, len(next))
		}
		last = next
	}
}

func TestAnswersStandApart(t *testing.T) { // R3
	for _, answer := range []func() []string{
		func() []string { return Chain("key", 3) },
		func() []string { return Tree("key", 2) },
	} {
		first := answer()
		want := first[0]
		first[0] = "altered"
		if got := answer()[0]; got != want {
			t.Errorf("an answer that is altered alters the next: %x, want %x", got, want)
		}
	}
}

// knownLeaf is the key at the end of the turns, "l" and "r", by the library's HMAC.
func knownLeaf(key, turns string) string {
	for _, side := range turns {
		if side == 'l' {
			key = knownMac(key, "left")
		} else {
			key = knownMac(key, "right")
		}
	}
	return key
}

func TestLeaf(t *testing.T) { // P3.7
	for _, c := range []struct {
		at, high int
		turns    string
	}{
		{0, 0, ""},
		{0, 1, "l"},
		{1, 1, "r"},
		{1, 2, "lr"},
		{2, 2, "rl"},
		{3, 2, "rr"},
		{1, 3, "llr"},
		{3, 3, "lrr"},
		{4, 3, "rll"},
		{6, 3, "rrl"},
		{255, 8, strings.Repeat("r", 8)},
		{256, 9, "r" + strings.Repeat("l", 8)},
		{0, 30, strings.Repeat("l", 30)},
		{5, 30, strings.Repeat("l", 27) + "rlr"},
		{1 << 29, 30, "r" + strings.Repeat("l", 29)},
		{1<<30 - 1, 30, strings.Repeat("r", 30)},
	} {
		for _, key := range knownKeys() {
			if got, want := Leaf(key, c.at, c.high), knownLeaf(key, c.turns); got != want {
				t.Errorf("Leaf(%q, %d, %d): %x, want %x", key, c.at, c.high, got, want)
			}
		}
	}
}

func TestLeafThatIsNowhere(t *testing.T) { // P3.7
	for _, c := range []struct{ at, high int }{
		{0, -1}, {0, math.MinInt}, {-1, -1}, {0, 31}, {1, 31}, {0, 62}, {0, 63}, {0, 64}, {0, math.MaxInt}, {math.MaxInt, math.MaxInt},
		{1, 0}, {-1, 0}, {2, 1}, {-1, 1}, {4, 2}, {5, 2}, {-4, 2}, {256, 8}, {1 << 30, 30}, {-1, 30}, {math.MaxInt, 30}, {math.MinInt, 30},
	} {
		if got := Leaf("key", c.at, c.high); got != "" {
			t.Errorf("Leaf at %d of height %d: %x, want nothing", c.at, c.high, got)
		}
	}
}

func TestTree(t *testing.T) { // P3.8
	for _, key := range knownKeys() {
		want := []string{key}
		for high := range 9 {
			if got := Tree(key, high); !slices.Equal(got, want) {
				t.Errorf("Tree(%q, %d): %d keys %x, want %x", key, high, len(got), got, want)
			}
			beneath := []string{}
			for _, k := range want {
				beneath = append(beneath, knownMac(k, "left"), knownMac(k, "right"))
			}
			want = beneath
		}
	}
}

func TestTreeOfNoHeight(t *testing.T) { // P3.8
	for _, high := range []int{-1, -8, math.MinInt, 9, 10, 30, 63, 64, math.MaxInt} {
		if got := Tree("key", high); len(got) > 0 {
			t.Errorf("Tree of height %d has %d keys, want none", high, len(got))
		}
	}
}

func TestTreeHasEachLeaf(t *testing.T) { // P3.10
	for high := range 9 {
		all := Tree("key", high)
		if len(all) != 1<<high {
			t.Fatalf("Tree of height %d has %d keys", high, len(all))
		}
		for at, leaf := range all {
			if got := Leaf("key", at, high); got != leaf {
				t.Errorf("Leaf at %d of height %d: %x, want %x as in the tree", at, high, got, leaf)
			}
		}
	}
}
