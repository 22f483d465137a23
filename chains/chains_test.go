package chains

import (
	"crypto/sha256"
	"encoding/binary"
	"encoding/hex"
	"math"
	"math/rand/v2"
	"slices"
	"strconv"
	"strings"
	"testing"

	"murmur/api"
)

// anyText is n bytes that follow no simple rule, the same ones for the same seed.
func anyText(n int, seed byte) string {
	out := make([]byte, n)
	rand.NewChaCha8([32]byte{seed}).Read(out)
	return string(out)
}

// zeros is n bytes 0.
func zeros(n int) string {
	return strings.Repeat("\x00", n)
}

// filled is the first n bytes of s, bytes 0 behind it where it has fewer.
func filled(s string, n int) string {
	return (s + zeros(n))[:n]
}

// turned is s with one bit turned.
func turned(s string, bit int) string {
	out := []byte(s)
	out[bit/8] ^= 1 << (bit % 8)
	return string(out)
}

// rightShapes is shapes at the ends and in between.
func rightShapes() []api.Shape {
	return []api.Shape{{N: 2}, {N: 2, H: 8}, {N: 3, H: 1}, {N: 8, H: 2}, {N: 16, H: 1}, {N: 31, H: 7}, {N: 32}, {N: 32, H: 8}}
}

// wrongShapes is shapes with one number or both past an end.
func wrongShapes() []api.Shape {
	return []api.Shape{
		{}, {N: 1}, {N: 1, H: 8}, {N: 33}, {N: 33, H: 4}, {N: -2}, {N: math.MinInt}, {N: math.MaxInt},
		{N: 2, H: -1}, {N: 2, H: 9}, {N: 16, H: -1}, {N: 32, H: 9}, {N: 16, H: math.MinInt}, {N: 16, H: math.MaxInt},
		{N: 1, H: -1}, {N: 33, H: 9}, {N: math.MaxInt, H: math.MaxInt}, {N: 0, H: 8}, {H: -1},
	}
}

// knownParts is the digest of parts, by Go's own SHA-256.
func knownParts(parts ...string) string {
	all := []byte{}
	for _, s := range parts {
		all = append(binary.BigEndian.AppendUint32(all, uint32(len(s))), s...)
	}
	sum := sha256.Sum256(all)
	return string(sum[:])
}

// four is the lowest 4 bytes of n, the highest first.
func four(n int) string {
	return string(binary.BigEndian.AppendUint32(nil, uint32(n)))
}

// two is the lowest 2 bytes of n, the highest first.
func two(n int) string {
	return string(binary.BigEndian.AppendUint16(nil, uint16(n)))
}

// knownRun is v behind the steps of the numbers from first on, of which there are so many.
func knownRun(p api.Shape, room string, spot [2]int, first, steps int, v string) string {
	for i := range steps {
		v = knownParts("run", room, four(spot[0]), two(spot[1]), string([]byte{byte(first + i)}), v)[:p.N]
	}
	return v
}

// knownBegin is what a chain begins with.
func knownBegin(p api.Shape, seed string, leaf, chain int) string {
	return knownParts("begin", seed, four(leaf), two(chain))[:p.N]
}

// knownLeaf is the leaf, from begin to end.
func knownLeaf(p api.Shape, seed, room string, leaf int) string {
	ends := ""
	for chain := range 2*p.N + 3 {
		ends += knownRun(p, room, [2]int{leaf, chain}, 0, 15, knownBegin(p, seed, leaf, chain))
	}
	return knownParts("leaf", room, four(leaf), ends)[:p.N]
}

// knownDigits is the digits of d, by how they are written.
func knownDigits(t *testing.T, p api.Shape, d string) []int {
	t.Helper()
	out, sum := []int{}, 0
	for _, c := range hex.EncodeToString([]byte(filled(d, p.N))) {
		out = append(out, digitOf(t, c))
		sum += out[len(out)-1]
	}
	rest := "000" + strconv.FormatInt(int64(30*p.N-sum), 16)
	for _, c := range rest[len(rest)-3:] {
		out = append(out, digitOf(t, c))
	}
	return out
}

// digitOf is what the digit c is worth.
func digitOf(t *testing.T, c rune) int {
	t.Helper()
	n, err := strconv.ParseInt(string(c), 16, 0)
	if err != nil {
		t.Fatal(err)
	}
	return int(n)
}

// knownSign is the signature of d.
func knownSign(t *testing.T, p api.Shape, seed, room string, leaf int, d string) string {
	t.Helper()
	out := ""
	for chain, digit := range knownDigits(t, p, d) {
		out += knownRun(p, room, [2]int{leaf, chain}, 0, digit, knownBegin(p, seed, leaf, chain))
	}
	return out
}

// knownFound is what is found of sig, which has as many bytes as it needs.
func knownFound(t *testing.T, p api.Shape, room string, leaf int, sig, d string) string {
	t.Helper()
	ends := ""
	for chain, digit := range knownDigits(t, p, d) {
		ends += knownRun(p, room, [2]int{leaf, chain}, digit, 15-digit, sig[chain*p.N:][:p.N])
	}
	return knownParts("leaf", room, four(leaf), ends)[:p.N]
}

// leaves is numbers of leaves: some that a tree has, and others.
func leaves() []int {
	return []int{0, 1, 2, 255, 256, 65535, 65536, 1<<32 - 1, 1 << 32, 1<<32 + 7, -1, -256}
}

// texts is texts to be signed: none, short and long ones, at the ends, and any.
func texts() []string {
	out := []string{"", "\x00", "\x0f", "\xf0", "\x00\x0f", "ab", zeros(32), strings.Repeat("\xff", 32), strings.Repeat("\xff", 40), zeros(31) + "\x01"}
	for _, n := range []int{1, 2, 3, 15, 16, 17, 31, 32, 33, 100} {
		out = append(out, anyText(n, byte(n)))
	}
	return out
}

// rooms is rooms of all kinds of length.
func rooms() []string {
	return []string{"", "room", "roomroom", zeros(8), anyText(70, 1), anyText(300, 2)}
}

// says holds an answer against what is wanted.
func says(t *testing.T, what, got, want string) {
	t.Helper()
	if got != want {
		t.Errorf("%s: %x, want %x", what, got, want)
	}
}

func TestRight(t *testing.T) { // P7.1
	for n := -3; n <= 40; n++ {
		for h := -3; h <= 12; h++ {
			p := api.Shape{N: n, H: h}
			want := !(n < 2) && !(n > 32) && !(h < 0) && !(h > 8)
			if got := Right(p); got != want {
				t.Errorf("Right(%v): %v, want %v", p, got, want)
			}
		}
	}
	for _, p := range rightShapes() {
		if !Right(p) {
			t.Errorf("%v is not right", p)
		}
	}
	for _, p := range wrongShapes() {
		if Right(p) {
			t.Errorf("%v is right", p)
		}
	}
}

func TestCount(t *testing.T) { // P7.2
	for p, want := range map[api.Shape]int{{N: 2}: 7, {N: 2, H: 8}: 7, {N: 3, H: 1}: 9, {N: 16, H: 4}: 35, {N: 31, H: 8}: 65, {N: 32}: 67, {N: 32, H: 8}: 67} {
		if got := Count(p); got != want {
			t.Errorf("Count(%v): %d, want %d", p, got, want)
		}
	}
	for _, p := range wrongShapes() {
		if got := Count(p); got != 0 {
			t.Errorf("Count(%v): %d, want 0", p, got)
		}
	}
}

func TestDigitsOfKnownTexts(t *testing.T) { // P7.3
	for _, c := range []struct {
		n    int
		d    string
		want []int
	}{
		{2, "\x00\x0f", []int{0, 0, 0, 15, 0, 2, 13}},
		{2, "", []int{0, 0, 0, 0, 0, 3, 12}},
		{2, "\xff\xff", []int{15, 15, 15, 15, 0, 0, 0}},
		{2, "\xff\xff\xff", []int{15, 15, 15, 15, 0, 0, 0}},
		{2, "\x1f", []int{1, 15, 0, 0, 0, 2, 12}},
		{2, "\xf1", []int{15, 1, 0, 0, 0, 2, 12}},
		{2, "\xff\xef\x00", []int{15, 15, 14, 15, 0, 0, 1}},
		{3, "\x9a\xbc", []int{9, 10, 11, 12, 0, 0, 0, 3, 0}},
		{9, "", append(make([]int, 18), 1, 0, 14)},
		{9, "\x77", append(append([]int{7, 7}, make([]int, 16)...), 1, 0, 0)},
		{9, "\x78", append(append([]int{7, 8}, make([]int, 16)...), 0, 15, 15)},
		{32, "", append(make([]int, 64), 3, 12, 0)},
	} {
		for _, h := range []int{0, 8} {
			if got := Digits(api.Shape{N: c.n, H: h}, c.d); !slices.Equal(got, c.want) {
				t.Errorf("Digits of the shape %d, %d of %x: %v, want %v", c.n, h, c.d, got, c.want)
			}
		}
	}
}

func TestDigitsOfAnyTexts(t *testing.T) { // P7.3
	for n := 2; n <= 32; n++ {
		for i := range 40 {
			p, d := api.Shape{N: n, H: i % 9}, anyText(i, byte(n))
			if got, want := Digits(p, d), knownDigits(t, p, d); !slices.Equal(got, want) {
				t.Errorf("Digits(%v, %x): %v, want %v", p, d, got, want)
			}
		}
	}
}

func TestDigitsOfEachBit(t *testing.T) { // P7.3
	for _, p := range rightShapes() {
		d := anyText(40, 3)
		for bit := range 8 * len(d) {
			same := slices.Equal(Digits(p, d), Digits(p, turned(d, bit)))
			if same != (bit >= 8*p.N) {
				t.Errorf("%v: the digits are the same with the bit %d turned: %v", p, bit, same)
			}
		}
	}
}

func TestDigitsOfWrongShapes(t *testing.T) { // P7.3
	for _, p := range wrongShapes() {
		for _, d := range texts() {
			if got := Digits(p, d); len(got) != 0 {
				t.Errorf("Digits(%v, %x): %v, want none", p, d, got)
			}
		}
	}
}

func TestDigitsStandApart(t *testing.T) { // R3
	p := api.Shape{N: 2}
	first, second := Digits(p, "ab"), Digits(p, "ab")
	first[0] = 99
	if second[0] != 6 || Digits(p, "ab")[0] != 6 {
		t.Errorf("an answer that is altered alters another one")
	}
}

func TestRun(t *testing.T) { // P7.4
	for _, p := range rightShapes() {
		for from := range 15 {
			for to := from; to <= 15; to++ {
				v, spot := anyText(p.N, byte(from)), [2]int{from, to}
				says(t, "Run", Run(p, "room", spot, from, to, v), knownRun(p, "room", spot, from, to-from, v))
			}
		}
	}
}

func TestRunOfAnyRoomSpotAndValue(t *testing.T) { // P7.4
	p := api.Shape{N: 16, H: 3}
	for _, room := range rooms() {
		for _, leaf := range leaves() {
			for _, chain := range []int{0, 1, 66, 255, 256, 65535, 65536, -1} {
				spot := [2]int{leaf, chain}
				for _, n := range []int{0, 1, 16, 17, 100} {
					v := anyText(n, 4)
					says(t, "Run", Run(p, room, spot, 3, 5, v), knownRun(p, room, spot, 3, 2, v))
				}
			}
		}
	}
}

func TestRunAtItsEnds(t *testing.T) { // P7.4
	for _, p := range rightShapes() {
		for _, c := range []struct{ from, to, first, steps int }{
			{0, 15, 0, 15}, {0, 16, 0, 15}, {0, 255, 0, 15}, {0, math.MaxInt, 0, 15}, {-1, 15, 0, 15}, {math.MinInt, math.MaxInt, 0, 15},
			{14, 15, 14, 1}, {14, 16, 14, 1}, {14, math.MaxInt, 14, 1}, {13, 20, 13, 2}, {-1, 1, 0, 1}, {-5, 2, 0, 2}, {math.MinInt, 3, 0, 3},
			{0, 0, 0, 0}, {15, 15, 0, 0}, {15, 16, 0, 0}, {16, 20, 0, 0}, {15, math.MaxInt, 0, 0}, {math.MaxInt, math.MaxInt, 0, 0},
			{1, 0, 0, 0}, {9, 3, 0, 0}, {15, 0, 0, 0}, {-2, -1, 0, 0}, {-1, 0, 0, 0}, {math.MinInt, 0, 0, 0}, {math.MinInt, math.MinInt, 0, 0}, {0, -1, 0, 0}, {math.MaxInt, math.MinInt, 0, 0},
		} {
			v := anyText(p.N, 5)
			says(t, "Run", Run(p, "room", [2]int{7, 8}, c.from, c.to, v), knownRun(p, "room", [2]int{7, 8}, c.first, c.steps, v))
		}
	}
}

// Where there is no step, v is there as it was, however many bytes it has.
func TestRunWithoutSteps(t *testing.T) { // P7.4
	for _, p := range rightShapes() {
		for _, n := range []int{0, 1, 2, 31, 32, 33, 200} {
			v := anyText(n, 6)
			says(t, "Run without steps", Run(p, "room", [2]int{1, 2}, 5, 5, v), v)
			says(t, "Run backwards", Run(p, "room", [2]int{1, 2}, 6, 5, v), v)
		}
	}
}

func TestRunOfAllThatCounts(t *testing.T) { // P7.4
	p := api.Shape{N: 32}
	met := map[string]int{}
	for _, answer := range []string{
		Run(p, "room", [2]int{1, 2}, 3, 4, "v"), Run(p, "roon", [2]int{1, 2}, 3, 4, "v"), Run(p, "roo", [2]int{1, 2}, 3, 4, "mv"),
		Run(p, "room", [2]int{2, 2}, 3, 4, "v"), Run(p, "room", [2]int{1, 3}, 3, 4, "v"), Run(p, "room", [2]int{2, 1}, 3, 4, "v"),
		Run(p, "room", [2]int{1, 2}, 4, 5, "v"), Run(p, "room", [2]int{1, 2}, 3, 5, "v"), Run(p, "room", [2]int{1, 2}, 3, 4, "w"),
		Run(p, "room", [2]int{1, 2}, 3, 4, ""), Run(p, "", [2]int{1, 2}, 3, 4, "v"), Run(p, "room", [2]int{1 << 16, 2}, 3, 4, "v"),
	} {
		met[answer]++
	}
	if len(met) != 12 {
		t.Errorf("12 runs have %d ends", len(met))
	}
	says(t, "Run of a shorter shape", Run(api.Shape{N: 9}, "room", [2]int{1, 2}, 3, 4, "v"), Run(p, "room", [2]int{1, 2}, 3, 4, "v")[:9])
}

func TestLeaf(t *testing.T) { // P7.5
	for _, p := range rightShapes() {
		for _, leaf := range leaves() {
			says(t, "Leaf", Leaf(p, "seed", "room", leaf), knownLeaf(p, "seed", "room", leaf))
		}
		for _, room := range rooms() {
			for _, seed := range []string{"", "room", anyText(32, 7), anyText(100, 8)} {
				says(t, "Leaf", Leaf(p, seed, room, 5), knownLeaf(p, seed, room, 5))
			}
		}
	}
}

// What another program, with another SHA-256, came to.
func TestKnownOnes(t *testing.T) { // P7.5, P7.6
	for _, c := range []struct {
		p              api.Shape
		leaf           int
		wantLeaf, d    string
		wantSignDigest string
		wantSignLong   int
	}{
		{api.Shape{N: 2, H: 0}, 0, "1e6e", "", "651de879f7a7e461e550d27a206033803ba93595f58d51080b8a29bd0dd92568", 14},
		{api.Shape{N: 16, H: 1}, 3, "1b5d6d4743f29a8623c1d348b7d6bc5b", "0123456789abcdef", "3c87814d8774f37a721ecfafbf2acd40eb0d6f06c63092e69d7a9b9e95352144", 560},
		{api.Shape{N: 32, H: 8}, 255, "b3badb703a470d0fe70a9cea80bfd979ed5b3fbbf5777c6c19e78f277311b068", "a text that is longer than a digest", "9ae8d7f44d793ba136434d8ae77ec3009181f8988d84c43708ae053d43a4c465", 2144},
	} {
		if got := hex.EncodeToString([]byte(Leaf(c.p, "seed", "room", c.leaf))); got != c.wantLeaf {
			t.Errorf("Leaf of the shape %v: %s, want %s", c.p, got, c.wantLeaf)
		}
		sig := Sign(c.p, "seed", "room", c.leaf, c.d)
		sum := sha256.Sum256([]byte(sig))
		if got := hex.EncodeToString(sum[:]); got != c.wantSignDigest || len(sig) != c.wantSignLong {
			t.Errorf("Sign of the shape %v has the digest %s and %d bytes, want %s and %d", c.p, got, len(sig), c.wantSignDigest, c.wantSignLong)
		}
	}
}

func TestSign(t *testing.T) { // P7.6
	for _, p := range rightShapes() {
		for _, d := range texts() {
			sig := Sign(p, "seed", "room", 3, d)
			says(t, "Sign", sig, knownSign(t, p, "seed", "room", 3, d))
			if len(sig) != p.N*Count(p) {
				t.Errorf("Sign of the shape %v has %d bytes", p, len(sig))
			}
		}
	}
	p := api.Shape{N: 5, H: 2}
	for _, room := range rooms() {
		for _, leaf := range leaves() {
			for _, seed := range []string{"", "room", anyText(32, 7), anyText(100, 8)} {
				says(t, "Sign", Sign(p, seed, room, leaf, "hello"), knownSign(t, p, seed, room, leaf, "hello"))
			}
		}
	}
}

// The digits of bytes 255 are 15 and their rest 0: the ends of all chains but the last three, which have not begun.
func TestSignAtItsEnds(t *testing.T) { // P7.6
	p := api.Shape{N: 4}
	sig, noSteps := Sign(p, "seed", "room", 1, "\xff\xff\xff\xff"), Sign(p, "seed", "room", 1, "")
	for chain := range 8 {
		begin := knownBegin(p, "seed", 1, chain)
		says(t, "a chain at its end", sig[4*chain:][:4], knownRun(p, "room", [2]int{1, chain}, 0, 15, begin))
		says(t, "a chain at its begin", noSteps[4*chain:][:4], begin)
	}
	for chain := 8; chain < 11; chain++ {
		says(t, "a chain of the rest", sig[4*chain:][:4], knownBegin(p, "seed", 1, chain))
	}
}

func TestFound(t *testing.T) { // P7.7
	for _, p := range rightShapes() {
		sig := anyText(p.N*Count(p), 9)
		for _, d := range texts() {
			says(t, "Found", Found(p, "room", 3, sig, d), knownFound(t, p, "room", 3, sig, d))
		}
	}
	p := api.Shape{N: 5, H: 2}
	sig := anyText(5*13, 10)
	for _, room := range rooms() {
		for _, leaf := range leaves() {
			says(t, "Found", Found(p, room, leaf, sig, "hello"), knownFound(t, p, room, leaf, sig, "hello"))
		}
	}
}

func TestFoundOfOtherLengths(t *testing.T) { // P7.7
	for _, p := range rightShapes() {
		sig := Sign(p, "seed", "room", 3, "hello")
		for _, other := range []string{"", sig[:1], sig[:p.N], sig[:len(sig)-p.N], sig[:len(sig)-1], sig[1:], sig + "\x00", sig + sig[:p.N], sig + sig, anyText(p.N*Count(p)-1, 1), anyText(p.N*Count(p)+1, 1)} {
			for _, d := range texts() {
				says(t, "Found of another length", Found(p, "room", 3, other, d), "")
			}
		}
	}
}

func TestNothingOfWrongShapes(t *testing.T) { // P7.4, P7.5, P7.6, P7.7
	for _, p := range wrongShapes() {
		says(t, "Run", Run(p, "room", [2]int{1, 2}, 0, 15, "v"), "")
		says(t, "Run without steps", Run(p, "room", [2]int{1, 2}, 5, 5, "v"), "")
		says(t, "Leaf", Leaf(p, "seed", "room", 1), "")
		says(t, "Sign", Sign(p, "seed", "room", 1, "hello"), "")
		for _, n := range []int{0, 1, 5, 69, 7 * 2, 35 * 16, 67 * 32, 69 * 33} {
			says(t, "Found", Found(p, "room", 1, anyText(n, 1), "hello"), "")
		}
	}
}

// The height says nothing of a chain.
func TestHeightsAreAllTheSame(t *testing.T) { // P7.4, P7.5, P7.6, P7.7
	low := api.Shape{N: 7}
	sig := Sign(low, "seed", "room", 9, "hello")
	for h := 1; h <= 8; h++ {
		p := api.Shape{N: 7, H: h}
		says(t, "Run", Run(p, "room", [2]int{1, 2}, 0, 15, "v"), Run(low, "room", [2]int{1, 2}, 0, 15, "v"))
		says(t, "Leaf", Leaf(p, "seed", "room", 9), Leaf(low, "seed", "room", 9))
		says(t, "Sign", Sign(p, "seed", "room", 9, "hello"), sig)
		says(t, "Found", Found(p, "room", 9, sig, "hello"), Found(low, "room", 9, sig, "hello"))
	}
}

func TestWhatIsFoundIsTheLeaf(t *testing.T) { // P7.8
	for _, p := range rightShapes() {
		for i, d := range texts() {
			leaf, room := leaves()[i%len(leaves())], rooms()[i%len(rooms())]
			sig := Sign(p, "seed", room, leaf, d)
			says(t, "Found", Found(p, room, leaf, sig, d), Leaf(p, "seed", room, leaf))
		}
	}
}

// Bytes of a text behind the first N are not signed.
func TestFoundOfTheSameFirstBytes(t *testing.T) { // P7.6, P7.8
	p := api.Shape{N: 4}
	want := Leaf(p, "seed", "room", 1)
	for _, c := range [][2]string{{"abcd", "abcdefg"}, {"abcdxyz", "abcd"}, {"ab", "ab\x00\x00"}, {"ab\x00\x00zz", "ab"}, {"", zeros(9)}} {
		says(t, "Sign", Sign(p, "seed", "room", 1, c[0]), Sign(p, "seed", "room", 1, c[1]))
		says(t, "Found", Found(p, "room", 1, Sign(p, "seed", "room", 1, c[0]), c[1]), want)
	}
}

// Whatever is altered, something else is found.
func TestWhatIsFoundOfOthers(t *testing.T) { // P7.7, P7.8
	p, d := api.Shape{N: 16}, anyText(16, 11)
	sig, leaf := Sign(p, "seed", "room", 3, d), Leaf(p, "seed", "room", 3)
	for bit := range 8 * 16 {
		if Found(p, "room", 3, sig, turned(d, bit)) == leaf {
			t.Errorf("the leaf is found with the bit %d of the text turned", bit)
		}
	}
	for bit := 0; bit < 8*len(sig); bit += 13 {
		if Found(p, "room", 3, turned(sig, bit), d) == leaf {
			t.Errorf("the leaf is found with the bit %d of the signature turned", bit)
		}
	}
	for i, other := range []string{
		Found(p, "roon", 3, sig, d), Found(p, "room", 4, sig, d), Found(p, "room", 2, sig, d), Found(p, "room", 3, sig[16:]+sig[:16], d),
		Leaf(p, "seeds", "room", 3), Leaf(p, "seed", "rooms", 3), Leaf(p, "seed", "room", 4), Leaf(p, "", "seedroom", 3),
	} {
		if other == leaf {
			t.Errorf("the other leaf %d is the same", i)
		}
	}
}

func TestRunsGoOn(t *testing.T) { // P7.9
	for _, p := range rightShapes() {
		for from := -1; from <= 16; from++ {
			for over := from; over <= 16; over++ {
				for to := over; to <= 16; to++ {
					v, spot := anyText(p.N, byte(to)), [2]int{over, 3}
					so := Run(p, "room", spot, from, over, v)
					says(t, "a run that goes on", Run(p, "room", spot, over, to, so), Run(p, "room", spot, from, to, v))
				}
			}
		}
	}
}

// asGreat is whether each digit of the first list is at least as great as that of the second.
func asGreat(a, b []int) bool {
	for i := range b {
		if a[i] < b[i] {
			return false
		}
	}
	return true
}

// raised is d with each digit that is less than 15 made one greater, one after the other.
func raised(d string) []string {
	out := []string{}
	for i := range d {
		for _, one := range []byte{1, 16} {
			if b := d[i]; b/one%16 < 15 {
				out = append(out, d[:i]+string([]byte{b + one})+d[i+1:])
			}
		}
	}
	return out
}

func TestNoOtherDigitsAreAsGreat(t *testing.T) { // P7.10
	for n := 2; n <= 32; n++ {
		p := api.Shape{N: n}
		for i := range 20 {
			d := anyText(n, byte(20+i))
			others := append(raised(d), anyText(n, byte(60+i)), zeros(n), strings.Repeat("\xff", n), strings.Repeat("\xff", n-1)+"\xfe")
			for _, other := range others {
				if other == d {
					continue
				}
				if asGreat(Digits(p, other), Digits(p, d)) || asGreat(Digits(p, d), Digits(p, other)) {
					t.Errorf("%v: all digits of %x are as great as those of %x, or the other way", p, other, d)
				}
			}
		}
	}
}

// All texts of two bytes with rising sums of digits: only the last three digits could be as great, and are not.
func TestNoOtherDigitsAreAsGreatWhateverTheyMake(t *testing.T) { // P7.10
	for n := 2; n <= 32; n++ {
		p := api.Shape{N: n}
		all := [][]int{}
		d := make([]byte, n)
		for i := range 2 * n {
			for range 15 {
				all = append(all, Digits(p, string(d))[2*n:])
				d[i/2] += []byte{1, 16}[i%2]
			}
		}
		all = append(all, Digits(p, string(d))[2*n:])
		if len(all) != 30*n+1 {
			t.Fatalf("%d sums of digits, want %d", len(all), 30*n+1)
		}
		for i, less := range all {
			for _, more := range all[i+1:] {
				if asGreat(more, less) {
					t.Errorf("%v: the rest of greater digits is %v, as great as %v", p, more, less)
				}
			}
		}
	}
}

// Who has a signature and runs its chains on has none of another text.
func TestSignaturesThatAreRunOn(t *testing.T) { // P7.8, P7.10
	p := api.Shape{N: 16}
	d := anyText(16, 12)
	sig, leaf := Sign(p, "seed", "room", 3, d), Leaf(p, "seed", "room", 3)
	was := Digits(p, d)
	for _, other := range append(raised(d), anyText(16, 13)) {
		forged := ""
		for chain, digit := range Digits(p, other) {
			forged += Run(p, "room", [2]int{3, chain}, was[chain], digit, sig[16*chain:][:16])
		}
		if Found(p, "room", 3, forged, other) == leaf {
			t.Errorf("a signature of %x run on is one of %x", d, other)
		}
	}
}
