package frame

import (
	"bytes"
	"crypto/hkdf"
	"crypto/sha256"
	"encoding/binary"
	"encoding/hex"
	"fmt"
	"math"
	"math/bits"
	"math/rand/v2"
	"strings"
	"testing"
	"time"

	"murmur/api"
)

// anyText is n bytes that follow no simple rule, the same ones for the same seed.
func anyText(n int, seed byte) string {
	out := make([]byte, n)
	rand.NewChaCha8([32]byte{seed}).Read(out)
	return string(out)
}

// turned is s with one bit turned.
func turned(s string, bit int) string {
	out := []byte(s)
	out[bit/8] ^= 1 << (bit % 8)
	return string(out)
}

// altered is s with another byte at a place.
func altered(s string, at int, b byte) string {
	return s[:at] + string([]byte{b}) + s[at+1:]
}

// numbers is epochs, slots and numbers of texts: ordinary ones, and those at the ends of int.
func numbers() []int {
	return []int{math.MinInt, -1 << 32, -1, 0, 1, 2, 9, 10, 100, 255, 256, 1 << 32, 1<<62 + 1, math.MaxInt}
}

// capacities is all that may be, the places past both ends, and the ends of int.
func capacities() []int {
	out := []int{math.MinInt, math.MinInt + 8, -1 << 32, 1 << 32, 1<<32 + 5, math.MaxInt - 8, math.MaxInt}
	for c := -20; c <= 300; c++ {
		out = append(out, c)
	}
	return out
}

// signatures is how many bytes a signature may have, and may not.
func signatures() []int {
	return []int{math.MinInt, -1 << 32, -1, 0, 1, 2, 18, 64, 1999, 2000, 2001, 2256, 6000, 1 << 32, 1<<32 + 5, math.MaxInt - 24, math.MaxInt}
}

// seeds is some that a slot may have.
func seeds() []string {
	return []string{"seed", "\x00\x00\x00\x00", "\x01\x00\x00\x00", "\xff\xff\xff\xff", "\x00\x00\x00\x01", "a\x00b\x80"}
}

// is holds what was answered against what is wanted.
func is[T comparable](t *testing.T, what string, got, want T) {
	t.Helper()
	if got != want {
		t.Fatalf("%s: %.200q, want %.200q", what, fmt.Sprint(got), fmt.Sprint(want))
	}
}

// The chapter, read slowly: knownX is what it says of X.

func knownLong(capacity, sig int) int {
	for c := 1; c <= 16; c++ {
		for s := 0; s <= 2000; s++ {
			if c == capacity && s == sig {
				return 1 + 4 + 3 + c + s
			}
		}
	}
	return 0
}

func knownDec(n int) string {
	return fmt.Sprint(max(0, n))
}

// knownKey is the key of a mask, by Go's own HKDF.
func knownKey(seed string) string {
	out, err := hkdf.Key(sha256.New, []byte(seed), []byte("murmur"), "\x00\x04mask", 32)
	if err != nil {
		panic(err)
	}
	return string(out)
}

// knownBlock is the block n of ChaCha20 with the nonce of bytes 0, as RFC 8439 has it.
func knownBlock(key string, n uint32) []byte {
	text := []byte("expand 32-byte k" + key + strings.Repeat("\x00", 16))
	binary.LittleEndian.PutUint32(text[48:], n)
	var begin [16]uint32
	for i := range begin {
		begin[i] = binary.LittleEndian.Uint32(text[4*i:])
	}
	x := begin
	quarter := func(a, b, c, d int) {
		for _, spin := range [][2]int{{16, 12}, {8, 7}} {
			x[a] += x[b]
			x[d] = bits.RotateLeft32(x[d]^x[a], spin[0])
			x[c] += x[d]
			x[b] = bits.RotateLeft32(x[b]^x[c], spin[1])
		}
	}
	for range 10 {
		quarter(0, 4, 8, 12)
		quarter(1, 5, 9, 13)
		quarter(2, 6, 10, 14)
		quarter(3, 7, 11, 15)
		quarter(0, 5, 10, 15)
		quarter(1, 6, 11, 12)
		quarter(2, 7, 8, 13)
		quarter(3, 4, 9, 14)
	}
	out := []byte{}
	for i := range x {
		out = binary.LittleEndian.AppendUint32(out, x[i]+begin[i])
	}
	return out
}

// knownMask is s, masked by a seed.
func knownMask(seed, s string) string {
	key, out, block := knownKey(seed), []byte(s), []byte{}
	for i := range out {
		if i%64 == 0 {
			block = knownBlock(key, uint32(i/64))
		}
		out[i] ^= block[i%64]
	}
	return string(out)
}

// filled is s with bytes 0 behind it, up to n.
func filled(s string, n int) string {
	return s + strings.Repeat("\x00", n-len(s))
}

func knownLay(x api.Said, capacity, sig int, seed string) (string, api.Errno) {
	if knownLong(capacity, sig) == 0 || len(seed) != 4 || x.Next < 0 || x.Next > 16 || x.Seq < 0 || x.Seq > 255 {
		return "", api.ErrArg
	}
	if len(x.Text) > capacity || len(x.Sig) > sig {
		return "", api.ErrLong
	}
	head := string([]byte{byte(x.Next), byte(len(x.Text)), byte(x.Seq)})
	return "\x01" + seed + knownMask(seed, head+filled(x.Text, capacity)+filled(x.Sig, sig)), api.OK
}

func knownRead(s string, capacity, sig int) (api.Said, api.Errno) {
	none := api.Said{}
	if knownLong(capacity, sig) == 0 {
		return none, api.ErrArg
	}
	if len(s) != 8+capacity+sig || s[0] != 1 {
		return none, api.ErrForm
	}
	open := knownMask(s[1:5], s[5:])
	next, long, seq := int(open[0]), int(open[1]), int(open[2])
	if next > 16 || long > capacity {
		return none, api.ErrForm
	}
	for i := long; i < capacity; i++ {
		if open[3+i] != 0 {
			return none, api.ErrForm
		}
	}
	signed := open[3+capacity:]
	if long > 0 {
		return api.Said{Next: next, Seq: seq, Text: open[3 : 3+long], Sig: signed}, api.OK
	}
	if seq != 0 || signed != strings.Repeat("\x00", sig) {
		return none, api.ErrForm
	}
	return api.Said{Next: next}, api.OK
}

func knownBit(s string, at int) int {
	return int(s[at/8]>>(at%8)) & 1
}

func knownTurned(laid, out string) int {
	for at := range 8 * min(len(laid), len(out)) {
		if knownBit(laid, at) == 0 && knownBit(out, at) == 1 {
			return at
		}
	}
	return -1
}

// asksLay is Lay, held against the chapter, twice.
func asksLay(t *testing.T, x api.Said, capacity, sig int, seed string) (string, api.Errno) {
	t.Helper()
	what := fmt.Sprintf("Lay %v %d %d %q", x, capacity, sig, seed)
	want, wanted := knownLay(x, capacity, sig, seed)
	for range 2 {
		got, err := Lay(x, capacity, sig, seed)
		is(t, what+": the error", err, wanted)
		is(t, what, got, want)
	}
	return want, wanted
}

// asksRead is Read, held against the chapter, twice.
func asksRead(t *testing.T, s string, capacity, sig int) (api.Said, api.Errno) {
	t.Helper()
	what := fmt.Sprintf("Read %.40q (%d) %d %d", s, len(s), capacity, sig)
	want, wanted := knownRead(s, capacity, sig)
	for range 2 {
		got, err := Read(s, capacity, sig)
		is(t, what+": the error", err, wanted)
		is(t, what, got, want)
	}
	return want, wanted
}

// asksTurned is Turned, held against the chapter.
func asksTurned(t *testing.T, laid, out string) int {
	t.Helper()
	want := knownTurned(laid, out)
	is(t, fmt.Sprintf("Turned %.40x %.40x", laid, out), Turned(laid, out), want)
	return want
}

// slot is bytes of a slot that has this behind its seed, masked.
func slot(seed, open string) string {
	return "\x01" + seed + knownMask(seed, open)
}

func TestLong(t *testing.T) { // P18.1
	is(t, "the example", Long(5, 18), 31)
	is(t, "the least", Long(1, 0), 9)
	is(t, "the most", Long(16, 2000), 2024)
	for _, c := range capacities() {
		for _, s := range signatures() {
			is(t, fmt.Sprint("Long ", c, s), Long(c, s), knownLong(c, s))
		}
	}
	for s := -300; s <= 2300; s++ {
		want := 24 + s
		if s < 0 || s > 2000 {
			want = 0
		}
		is(t, fmt.Sprint("Long 16 ", s), Long(16, s), want)
	}
}

func TestTold(t *testing.T) { // P18.2
	is(t, "Told", Told(1, 2, 3, "hi"), "say 1 2 3 hi")
	is(t, "Told of nothing", Told(0, 0, 0, ""), "say 0 0 0 ")
	is(t, "Told of blanks", Told(10, 0, 255, " a  b "), "say 10 0 255  a  b ")
	is(t, "Told of any bytes", Told(0, 5, 1, "\x00\xff\n"), "say 0 5 1 \x00\xff\n")
	is(t, "Told of numbers below 0", Told(-1, math.MinInt, -7, "x"), "say 0 0 0 x")
	for _, e := range numbers() {
		for _, s := range numbers() {
			for _, q := range numbers() {
				for _, text := range []string{"", "hi", "4 hi", anyText(300, 1)} {
					want := "say " + knownDec(e) + " " + knownDec(s) + " " + knownDec(q) + " " + text
					is(t, fmt.Sprint("Told ", e, s, q), Told(e, s, q, text), want)
				}
			}
		}
	}
}

// What was reckoned once with another language stands here as bytes.
func TestLayAsBytes(t *testing.T) { // P18.3
	s, err := Lay(api.Said{Next: 3, Seq: 1, Text: "hi", Sig: "ab"}, 5, 2, "seed")
	is(t, "the error", err, api.OK)
	is(t, "Lay", hex.EncodeToString([]byte(s)), "0173656564d6d3b9995d0b85106cbe")
	s, err = Lay(api.Said{}, 5, 18, "\x00\x00\x00\x00")
	is(t, "the error", err, api.OK)
	is(t, "Lay of nothing", hex.EncodeToString([]byte(s)), "010000000020619b2d5034da6366cbeb3a2c761395586546f9e7fa48399524")
	sig := make([]byte, 2000)
	for i := range sig {
		sig[i] = byte(i)
	}
	s, err = Lay(api.Said{Next: 16, Seq: 255, Text: "sixteen bytes in", Sig: string(sig)}, 16, 2000, "\xff\x00\x80\x01")
	is(t, "the error", err, api.OK)
	sum := sha256.Sum256([]byte(s))
	is(t, "the digest of the longest one", hex.EncodeToString(sum[:]), "a737b6d8c624185402a6422adb849d4f033916a9491000c6538c76293502a82c")
}

func TestLay(t *testing.T) { // P18.3
	for _, c := range []int{1, 2, 5, 15, 16} {
		for _, sig := range []int{0, 1, 18, 55, 56, 57, 500, 1999, 2000} {
			for _, seed := range seeds()[:3] {
				for _, n := range []int{0, 1, c - 1, c} {
					for _, m := range []int{0, 1, sig - 1, sig} {
						x := api.Said{Next: (c + n) % 17, Seq: (sig * n) % 256, Text: anyText(n, 1), Sig: anyText(min(max(0, m), sig), 2)}
						s, err := asksLay(t, x, c, sig, seed)
						is(t, "the error", err, api.OK)
						is(t, "bytes", len(s), Long(c, sig))
					}
				}
			}
		}
	}
}

// Each number that may be, and those past the ends.
func TestLayNumbers(t *testing.T) { // P18.3
	all := numbers()
	for n := -3; n <= 530; n++ {
		all = append(all, n)
	}
	for _, n := range all {
		_, err := asksLay(t, api.Said{Next: n, Text: "a", Sig: "b"}, 5, 2, "seed")
		is(t, fmt.Sprint("the error of Next ", n), err == api.OK, n >= 0 && n <= 16)
		_, err = asksLay(t, api.Said{Seq: n, Text: "a", Sig: "b"}, 5, 2, "seed")
		is(t, fmt.Sprint("the error of Seq ", n), err == api.OK, n >= 0 && n <= 255)
		asksLay(t, api.Said{Seq: n}, 5, 2, "seed")
	}
}

func TestLayOfWrongThings(t *testing.T) { // P18.3, R1, R2
	x := api.Said{Next: 3, Seq: 1, Text: "hi", Sig: "ab"}
	for _, c := range capacities() {
		for _, sig := range signatures() {
			_, err := asksLay(t, x, c, sig, "seed")
			want := api.ErrLong
			if c < 1 || c > 16 || sig < 0 || sig > 2000 {
				want = api.ErrArg
			} else if c >= 2 && sig >= 2 {
				want = api.OK
			}
			is(t, fmt.Sprint("the error of ", c, sig), err, want)
		}
	}
	for _, seed := range []string{"", "s", "see", "seed ", "seedseed", anyText(256+4, 1), anyText(7000, 2)} {
		_, err := asksLay(t, x, 5, 2, seed)
		is(t, "the error of a seed", err, api.ErrArg)
	}
	for _, c := range []struct {
		text, sig string
		want      api.Errno
	}{
		{"fives", "ab", api.OK}, {"sixsix", "ab", api.ErrLong}, {"fives", "abc", api.ErrLong}, {"", "abc", api.ErrLong}, {"sixsix", "", api.ErrLong},
		{anyText(256, 1), "", api.ErrLong}, {anyText(257, 1), "", api.ErrLong}, {"", anyText(2001, 1), api.ErrLong}, {anyText(7000, 1), anyText(7000, 2), api.ErrLong}, {"fives\x00", "", api.ErrLong}, {"", "ab\x00", api.ErrLong},
	} {
		_, err := asksLay(t, api.Said{Text: c.text, Sig: c.sig}, 5, 2, "seed")
		is(t, fmt.Sprintf("the error of %.9q %.9q", c.text, c.sig), err, c.want)
	}
}

// What may not be comes ahead of what is too long.
func TestLayOrderOfErrors(t *testing.T) { // P18.3, R2
	long := api.Said{Text: anyText(20, 1), Sig: anyText(20, 2)}
	next, seq := long, long
	next.Next, seq.Seq = 17, 256
	for _, c := range []struct {
		x        api.Said
		cap, sig int
		seed     string
		want     api.Errno
	}{
		{long, 5, 2, "seed", api.ErrLong}, {long, 0, 2, "seed", api.ErrArg}, {long, 17, 2, "seed", api.ErrArg}, {long, 5, -1, "seed", api.ErrArg}, {long, 5, 2001, "seed", api.ErrArg},
		{long, 5, 2, "see", api.ErrArg}, {next, 5, 2, "seed", api.ErrArg}, {seq, 5, 2, "seed", api.ErrArg},
	} {
		_, err := asksLay(t, c.x, c.cap, c.sig, c.seed)
		is(t, "the error", err, c.want)
	}
}

// A slot's bytes hang on the seed, and on each thing that it says.
func TestLaidIsUnlike(t *testing.T) { // P18.3
	met := map[string]bool{}
	x := api.Said{Next: 3, Seq: 1, Text: "hi", Sig: "ab"}
	for bit := range 32 {
		s, _ := Lay(x, 5, 2, turned("seed", bit))
		met[s[5:]] = true
	}
	for _, alter := range []func(y *api.Said){
		func(y *api.Said) {}, func(y *api.Said) { y.Next = 4 }, func(y *api.Said) { y.Seq = 2 }, func(y *api.Said) { y.Sig = "ac" },
		func(y *api.Said) { y.Text = "ho" }, func(y *api.Said) { y.Text = "hi!" }, func(y *api.Said) { y.Text = "hi\x00" },
	} {
		y := x
		alter(&y)
		s, _ := Lay(y, 5, 2, "seed")
		met[s[5:]] = true
	}
	is(t, "slots that differ", len(met), 32+7)
	// By the same seed two slots differ just where they say something else.
	one, _ := Lay(x, 5, 2, "seed")
	other, _ := Lay(api.Said{Next: 3, Seq: 1, Text: "ho", Sig: "ab"}, 5, 2, "seed")
	is(t, "the place where they differ", one, altered(other, 9, other[9]^'i'^'o'))
}

func TestLaidIsRead(t *testing.T) { // P18.6, P18.4
	for _, c := range []int{1, 2, 5, 15, 16} {
		for _, sig := range []int{0, 1, 18, 500, 2000} {
			for _, seed := range seeds() {
				for n := range c + 1 {
					x := api.Said{Next: (3*n + c) % 17, Seq: 255 - 11*n, Text: anyText(n, 1), Sig: anyText(sig, byte(n))}
					if n == 0 {
						x.Seq, x.Sig = 0, ""
					}
					s, err := Lay(x, c, sig, seed)
					is(t, "the error of Lay", err, api.OK)
					got, err := asksRead(t, s, c, sig)
					is(t, "the error of Read", err, api.OK)
					is(t, "what is read", got, x)
				}
			}
		}
	}
}

// A signature that is shorter is filled up; texts and signatures may have bytes 0 anywhere.
func TestLaidWithBytesNought(t *testing.T) { // P18.6, P18.4
	for _, c := range []struct{ laid, read api.Said }{
		{api.Said{Text: "hi", Sig: "a"}, api.Said{Text: "hi", Sig: "a\x00\x00"}}, {api.Said{Text: "hi"}, api.Said{Text: "hi", Sig: "\x00\x00\x00"}},
		{api.Said{Text: "\x00", Sig: "\x00\x00\x00"}, api.Said{Text: "\x00", Sig: "\x00\x00\x00"}}, {api.Said{Text: "h\x00\x00", Sig: "\x00a\x00"}, api.Said{Text: "h\x00\x00", Sig: "\x00a\x00"}},
		{api.Said{Next: 16}, api.Said{Next: 16}}, {api.Said{Next: 1, Sig: "\x00\x00"}, api.Said{Next: 1}}, {api.Said{}, api.Said{}},
	} {
		s, err := Lay(c.laid, 4, 3, "seed")
		is(t, "the error of Lay", err, api.OK)
		got, err := asksRead(t, s, 4, 3)
		is(t, "the error of Read", err, api.OK)
		is(t, "what is read", got, c.read)
	}
	// What says nothing, and has a number or a signature, is laid, and not read.
	for _, x := range []api.Said{{Seq: 1}, {Seq: 255, Next: 3}, {Sig: "a"}, {Sig: "\x00\x00a"}, {Seq: 1, Sig: "abc"}} {
		s, err := asksLay(t, x, 4, 3, "seed")
		is(t, "the error of Lay", err, api.OK)
		_, err = asksRead(t, s, 4, 3)
		is(t, "the error of Read", err, api.ErrForm)
	}
}

// Each byte of each place, masked or not.
func TestReadEachByte(t *testing.T) { // P18.4
	for _, open := range []string{"\x03\x02\x01hi\x00\x00\x00ab", "\x00\x00\x00\x00\x00\x00\x00\x00\x00\x00", "\x10\x05\xfffivesab", "\x10\x00\x00\x00\x00\x00\x00\x00\x00\x00"} {
		whole := slot("seed", open)
		_, err := asksRead(t, whole, 5, 2)
		is(t, "the error", err, api.OK)
		for at := range len(open) {
			for b := range 256 {
				asksRead(t, slot("seed", altered(open, at, byte(b))), 5, 2)
			}
		}
		for at := range len(whole) {
			for b := range 256 {
				asksRead(t, altered(whole, at, byte(b)), 5, 2)
			}
		}
		for b := range 256 {
			_, err := asksRead(t, altered(whole, 0, byte(b)), 5, 2)
			is(t, fmt.Sprint("the error of a first byte ", b), err == api.OK, b == 1)
		}
	}
}

// What may stand in a slot, and what may not.
func TestReadEdges(t *testing.T) { // P18.4
	for _, c := range []struct {
		open string
		want api.Said
		err  api.Errno
	}{
		{"\x10\x01\x00a\x00\x00bc", api.Said{Next: 16, Text: "a", Sig: "bc"}, api.OK}, {"\x11\x01\x00a\x00\x00bc", api.Said{}, api.ErrForm}, {"\xff\x01\x00a\x00\x00bc", api.Said{}, api.ErrForm},
		{"\x11\x00\x00\x00\x00\x00\x00\x00", api.Said{}, api.ErrForm}, {"\x10\x00\x00\x00\x00\x00\x00\x00", api.Said{Next: 16}, api.OK},
		{"\x00\x03\xffabcde", api.Said{Seq: 255, Text: "abc", Sig: "de"}, api.OK}, {"\x00\x04\xffabcde", api.Said{}, api.ErrForm}, {"\x00\x05\xffabcde", api.Said{}, api.ErrForm}, {"\x00\xff\xffabcde", api.Said{}, api.ErrForm},
		{"\x00\x02\x01abcde", api.Said{}, api.ErrForm}, {"\x00\x02\x01ab\x00de", api.Said{Seq: 1, Text: "ab", Sig: "de"}, api.OK}, {"\x00\x01\x01a\x00cde", api.Said{}, api.ErrForm}, {"\x00\x01\x01ab\x00de", api.Said{}, api.ErrForm},
		{"\x00\x02\x01\x00\x00\x00\x00\x00", api.Said{Seq: 1, Text: "\x00\x00", Sig: "\x00\x00"}, api.OK},
		{"\x00\x00\x01\x00\x00\x00\x00\x00", api.Said{}, api.ErrForm}, {"\x00\x00\x00a\x00\x00\x00\x00", api.Said{}, api.ErrForm}, {"\x00\x00\x00\x00\x00a\x00\x00", api.Said{}, api.ErrForm},
		{"\x00\x00\x00\x00\x00\x00a\x00", api.Said{}, api.ErrForm}, {"\x00\x00\x00\x00\x00\x00\x00a", api.Said{}, api.ErrForm}, {"\x00\x00\x00\x00\x00\x00\x00\x00", api.Said{}, api.OK},
	} {
		for _, seed := range seeds() {
			got, err := Read(slot(seed, c.open), 3, 2)
			is(t, fmt.Sprintf("the error of %q", c.open), err, c.err)
			is(t, fmt.Sprintf("Read of %q", c.open), got, c.want)
			asksRead(t, slot(seed, c.open), 3, 2)
		}
	}
}

func TestReadOfWrongThings(t *testing.T) { // P18.4, R1, R2
	whole, _ := Lay(api.Said{Next: 3, Seq: 1, Text: "hi", Sig: "ab"}, 5, 2, "seed")
	for _, c := range capacities() {
		for _, sig := range signatures() {
			_, err := asksRead(t, whole, c, sig)
			if knownLong(c, sig) == 0 {
				is(t, fmt.Sprint("the error of ", c, sig), err, api.ErrArg)
			}
			asksRead(t, "", c, sig)
			asksRead(t, strings.Repeat("\x01", max(0, knownLong(c, sig))), c, sig)
		}
	}
	for n := range len(whole) {
		_, err := asksRead(t, whole[:n], 5, 2)
		is(t, "the error of what ends too soon", err, api.ErrForm)
	}
	for _, more := range []string{"\x00", "x", whole, anyText(7000, 1), strings.Repeat("\x00", 1<<24)} {
		_, err := asksRead(t, whole+more, 5, 2)
		is(t, "the error of more", err, api.ErrForm)
	}
	for _, s := range []string{strings.Repeat("\x00", 15), strings.Repeat("\xff", 15), "\x00" + whole[1:], "\x02" + whole[1:], "\x81" + whole[1:]} {
		_, err := asksRead(t, s, 5, 2)
		is(t, "the error of other bytes", err, api.ErrForm)
	}
}

// Whatever is read of any bytes, it is laid again as just these.
func TestAnyBytes(t *testing.T) { // P18.4, P18.6
	src := rand.New(rand.NewPCG(1, 2))
	read := 0
	for range 30000 {
		c, sig := 1+src.IntN(16), src.IntN(5)
		open := make([]byte, 3+c+sig)
		open[0], open[1], open[2] = byte(src.IntN(18)), byte(src.IntN(c+2)), byte(src.IntN(3))
		for i := range open[3:] {
			if i < int(open[1]) || i >= c && src.IntN(2) == 0 {
				open[3+i] = byte(src.IntN(256))
			}
		}
		seed := anyText(4, byte(src.IntN(256)))
		s := slot(seed, string(open))
		x, err := asksRead(t, s, c, sig)
		if err == api.OK {
			read++
			again, err := Lay(x, c, sig, seed)
			is(t, "the error of Lay", err, api.OK)
			is(t, "what is laid again", again, s)
		}
	}
	if read < 5000 || read > 29000 {
		t.Errorf("%d were read", read)
	}
	for range 20000 {
		c, sig := src.IntN(18), src.IntN(5)
		s := make([]byte, max(0, 8+c+sig+src.IntN(4)-1))
		for i := range s {
			s[i] = byte(src.IntN(256))
		}
		s[0] &= 1
		asksRead(t, string(s), c, sig)
	}
}

func TestTurned(t *testing.T) { // P18.5
	for _, c := range []struct {
		laid, out string
		want      int
	}{
		{"", "", -1}, {"", "\xff", -1}, {"\x00", "", -1}, {"\x00", "\x00", -1}, {"\xff", "\xff", -1}, {"\xff", "\x00", -1},
		{"\x00", "\x01", 0}, {"\x00", "\x80", 7}, {"\x00", "\xff", 0}, {"\x00\x01", "\x00\x09", 11}, {"\x00\x00", "\x80\x01", 7}, {"\x01\x00", "\x00\x01", 8}, {"\xaa", "\x55", 0}, {"\x55", "\xaa", 1},
		{"\x0f", "\xf0", 4}, {"\xfe", "\x7f", 0}, {"\x00\x00\x00", "\x00\x00", -1}, {"\x00\x00", "\x00\x00\x01", -1}, {"\x00\x00\x00", "\x00\x04", 10}, {"\x00\x00", "\x00\x40\xff", 14},
	} {
		is(t, fmt.Sprintf("Turned %x %x", c.laid, c.out), Turned(c.laid, c.out), c.want)
		asksTurned(t, c.laid, c.out)
	}
	for a := range 256 {
		for b := range 256 {
			asksTurned(t, string([]byte{byte(a)}), string([]byte{byte(b)}))
			asksTurned(t, string([]byte{7, byte(a), 0}), string([]byte{5, byte(b), 1}))
		}
	}
}

// Of a slot that was laid each bit that is turned is told, unless it was a 1.
func TestTurnedBits(t *testing.T) { // P18.7, P18.5
	laid, _ := Lay(api.Said{Next: 3, Seq: 1, Text: "hi", Sig: anyText(30, 1)}, 5, 30, "seed")
	for at := range 8 * len(laid) {
		want := at
		if knownBit(laid, at) == 1 {
			want = -1
		}
		is(t, fmt.Sprint("Turned of the bit ", at), asksTurned(t, laid, turned(laid, at)), want)
	}
	src := rand.New(rand.NewPCG(5, 6))
	for range 5000 {
		out, told := laid, false
		for range src.IntN(5) {
			at := src.IntN(8 * len(laid))
			out = turned(out, at)
		}
		for at := range 8 * len(laid) {
			told = told || knownBit(laid, at) < knownBit(out, at)
		}
		at := asksTurned(t, laid, out)
		is(t, "whether a bit is told", at >= 0, told)
		asksTurned(t, laid[:src.IntN(len(laid))], out)
		asksTurned(t, laid, out[:src.IntN(len(laid))])
	}
}

// Long texts are gone through, and the last of their bits is found.
func TestLongThings(t *testing.T) { // R1
	begin := time.Now()
	const n = 1 << 26
	laid := bytes.Repeat([]byte{0x5a}, n)
	out := bytes.Clone(laid)
	is(t, "Turned of the same", Turned(string(laid), string(out)), -1)
	out[n-1] ^= 0x80
	is(t, "Turned of the last bit", Turned(string(laid), string(out)), 8*n-1)
	is(t, "Turned of noughts", Turned(strings.Repeat("\xff", n), string(make([]byte, n))), -1)
	is(t, "Told", len(Told(1, 2, 3, string(laid))), n+10)
	_, err := Lay(api.Said{Text: string(laid), Sig: string(laid)}, 5, 2, "seed")
	is(t, "the error of Lay", err, api.ErrLong)
	_, err = Lay(api.Said{Text: string(laid)}, 5, 2, string(laid))
	is(t, "the error of Lay", err, api.ErrArg)
	_, err = Read(string(laid), 5, 2)
	is(t, "the error of Read", err, api.ErrForm)
	if took := time.Since(begin); took > time.Minute {
		t.Errorf("long things took %v", took)
	}
}
