package ladder

import (
	"crypto/ecdh"
	"encoding/hex"
	"math"
	"math/big"
	"math/rand/v2"
	"slices"
	"strings"
	"testing"

	"murmur/api"
	"murmur/limbs"
)

// top is the greatest limb that there may be.
const top = math.MaxUint64

// modulus is P.
func modulus() *big.Int {
	return power(255, -19)
}

// power is 2 to the power of n, and more.
func power(n uint, more int64) *big.Int {
	out := new(big.Int).Lsh(big.NewInt(1), n)
	return out.Add(out, big.NewInt(more))
}

// bytesOf is the number, below 2^256, in 32 bytes, the lowest first.
func bytesOf(n *big.Int) string {
	b := n.FillBytes(make([]byte, 32))
	slices.Reverse(b)
	return string(b)
}

// bigOf is the number of the bytes, the lowest first.
func bigOf(s string) *big.Int {
	b := []byte(s)
	slices.Reverse(b)
	return new(big.Int).SetBytes(b)
}

// fromHex is the bytes that the digits say.
func fromHex(t *testing.T, digits string) string {
	t.Helper()
	b, err := hex.DecodeString(digits)
	if err != nil {
		t.Fatal(err)
	}
	return string(b)
}

// anyText is n bytes that follow no simple rule, the same ones for the same seed.
func anyText(n int, seed byte) string {
	out := make([]byte, n)
	rand.NewChaCha8([32]byte{seed}).Read(out)
	return string(out)
}

// turned is s with one bit turned.
func turned(s string, bit int) string {
	out := []byte(s)
	out[bit/8] ^= 1 << (bit % 8)
	return string(out)
}

// zeros is n bytes 0.
func zeros(n int) string {
	return strings.Repeat("\x00", n)
}

// point is one of the curve B y y = x x x + 486662 x x + x, or, without numbers, what is neutral there.
type point struct {
	x, y *big.Int
}

// mod is n modulo P, in n's own place.
func mod(n *big.Int) *big.Int {
	return n.Mod(n, modulus())
}

// times is the product of all that it is given, modulo P.
func times(l ...*big.Int) *big.Int {
	out := big.NewInt(1)
	for _, n := range l {
		mod(out.Mul(out, n))
	}
	return out
}

// side is the right side of the curve at x.
func side(x *big.Int) *big.Int {
	out := times(x, x, x)
	out.Add(out, times(big.NewInt(486662), x, x))
	return mod(out.Add(out, x))
}

// sum is p and q on the curve of b, by the line through both.
func sum(p, q point, b *big.Int) point {
	if p.x == nil {
		return q
	}
	if q.x == nil {
		return p
	}
	over, under := new(big.Int).Sub(q.y, p.y), new(big.Int).Sub(q.x, p.x)
	if p.x.Cmp(q.x) == 0 {
		if mod(new(big.Int).Add(p.y, q.y)).Sign() == 0 {
			return point{}
		}
		over.Add(times(big.NewInt(3), p.x, p.x), times(big.NewInt(2*486662), p.x))
		over.Add(over, big.NewInt(1))
		under = times(big.NewInt(2), b, p.y)
	}
	slope := times(over, new(big.Int).ModInverse(mod(under), modulus()))
	x := times(b, slope, slope)
	x.Sub(x, big.NewInt(486662)).Sub(x, p.x).Sub(x, q.x)
	mod(x)
	y := times(slope, new(big.Int).Sub(p.x, x))
	return point{x, mod(y.Sub(y, p.y))}
}

// multiple is k times the point over x, where x is not 0, reckoned on the curve itself: with the right side at x for B, the point (x, 1) is on one of its twists.
func multiple(k, x *big.Int) *big.Int {
	x = mod(new(big.Int).Set(x))
	b, out := side(x), point{}
	for i := k.BitLen() - 1; i >= 0; i-- {
		out = sum(out, out, b)
		if k.Bit(i) == 1 {
			out = sum(out, point{x, big.NewInt(1)}, b)
		}
	}
	if out.x == nil {
		return new(big.Int)
	}
	return out.x
}

// stepsOf is the number of the bits of k that are gone through.
func stepsOf(k string) *big.Int {
	out := bigOf(k)
	return out.And(out, power(255, -1))
}

// limbsOf is the limbs of a number below 2^255.
func limbsOf(n *big.Int) api.Limbs {
	return limbs.Read(bytesOf(n))
}

// asked is what Go's own X25519 answers; "" where it says that 0 came out.
func asked(t *testing.T, secret, public string) string {
	t.Helper()
	own, err := ecdh.X25519().NewPrivateKey([]byte(secret))
	if err != nil {
		t.Fatal(err)
	}
	other, err := ecdh.X25519().NewPublicKey([]byte(public))
	if err != nil {
		t.Fatal(err)
	}
	out, err := own.ECDH(other)
	if err != nil {
		return ""
	}
	return string(out)
}

// few is the numbers below P from which 0 comes out, whatever the secret: the points over them have an order of 1, 2, 4 or 8, there or on the twist.
func few(t *testing.T) []*big.Int {
	t.Helper()
	return []*big.Int{
		big.NewInt(0),
		big.NewInt(1),
		power(255, -20),
		bigOf(fromHex(t, "e0eb7a7c3b41b8ae1656e3faf19fc46ada098deb9c32b1fd866205165f49b800")),
		bigOf(fromHex(t, "5f9c95bca3508c24b1d0b1559c83ef5b04445cc4581c8e86d8224eddd09f1157")),
	}
}

// weakOnes is all 32 bytes of which the number is one of those: as they are, with P, and with the highest bit set.
func weakOnes(t *testing.T) []string {
	t.Helper()
	out := []string{}
	for _, n := range few(t) {
		for _, m := range []*big.Int{n, new(big.Int).Add(n, modulus())} {
			if m.BitLen() <= 255 {
				out = append(out, bytesOf(m), turned(bytesOf(m), 255))
			}
		}
	}
	return out
}

// publics is public ones that are not weak: at the ends, beside weak ones, and any.
func publics() []string {
	out := []string{}
	for _, n := range []*big.Int{
		big.NewInt(2), big.NewInt(3), big.NewInt(8), big.NewInt(9), big.NewInt(10), power(51, -1), power(51, 0), power(254, 0), power(255, -21), power(255, -22),
		power(255, -17), power(255, -16), power(255, -1), power(255, 2), power(256, -1), power(256, -40),
	} {
		out = append(out, bytesOf(n))
	}
	for i := range 24 {
		out = append(out, anyText(32, byte(i)))
	}
	return out
}

// secrets is secrets at the ends, and any.
func secrets() []string {
	out := []string{zeros(32), strings.Repeat("\xff", 32), strings.Repeat("\x80", 32), "\x08" + zeros(31), zeros(31) + "\x40"}
	for i := range 6 {
		out = append(out, anyText(32, byte(100+i)))
	}
	return out
}

// otherLengths is texts that have not 32 bytes.
func otherLengths() []string {
	out := []string{}
	for _, n := range []int{0, 1, 16, 31, 33, 34, 63, 64, 1000} {
		out = append(out, anyText(n, 7))
	}
	return out
}

// answers holds an answer with its error against what is wanted.
func answers(t *testing.T, what, got string, err api.Errno, want string, wantErr api.Errno) {
	t.Helper()
	if got != want || err != wantErr {
		t.Errorf("%s: %x, %d, want %x, %d", what, got, err, want, wantErr)
	}
}

func TestClamp(t *testing.T) { // P6.1
	for _, c := range []struct{ s, want string }{
		{"", zeros(31) + "\x40"},
		{"\xff", "\xf8" + zeros(30) + "\x40"},
		{"\x07", zeros(31) + "\x40"},
		{"\x08\x07", "\x08\x07" + zeros(29) + "\x40"},
		{zeros(32), zeros(31) + "\x40"},
		{strings.Repeat("\xff", 31), "\xf8" + strings.Repeat("\xff", 30) + "\x40"},
		{strings.Repeat("\xff", 32), "\xf8" + strings.Repeat("\xff", 30) + "\x7f"},
		{strings.Repeat("\xff", 33), "\xf8" + strings.Repeat("\xff", 30) + "\x7f"},
		{zeros(31) + "\xbf", zeros(31) + "\x7f"},
		{zeros(32) + "\xff\xff", zeros(31) + "\x40"},
		{zeros(31) + "\x80\xff", zeros(31) + "\x40"},
	} {
		if got := Clamp(c.s); got != c.want {
			t.Errorf("Clamp(%x): %x, want %x", c.s, got, c.want)
		}
	}
}

func TestClampOfEachLength(t *testing.T) { // P6.1
	for n := range 100 {
		s := anyText(n, byte(n))
		want := make([]byte, 32)
		copy(want, s)
		want[0] = want[0] / 8 * 8
		want[31] = want[31]%64 + 64
		if got := Clamp(s); got != string(want) {
			t.Errorf("Clamp(%x): %x, want %x", s, got, want)
		}
	}
}

func TestClampSeesEachBit(t *testing.T) { // P6.1
	for bit := range 34 * 8 {
		set := bit > 2 && bit < 254
		got := Clamp(turned(zeros(34), bit))
		want := zeros(31) + "\x40"
		if set {
			want = turned(want, bit)
		}
		if got != want {
			t.Errorf("Clamp of the bit %d: %x, want %x", bit, got, want)
		}
		got, want = Clamp(turned(strings.Repeat("\xff", 34), bit)), Clamp(strings.Repeat("\xff", 34))
		if set {
			want = turned(want, bit)
		}
		if got != want {
			t.Errorf("Clamp without the bit %d: %x, want %x", bit, got, want)
		}
	}
}

func TestLadderOfFewSteps(t *testing.T) { // P6.2
	for _, x := range []*big.Int{big.NewInt(1), big.NewInt(2), big.NewInt(9), power(255, -20), power(254, 7), bigOf(anyText(31, 1)), bigOf(anyText(31, 2))} {
		for k := range int64(70) {
			got, want := Ladder(bytesOf(big.NewInt(k)), limbsOf(x)), limbsOf(multiple(big.NewInt(k), x))
			if got != want {
				t.Errorf("Ladder(%d, %v): %x, want %x", k, x, got, want)
			}
		}
	}
}

func TestLadderOfAnyBits(t *testing.T) { // P6.2
	for i := range 12 {
		for _, x := range []*big.Int{big.NewInt(9), bigOf(anyText(31, byte(i))), power(255, -21)} {
			k := anyText(32, byte(50+i))
			if got, want := Ladder(k, limbsOf(x)), limbsOf(multiple(stepsOf(k), x)); got != want {
				t.Errorf("Ladder(%x, %v): %x, want %x", k, x, got, want)
			}
		}
	}
}

func TestLadderOfSingleBits(t *testing.T) { // P6.2
	for bit := range 255 {
		k := turned(zeros(32), bit)
		if got, want := Ladder(k, api.Limbs{9}), limbsOf(multiple(power(uint(bit), 0), big.NewInt(9))); got != want {
			t.Errorf("Ladder of the bit %d: %x, want %x", bit, got, want)
		}
	}
}

// A bit above 254 is not gone through, and one that k has not is 0.
func TestLadderGoesThrough255Bits(t *testing.T) { // P6.2
	x := api.Limbs{9, 8, 7, 6, 5}
	for _, n := range []int{0, 1, 2, 8, 31, 32, 33, 40, 200} {
		k := anyText(n, byte(n))
		if got, want := Ladder(k, x), limbsOf(multiple(stepsOf(k), bigOf(limbs.Bytes(x)))); got != want {
			t.Errorf("Ladder of %d bytes: %x, want %x", n, got, want)
		}
	}
	k := anyText(40, 3)
	for bit := 255; bit < 320; bit++ {
		if Ladder(k, x) != Ladder(turned(k, bit), x) {
			t.Errorf("Ladder goes through the bit %d", bit)
		}
	}
	if Ladder(k, x) == Ladder(turned(k, 254), x) || Ladder(k, x) == Ladder(turned(k, 0), x) {
		t.Errorf("Ladder leaves the bit 254 or 0 away")
	}
}

func TestLadderOfNought(t *testing.T) { // P6.2
	for _, k := range append(secrets(), "", "\x01", "\x02", "\x03", "\x08") {
		for _, x := range []api.Limbs{{}, limbsOf(modulus())} {
			if got := Ladder(k, x); got != (api.Limbs{}) {
				t.Errorf("Ladder(%x, %x): %x, want 0", k, x, got)
			}
		}
		if got := Ladder("", limbsOf(bigOf(anyText(31, 1)))); got != (api.Limbs{}) {
			t.Errorf("Ladder of no bits: %x, want 0", got)
		}
	}
}

// Whatever limbs x has, what comes out hangs on its worth modulo P alone, and is reduced.
func TestLadderOfLimbsThatAreNotReduced(t *testing.T) { // P6.2
	for i, x := range []api.Limbs{
		{top, top, top, top, top}, {top}, {0, 0, 0, 0, top}, {1<<51 + 8}, {0, 1 << 51, 0, 1 << 51, 0},
		limbsOf(power(255, -1)), limbsOf(power(255, -19+9)), {1 << 63, 1 << 63, 1 << 63, 1 << 63, 1 << 63},
	} {
		for _, k := range []string{"\x01", "\x02", "\x03", anyText(32, byte(i)), strings.Repeat("\xff", 32)} {
			if got, want := Ladder(k, x), limbsOf(multiple(stepsOf(k), bigOf(limbs.Bytes(x)))); got != want {
				t.Errorf("Ladder(%x, %x): %x, want %x", k, x, got, want)
			}
		}
	}
}

// Two who have each other's public ones, and what they share: RFC 7748, 6.1.
const (
	ownSecret   = "77076d0a7318a57d3c16c17251b26645df4c2f87ebc0992ab177fba51db92c2a"
	ownPublic   = "8520f0098930a754748b7ddcb43ef75a0dbf3a0d26381af4eba4a98eaa9b4e6a"
	otherSecret = "5dab087e624a8a4b79e17f8b83800ee66f3bb1292618b6fd1c2f8b27ff88e0eb"
	otherPublic = "de9edb7d7b7dc1b4d35b61c2ece435373f8343c85b78674dadfc7e146f882b4f"
	ownShared   = "4a5d9d5ba4ce2de1728e3bf480350f25e07e21c947d19e3376f09b3c1e161742"
)

func TestTimesKnownOnes(t *testing.T) { // P6.3: RFC 7748, 5.2
	for _, c := range []struct{ secret, public, want string }{
		{
			"a546e36bf0527c9d3b16154b82465edd62144c0ac1fc5a18506a2244ba449ac4",
			"e6db6867583030db3594c1a424b15f7c726624ec26b3353b10a903a6d0ab1c4c",
			"c3da55379de9c6908e94ea4df28d084f32eccf03491c71f754b4075577a28552",
		},
		{
			"4b66e9d4d1b4673c5ad22691957d6af5c11b6421e0ea01d42ca4169e7918ba0d",
			"e5210f12786811d3f4b7959d0538ae2c31dbe7106fc03c3efc4cd549c715a493",
			"95cbde9476e8907d7aade45cb4b873f88b595a68799fa152e6f8f7647aac7957",
		},
	} {
		got, err := Times(fromHex(t, c.secret), fromHex(t, c.public))
		answers(t, "Times", got, err, fromHex(t, c.want), api.OK)
	}
}

func TestTimesOverAndOver(t *testing.T) { // P6.3: RFC 7748, 5.2
	k := "\x09" + zeros(31)
	u := k
	for i := range 1000 {
		out, err := Times(k, u)
		if err != api.OK {
			t.Fatalf("Times: %d", err)
		}
		u, k = k, out
		if i == 0 {
			answers(t, "once", k, err, fromHex(t, "422c8e7a6227d7bca1350b3e2bb7279f7897b87bb6854b783c60e80311ae3079"), api.OK)
		}
	}
	answers(t, "a thousand times", k, api.OK, fromHex(t, "684cf59ba83309552800ef566f2f4d3c1c3887c49360e3875f2eb94d99532c51"), api.OK)
}

func TestTimesAsGoDoes(t *testing.T) { // P6.3
	for _, secret := range secrets() {
		for _, public := range publics() {
			got, err := Times(secret, public)
			answers(t, "Times", got, err, asked(t, secret, public), api.OK)
		}
	}
}

func TestTimesIsLadder(t *testing.T) { // P6.3
	for _, secret := range secrets() {
		for _, public := range append(publics(), weakOnes(t)...) {
			got, err := Times(secret, public)
			answers(t, "Times", got, err, limbs.Bytes(Ladder(Clamp(secret), limbs.Read(public))), api.OK)
		}
	}
}

// The highest bit of a public one is left away, and P does not count.
func TestTimesOfTheSameNumber(t *testing.T) { // P6.3
	secret := anyText(32, 9)
	for _, public := range publics() {
		want, _ := Times(secret, public)
		got, err := Times(secret, turned(public, 255))
		answers(t, "the highest bit turned", got, err, want, api.OK)
	}
	for n := range int64(19) {
		want, _ := Times(secret, bytesOf(big.NewInt(n)))
		got, err := Times(secret, bytesOf(power(255, n-19)))
		answers(t, "P and a number", got, err, want, api.OK)
	}
}

func TestTimesOfWeakOnes(t *testing.T) { // P6.3
	for _, secret := range secrets() {
		for _, public := range weakOnes(t) {
			got, err := Times(secret, public)
			answers(t, "Times of a weak one", got, err, zeros(32), api.OK)
		}
	}
}

func TestOtherLengths(t *testing.T) { // P6.3, P6.4, P6.5
	right, weak := anyText(32, 1), zeros(32)
	for _, s := range otherLengths() {
		for _, c := range [][2]string{{s, right}, {right, s}, {s, s}, {s, weak}, {s, ""}, {"", s}} {
			got, err := Times(c[0], c[1])
			answers(t, "Times", got, err, "", api.ErrArg)
			got, err = Shared(c[0], c[1])
			answers(t, "Shared", got, err, "", api.ErrArg)
		}
		got, err := Public(s)
		answers(t, "Public", got, err, "", api.ErrArg)
	}
}

func TestPublic(t *testing.T) { // P6.4
	for _, c := range [][2]string{{ownSecret, ownPublic}, {otherSecret, otherPublic}} {
		got, err := Public(fromHex(t, c[0]))
		answers(t, "Public", got, err, fromHex(t, c[1]), api.OK)
	}
	for _, secret := range append(secrets(), weakOnes(t)...) {
		got, err := Public(secret)
		answers(t, "Public as Go does", got, err, asked(t, secret, "\x09"+zeros(31)), api.OK)
		want, wantErr := Times(secret, "\x09"+zeros(31))
		answers(t, "Public as Times", got, err, want, wantErr)
	}
}

func TestShared(t *testing.T) { // P6.5
	got, err := Shared(fromHex(t, ownSecret), fromHex(t, otherPublic))
	answers(t, "Shared", got, err, fromHex(t, ownShared), api.OK)
	got, err = Shared(fromHex(t, otherSecret), fromHex(t, ownPublic))
	answers(t, "Shared", got, err, fromHex(t, ownShared), api.OK)
	for _, secret := range secrets() {
		for _, public := range publics() {
			got, err := Shared(secret, public)
			answers(t, "Shared as Go does", got, err, asked(t, secret, public), api.OK)
		}
	}
}

func TestWeak(t *testing.T) { // P6.6
	for _, public := range append(weakOnes(t), otherLengths()...) {
		if !Weak(public) {
			t.Errorf("Weak(%x): false", public)
		}
	}
	for _, public := range publics() {
		if Weak(public) {
			t.Errorf("Weak(%x): true", public)
		}
	}
}

// All numbers at both ends, and all that differ from a weak one in one bit.
func TestWeakBesideWeakOnes(t *testing.T) { // P6.6
	weak := map[string]int{}
	for _, public := range weakOnes(t) {
		weak[public]++
	}
	tries := []string{}
	for n := range int64(40) {
		tries = append(tries, bytesOf(big.NewInt(n)), bytesOf(power(255, n-40)), bytesOf(power(255, n)), bytesOf(power(256, n-40)))
	}
	for _, n := range few(t) {
		for bit := range 256 {
			tries = append(tries, turned(bytesOf(n), bit))
		}
	}
	for _, public := range tries {
		if got, want := Weak(public), weak[public] > 0; got != want {
			t.Errorf("Weak(%x): %v, want %v", public, got, want)
		}
	}
}

func TestAll(t *testing.T) { // P6.7
	secret, right, weak := anyText(32, 1), publics(), zeros(32)
	for n := range len(right) + 1 {
		got, err := All(secret, right[:n])
		if len(got) != n || err != api.OK {
			t.Fatalf("All of %d: %d, %d", n, len(got), err)
		}
		for i := range n {
			want, wantErr := Shared(secret, right[i])
			answers(t, "All", got[i], err, want, wantErr)
		}
	}
	for _, c := range []struct {
		secret  string
		publics []string
		many    int
		err     api.Errno
	}{
		{secret, nil, 0, api.OK},
		{secret, []string{}, 0, api.OK},
		{"short", nil, 0, api.OK}, // no public one, and so no error
		{"short", right[:1], 0, api.ErrArg},
		{"short", []string{weak}, 0, api.ErrArg},
		{secret + "x", right, 0, api.ErrArg},
		{secret, []string{right[0], right[0]}, 2, api.OK},
		{secret, []string{weak}, 0, api.ErrZero},
		{secret, []string{"x"}, 0, api.ErrArg},
		{secret, []string{""}, 0, api.ErrArg},
		{secret, []string{weak, "x"}, 0, api.ErrZero},
		{secret, []string{"x", weak}, 0, api.ErrArg},
		{secret, []string{right[0], weak, "x"}, 0, api.ErrZero},
		{secret, []string{right[0], "x", weak}, 0, api.ErrArg},
		{secret, []string{right[0], right[1], weak}, 0, api.ErrZero},
		{secret, []string{right[0], right[1], "x"}, 0, api.ErrArg},
		{secret, []string{weak, right[0]}, 0, api.ErrZero},
	} {
		got, err := All(c.secret, c.publics)
		if len(got) != c.many || err != c.err {
			t.Errorf("All(%x, %x): %x, %d, want %d, %d", c.secret, c.publics, got, err, c.many, c.err)
		}
	}
}

func TestAllLeavesItsList(t *testing.T) { // R3
	room := publics()[:6]
	want := slices.Clone(room)
	got, _ := All(anyText(32, 1), room[:3])
	if !slices.Equal(room, want) {
		t.Errorf("All changed its list: %x", room)
	}
	kept := slices.Clone(got)
	room[0], room[1] = "", ""
	again, _ := All(anyText(32, 1), want[:3])
	again[0], again[1] = "", ""
	if !slices.Equal(got, kept) {
		t.Errorf("an answer of All shares memory: %x, want %x", got, kept)
	}
}

func TestTwoShareASecret(t *testing.T) { // P6.8
	all := secrets()
	for _, own := range all {
		for _, other := range all {
			p, err := Public(own)
			q, errQ := Public(other)
			if err != api.OK || errQ != api.OK {
				t.Fatalf("Public: %d, %d", err, errQ)
			}
			one, err := Shared(own, q)
			two, errTwo := Shared(other, p)
			answers(t, "what the other shares", two, errTwo, one, api.OK)
			if err != api.OK || len(one) != 32 {
				t.Errorf("Shared(%x, %x): %x, %d", own, q, one, err)
			}
		}
	}
}

func TestClampedBitsMakeNoDifference(t *testing.T) { // P6.9
	for _, secret := range secrets() {
		for _, public := range []string{"\x09" + zeros(31), anyText(32, 8), zeros(32)} {
			want, _ := Times(secret, public)
			got, err := Times(Clamp(secret), public)
			answers(t, "clamped", got, err, want, api.OK)
			for _, bit := range []int{0, 1, 2, 254, 255} {
				got, err = Times(turned(secret, bit), public)
				answers(t, "a clamped bit turned", got, err, want, api.OK)
			}
		}
	}
}

func TestOtherBitsMakeADifference(t *testing.T) { // P6.3, P6.9
	secret := anyText(32, 4)
	met := map[string]int{}
	for bit := 3; bit < 254; bit++ {
		got, err := Public(turned(secret, bit))
		if err != api.OK {
			t.Fatalf("Public: %d", err)
		}
		met[got]++
	}
	if len(met) != 251 {
		t.Errorf("251 secrets have %d public ones", len(met))
	}
}

func TestNoPublicOneOfASecretIsWeak(t *testing.T) { // P6.10
	for _, secret := range append(secrets(), weakOnes(t)...) {
		public, err := Public(secret)
		if err != api.OK || Weak(public) {
			t.Errorf("Public(%x): %x, %d, which is weak", secret, public, err)
		}
	}
}

func TestNothingIsSharedWithAWeakOne(t *testing.T) { // P6.5, P6.10
	for _, secret := range secrets() {
		for _, public := range weakOnes(t) {
			got, err := Shared(secret, public)
			answers(t, "Shared with a weak one", got, err, "", api.ErrZero)
			l, err := All(secret, []string{anyText(32, 1), public})
			if len(l) != 0 || err != api.ErrZero {
				t.Errorf("All with the weak %x: %x, %d", public, l, err)
			}
		}
	}
}
