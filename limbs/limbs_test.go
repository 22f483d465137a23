package limbs

import (
	"math"
	"math/big"
	"math/rand/v2"
	"slices"
	"strings"
	"testing"

	"murmur/api"
)

// ones is the greatest limb of 51 bits.
const ones = 1<<51 - 1

// top is the greatest limb that there may be.
const top = math.MaxUint64

// modulus is P.
func modulus() *big.Int {
	return power(255, -19)
}

// power is 2 to the power of n, and more.
func power(n uint, more int64) *big.Int {
	out := new(big.Int).Lsh(big.NewInt(1), n)
	return out.Add(out, big.NewInt(more))
}

// worth is what the limbs are worth, not modulo P.
func worth(x api.Limbs) *big.Int {
	out := new(big.Int)
	for i, limb := range x {
		part := new(big.Int).SetUint64(limb)
		out.Add(out, part.Lsh(part, uint(51*i)))
	}
	return out
}

// spread is limbs of just this worth, which has at most 268 bits: each but the last of 51 bits.
func spread(n *big.Int) api.Limbs {
	out, rest, mask := api.Limbs{}, new(big.Int).Set(n), power(51, -1)
	for i := range 4 {
		out[i] = new(big.Int).And(rest, mask).Uint64()
		rest.Rsh(rest, 51)
	}
	out[4] = rest.Uint64()
	return out
}

// reducedOf is the reduced limbs of any number.
func reducedOf(n *big.Int) api.Limbs {
	return spread(new(big.Int).Mod(n, modulus()))
}

// bigOf is the number of the bytes, the lowest first.
func bigOf(s string) *big.Int {
	b := []byte(s)
	slices.Reverse(b)
	return new(big.Int).SetBytes(b)
}

// bytesOf is the number, below 2^256, in 32 bytes, the lowest first.
func bytesOf(n *big.Int) string {
	b := n.FillBytes(make([]byte, 32))
	slices.Reverse(b)
	return string(b)
}

// knownPower is a to the power e, modulo P.
func knownPower(a api.Limbs, e *big.Int) api.Limbs {
	return spread(new(big.Int).Exp(worth(a), e, modulus()))
}

// source is numbers that follow no simple rule, the same ones for the same seed.
func source(seed byte) *rand.Rand {
	return rand.New(rand.NewChaCha8([32]byte{seed}))
}

// anyText is n bytes that follow no simple rule.
func anyText(n int, seed byte) string {
	out := make([]byte, n)
	rand.NewChaCha8([32]byte{seed}).Read(out)
	return string(out)
}

// edges is limbs at the ends of what limbs may be, and around P and what P goes into.
func edges() []api.Limbs {
	out := []api.Limbs{
		{}, {1}, {2}, {18}, {19}, {20}, {9}, {121665}, {1 << 50}, {ones}, {ones + 1}, {top},
		{0, 1}, {0, 0, 1}, {0, 0, 0, 1}, {0, 0, 0, 0, 1}, {0, 0, 0, 0, 1 << 51}, {0, 0, 0, 0, top},
		{ones, ones, ones, ones, ones}, {ones + 1, ones + 1, ones + 1, ones + 1, ones + 1},
		{top, top, top, top, top}, {0, top, top, top, top}, {top, 0, top, 0, top}, {top, top, top, top, 0},
		{top - 18, top, top, top, top}, {1 << 63, 1 << 63, 1 << 63, 1 << 63, 1 << 63},
	}
	for _, times := range []int64{1, 2, 3, 4, 19, 8191} {
		for more := range int64(3) {
			n := new(big.Int).Mul(modulus(), big.NewInt(times))
			out = append(out, spread(n.Add(n, big.NewInt(more-1))))
		}
	}
	return out
}

// samples is edges, and limbs of any bits, reduced ones among them.
func samples() []api.Limbs {
	out, from := edges(), source(1)
	for i := range 24 {
		x := api.Limbs{}
		for j := range x {
			x[j] = from.Uint64() >> [3]int{0, 12, 13}[i%3]
		}
		out = append(out, x)
	}
	return out
}

// same holds an answer against what is known.
func same(t *testing.T, what string, got, want api.Limbs) {
	t.Helper()
	if got != want {
		t.Errorf("%s: %x, want %x", what, got, want)
	}
}

func TestRead(t *testing.T) { // P5.1
	for _, c := range []struct {
		s    string
		want api.Limbs
	}{
		{"", api.Limbs{}},
		{"\x05", api.Limbs{5}},
		{"\x01\x02", api.Limbs{513}},
		{"\xff\xff\xff\xff\xff\xff", api.Limbs{1<<48 - 1}},
		{"\xff\xff\xff\xff\xff\xff\xff", api.Limbs{ones, 31}},
		{"\x00\x00\x00\x00\x00\x00\x08", api.Limbs{0, 1}},
		{strings.Repeat("\x00", 31) + "\x40", api.Limbs{0, 0, 0, 0, 1 << 50}},
		{strings.Repeat("\x00", 31) + "\x80", api.Limbs{}},
		{strings.Repeat("\xff", 32), api.Limbs{ones, ones, ones, ones, ones}},
		{strings.Repeat("\x00", 32) + "\xff\xff", api.Limbs{}},
		{strings.Repeat("\xff", 5000), api.Limbs{ones, ones, ones, ones, ones}},
	} {
		same(t, "Read", Read(c.s), c.want)
	}
	low := power(255, -1)
	for n := range 70 {
		s := anyText(n, byte(n))
		want := bigOf(s)
		same(t, "Read of any bytes", Read(s), spread(want.And(want, low)))
	}
}

func TestReadIsNotReduced(t *testing.T) { // P5.1
	for _, n := range []*big.Int{modulus(), power(255, -18), power(255, -1)} {
		same(t, "Read of P and more", Read(bytesOf(n)), spread(n))
	}
}

func TestReadSeesEachBit(t *testing.T) { // P5.1
	for bit := range 33 * 8 {
		b := make([]byte, 33)
		b[bit/8] = 1 << (bit % 8)
		want := api.Limbs{}
		if bit < 255 {
			want[bit/51] = 1 << (bit % 51)
		}
		same(t, "Read of one bit", Read(string(b)), want)
		same(t, "Read of one bit and no byte behind it", Read(string(b[:bit/8+1])), want)
	}
}

func TestCarry(t *testing.T) { // P5.2
	for _, c := range []struct{ x, want api.Limbs }{
		{api.Limbs{ones - 18, ones, ones, ones, ones}, api.Limbs{}},
		{api.Limbs{ones - 17, ones, ones, ones, ones}, api.Limbs{1}},
		{api.Limbs{ones - 19, ones, ones, ones, ones}, api.Limbs{ones - 19, ones, ones, ones, ones}},
		{api.Limbs{ones, ones, ones, ones, ones}, api.Limbs{18}},
		{api.Limbs{1 << 51}, api.Limbs{0, 1}},
		{api.Limbs{0, 0, 0, 0, 1 << 51}, api.Limbs{19}},
		{api.Limbs{top}, api.Limbs{ones, 8191}},
		{api.Limbs{0, 0, 0, 0, top}, api.Limbs{19 * 8191, 0, 0, 0, ones}},
	} {
		same(t, "Carry", Carry(c.x), c.want)
	}
	for _, x := range samples() {
		same(t, "Carry of a sample", Carry(x), reducedOf(worth(x)))
	}
}

func TestCarryAroundWhatPGoesInto(t *testing.T) { // P5.2
	most := worth(api.Limbs{ones, ones, ones, ones, top})
	for times := int64(0); times <= 8192; times++ {
		for more := int64(-20); more <= 20; more += 1 + times%3 {
			n := new(big.Int).Mul(modulus(), big.NewInt(times))
			n.Add(n, big.NewInt(more))
			if n.Sign() >= 0 && n.Cmp(most) <= 0 {
				same(t, "Carry", Carry(spread(n)), reducedOf(n))
			}
		}
	}
}

// Each limb at its own end, or a little aside: whatever is carried from one to the next comes up.
func TestCarryAtTheEndsOfItsLimbs(t *testing.T) { // P5.2
	ends := []uint64{0, ones - 18, ones, ones + 1, top - 18, top}
	many := len(ends)
	for i := range many * many * many * many * many {
		x := api.Limbs{}
		for j := range x {
			x[j] = ends[i%many]
			i /= many
		}
		same(t, "Carry", Carry(x), reducedOf(worth(x)))
	}
}

func TestBytes(t *testing.T) { // P5.3
	zeros := strings.Repeat("\x00", 32)
	for _, c := range []struct {
		x    api.Limbs
		want string
	}{
		{api.Limbs{}, zeros},
		{api.Limbs{513}, "\x01\x02" + zeros[:30]},
		{api.Limbs{ones - 18, ones, ones, ones, ones}, zeros},
		{api.Limbs{ones - 19, ones, ones, ones, ones}, "\xec" + strings.Repeat("\xff", 30) + "\x7f"},
		{api.Limbs{ones, ones, ones, ones, ones}, "\x12" + zeros[:31]},
		{api.Limbs{0, 0, 0, 0, 1 << 50}, zeros[:31] + "\x40"},
	} {
		if got := Bytes(c.x); got != c.want {
			t.Errorf("Bytes(%x): %x, want %x", c.x, got, c.want)
		}
	}
	for _, x := range samples() {
		want := bytesOf(worth(reducedOf(worth(x))))
		if got := Bytes(x); got != want {
			t.Errorf("Bytes(%x): %x, want %x", x, got, want)
		}
	}
}

func TestBytesSeesEachBit(t *testing.T) { // P5.3
	for bit := range 255 {
		x := api.Limbs{}
		x[bit/51] = 1 << (bit % 51)
		want := make([]byte, 32)
		want[bit/8] = 1 << (bit % 8)
		if got := Bytes(x); got != string(want) {
			t.Errorf("Bytes of the bit %d: %x", bit, got)
		}
	}
}

func TestAddSubAndTimes(t *testing.T) { // P5.4, P5.5
	for _, a := range samples() {
		for _, b := range samples() {
			x, y := worth(a), worth(b)
			same(t, "Add", Add(a, b), reducedOf(new(big.Int).Add(x, y)))
			same(t, "Sub", Sub(a, b), reducedOf(new(big.Int).Sub(x, y)))
			same(t, "Times", Times(a, b), reducedOf(new(big.Int).Mul(x, y)))
		}
	}
}

func TestAddSubAndTimesOfSingleLimbs(t *testing.T) { // P5.4, P5.5
	for i := range 5 {
		for j := range 5 {
			for _, limb := range []uint64{1, ones, ones + 1, top} {
				a, b := api.Limbs{}, api.Limbs{}
				a[i], b[j] = limb, top
				x, y := worth(a), worth(b)
				same(t, "Add", Add(a, b), reducedOf(new(big.Int).Add(x, y)))
				same(t, "Sub", Sub(a, b), reducedOf(new(big.Int).Sub(x, y)))
				same(t, "Times", Times(a, b), reducedOf(new(big.Int).Mul(x, y)))
			}
		}
	}
}

func TestSubBelowNothing(t *testing.T) { // P5.4
	same(t, "1 less 2", Sub(api.Limbs{1}, api.Limbs{2}), api.Limbs{ones - 19, ones, ones, ones, ones})
	same(t, "0 less 0", Sub(api.Limbs{}, api.Limbs{}), api.Limbs{})
	same(t, "0 less P", Sub(api.Limbs{}, spread(modulus())), api.Limbs{})
	for _, x := range samples() {
		same(t, "a number less itself", Sub(x, x), api.Limbs{})
	}
}

func TestScale(t *testing.T) { // P5.5
	for _, a := range samples() {
		for _, n := range []uint64{0, 1, 2, 19, 121665, math.MaxUint32, ones, ones + 1, 1 << 63, top} {
			want := new(big.Int).SetUint64(n)
			same(t, "Scale", Scale(a, n), reducedOf(want.Mul(want, worth(a))))
		}
	}
}

func TestSquare(t *testing.T) { // P5.5
	for _, a := range samples() {
		want := worth(a)
		for n := range 5 {
			same(t, "Square", Square(a, n), reducedOf(want))
			want.Mod(want.Mul(want, want), modulus())
		}
	}
}

// Times beyond the ends that the document names are those ends.
func TestSquareAtItsEnds(t *testing.T) { // P5.5
	for _, a := range []api.Limbs{{}, {1}, {3}, {9, 7, 5}, {top, top, top, top, top}} {
		for _, c := range []struct{ n, times int }{
			{math.MinInt, 0}, {-300, 0}, {-1, 0}, {0, 0}, {1, 1}, {255, 255}, {299, 299}, {300, 300}, {301, 300}, {1000, 300}, {math.MaxInt, 300},
		} {
			same(t, "Square", Square(a, c.n), knownPower(a, power(uint(c.times), 0)))
		}
	}
}

func TestInvert(t *testing.T) { // P5.6
	same(t, "Invert of 0", Invert(api.Limbs{}), api.Limbs{})
	same(t, "Invert of P", Invert(spread(modulus())), api.Limbs{})
	same(t, "Invert of 1", Invert(api.Limbs{1}), api.Limbs{1})
	same(t, "Invert of 2", Invert(api.Limbs{2}), spread(power(254, -9)))
	for _, a := range samples() {
		same(t, "Invert", Invert(a), knownPower(a, power(255, -21)))
	}
}

func TestSwap(t *testing.T) { // P5.7
	for _, bit := range []int{0, 1, 2, 3, 4, 255, 256, -1, -2, -3, math.MinInt, math.MinInt + 1, math.MaxInt, math.MaxInt - 1} {
		for _, a := range edges() {
			for _, b := range edges() {
				x, y := Swap(a, b, bit)
				wantX, wantY := a, b
				if bit%2 != 0 {
					wantX, wantY = b, a
				}
				if x != wantX || y != wantY {
					t.Errorf("Swap(%x, %x, %d): %x, %x", a, b, bit, x, y)
				}
			}
		}
	}
}

func TestPower(t *testing.T) { // P5.8
	for _, c := range []struct {
		a    api.Limbs
		e    string
		want api.Limbs
	}{
		{api.Limbs{3}, "\x05", api.Limbs{243}},
		{api.Limbs{3}, "", api.Limbs{1}},
		{api.Limbs{3}, "\x00\x00", api.Limbs{1}},
		{api.Limbs{}, "", api.Limbs{1}},
		{api.Limbs{}, "\x01", api.Limbs{}},
		{spread(modulus()), "\x00", api.Limbs{1}},
		{api.Limbs{2}, "\x33", api.Limbs{0, 1}},
		{api.Limbs{2}, "\xff", api.Limbs{19}},
		{api.Limbs{2}, "\x00\x01", api.Limbs{38}},
		{api.Limbs{ones - 19, ones, ones, ones, ones}, "\x03", api.Limbs{ones - 19, ones, ones, ones, ones}},
		{api.Limbs{top, top, top, top, top}, "\x01", reducedOf(worth(api.Limbs{top, top, top, top, top}))},
	} {
		same(t, "Power", Power(c.a, c.e), c.want)
	}
}

// What is behind 64 bytes of an exponent makes no difference.
func TestPowerOfEachLength(t *testing.T) { // P5.8
	for _, n := range []int{0, 1, 2, 7, 8, 31, 32, 33, 63, 64, 65, 66, 100, 1000} {
		for i, a := range []api.Limbs{{}, {1}, {2}, {9, 7, 5}, {top, top, top, top, top}, {ones - 19, ones, ones, ones, ones}} {
			for _, e := range []string{anyText(n, byte(i)), strings.Repeat("\x00", n), strings.Repeat("\xff", n), strings.Repeat("\x80", n)} {
				same(t, "Power", Power(a, e), knownPower(a, bigOf(e[:min(n, 64)])))
			}
		}
	}
}

func TestPowerSeesEachBit(t *testing.T) { // P5.8
	for bit := range 65 * 8 {
		e := make([]byte, 65)
		e[bit/8] = 1 << (bit % 8)
		want := api.Limbs{1}
		if bit < 512 {
			want = knownPower(api.Limbs{3}, power(uint(bit), 0))
		}
		same(t, "Power", Power(api.Limbs{3}, string(e)), want)
	}
}

// knownRoot is the root that the chapter's powers come to, and whether there is one.
func knownRoot(a api.Limbs) (api.Limbs, bool) {
	root := worth(knownPower(a, power(252, -2)))
	other := worth(knownPower(api.Limbs{2}, power(253, -5)))
	for _, factor := range []*big.Int{big.NewInt(1), other} {
		out := reducedOf(factor.Mul(factor, root))
		if knownPower(out, big.NewInt(2)) == reducedOf(worth(a)) {
			return out, true
		}
	}
	return api.Limbs{}, false
}

func TestRoot(t *testing.T) { // P5.9
	minus := api.Limbs{ones - 19, ones, ones, ones, ones}
	for _, c := range []struct {
		a  api.Limbs
		is bool
	}{
		{api.Limbs{}, true},
		{spread(modulus()), true},
		{api.Limbs{1}, true},
		{api.Limbs{2}, false},
		{api.Limbs{3}, true},
		{api.Limbs{4}, true},
		{api.Limbs{5}, true},
		{api.Limbs{6}, false},
		{api.Limbs{16}, true},
		{minus, true},
		{Sub(api.Limbs{}, api.Limbs{2}), false},
		{spread(power(255, -17)), false}, // 2, and P
		{spread(power(255, -15)), true},  // 4, and P
	} {
		got, is := Root(c.a)
		want, _ := knownRoot(c.a)
		if is != c.is {
			t.Errorf("Root(%x): %v, want %v", c.a, is, c.is)
		}
		same(t, "Root", got, want)
	}
}

func TestRootOfSamples(t *testing.T) { // P5.9
	yes, no := 0, 0
	for _, a := range samples() {
		got, is := Root(a)
		want, wantIs := knownRoot(a)
		if is != wantIs {
			t.Errorf("Root(%x): %v, want %v", a, is, wantIs)
		}
		if is != (big.Jacobi(reducedWorth(a), modulus()) >= 0) {
			t.Errorf("Root(%x): %v, but it is a square, or isn't", a, is)
		}
		same(t, "Root of a sample", got, want)
		if is {
			yes++
		} else {
			no++
		}
	}
	if yes < 5 || no < 5 {
		t.Errorf("%d samples have a root and %d have none: they tell too little", yes, no)
	}
}

// reducedWorth is what the limbs are worth modulo P.
func reducedWorth(x api.Limbs) *big.Int {
	return worth(reducedOf(worth(x)))
}

func TestSumsAndProductsInAnyOrder(t *testing.T) { // P5.10
	all := samples()
	for i, a := range all {
		b, c := all[(i*7+3)%len(all)], all[(i*11+5)%len(all)]
		same(t, "sums in another order", Add(a, b), Add(b, a))
		same(t, "products in another order", Times(a, b), Times(b, a))
		same(t, "sums grouped", Add(Add(a, b), c), Add(a, Add(b, c)))
		same(t, "products grouped", Times(Times(a, b), c), Times(a, Times(b, c)))
		same(t, "a product of a sum", Times(a, Add(b, c)), Add(Times(a, b), Times(a, c)))
		same(t, "a product of a difference", Times(a, Sub(b, c)), Sub(Times(a, b), Times(a, c)))
		same(t, "what is added is taken off", Sub(Add(a, b), b), Carry(a))
		same(t, "twice", Add(a, a), Scale(a, 2))
		same(t, "squared", Square(a, 1), Times(a, a))
		same(t, "scaled", Scale(a, b[0]), Times(a, api.Limbs{b[0]}))
	}
}

func TestNumberTimesItsInverse(t *testing.T) { // P5.11
	for _, a := range samples() {
		want := api.Limbs{1}
		if Carry(a) == (api.Limbs{}) {
			want = api.Limbs{}
		}
		same(t, "a number times its inverse", Times(a, Invert(a)), want)
		same(t, "the inverse of the inverse", Invert(Invert(a)), Carry(a))
	}
}

func TestReadOfBytes(t *testing.T) { // P5.12
	for _, a := range samples() {
		x := reducedOf(worth(a))
		same(t, "Read of Bytes of reduced limbs", Read(Bytes(x)), x)
		same(t, "Read of Bytes", Read(Bytes(a)), Carry(a))
	}
	for _, n := range []*big.Int{power(255, -20), power(255, -21), power(254, 0), power(204, 0), power(204, -1)} {
		same(t, "Read of Bytes", Read(Bytes(spread(n))), spread(n))
	}
}

func TestPowersMultiply(t *testing.T) { // P5.13
	for i, a := range samples() {
		d, e := bigOf(anyText(32, byte(i))), bigOf(anyText(32, byte(i+100)))
		d.Rsh(d, 1)
		e.Rsh(e, 1)
		sum := new(big.Int).Add(d, e)
		same(t, "powers multiplied", Times(Power(a, bytesOf(d)), Power(a, bytesOf(e))), Power(a, bytesOf(sum)))
	}
}

func TestEachSquareHasARoot(t *testing.T) { // P5.13
	for _, a := range samples() {
		root, is := Root(Square(a, 1))
		if !is {
			t.Errorf("the square of %x has no root", a)
		}
		if root != Carry(a) && root != Sub(api.Limbs{}, a) {
			t.Errorf("the root of the square of %x: %x", a, root)
		}
	}
}
