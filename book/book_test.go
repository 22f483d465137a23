package book

import (
	"crypto/hkdf"
	"crypto/sha256"
	"encoding/binary"
	"fmt"
	"math"
	"math/rand/v2"
	"slices"
	"strings"
	"testing"
	"time"

	"murmur/api"
	"murmur/stamp"
	"murmur/tape"
)

// anyText is n bytes that follow no simple rule, the same ones for the same seed.
func anyText(n int, seed byte) string {
	out := make([]byte, n)
	rand.NewChaCha8([32]byte{seed}).Read(out)
	return string(out)
}

// turned is s with one bit turned.
func turned(s string, bit int) string {
	out := []byte(s)
	out[bit/8] ^= 1 << (bit % 8)
	return string(out)
}

// rightShapes is shapes at the ends and in between.
func rightShapes() []api.Shape {
	return []api.Shape{{N: 2}, {N: 2, H: 1}, {N: 3, H: 2}, {N: 4, H: 3}, {N: 31}, {N: 32}, {N: 2, H: 8}}
}

// wrongShapes is shapes with one number or both past an end.
func wrongShapes() []api.Shape {
	return []api.Shape{
		{}, {N: 1}, {N: 1, H: 8}, {N: 33}, {N: 33, H: 4}, {N: -2}, {N: math.MinInt}, {N: math.MaxInt}, {N: 2, H: -1}, {N: 2, H: 9}, {N: 32, H: 9},
		{N: 16, H: 63}, {N: 16, H: 64}, {N: 16, H: math.MinInt}, {N: 16, H: math.MaxInt}, {N: 1, H: -1}, {N: 33, H: 9}, {N: math.MaxInt, H: math.MaxInt},
	}
}

// lengths is how many bytes are asked for: at each end, and past it.
func lengths() []int {
	return []int{math.MinInt, -1 << 32, -1, 0, 1, 2, 3, 4, 31, 32, 33, 255, 256, 5999, 6000, 6001, 8159, 8160, 8161, 1 << 20, 1 << 32, math.MaxInt}
}

// is holds what was answered against what is wanted.
func is[T comparable](t *testing.T, what string, got, want T) {
	t.Helper()
	if got != want {
		t.Fatalf("%s: %.200q, want %.200q", what, fmt.Sprint(got), fmt.Sprint(want))
	}
}

// are is the same of lists, of which one that is nil is empty.
func are[T comparable](t *testing.T, what string, got, want []T) {
	t.Helper()
	if !slices.Equal(got, want) {
		t.Fatalf("%s: %.400q, want %.400q", what, fmt.Sprint(got), fmt.Sprint(want))
	}
}

// alike holds all that a book has against another one.
func alike(t *testing.T, what string, got, want api.Book) {
	t.Helper()
	is(t, what+": Ideal", got.Ideal, want.Ideal)
	is(t, what+": Seed", got.Seed, want.Seed)
	is(t, what+": Shape", got.Shape, want.Shape)
	are(t, what+": Cells", got.Cells, want.Cells)
	are(t, what+": Used", got.Used, want.Used)
	are(t, what+": Counts", got.Counts, want.Counts)
	are(t, what+": Issued", got.Issued, want.Issued)
	are(t, what+": Taken", got.Taken, want.Taken)
	are(t, what+": Forged", got.Forged, want.Forged)
	are(t, what+": Missed", got.Missed, want.Missed)
}

// copyOf is the book, with lists of its own.
func copyOf(b api.Book) api.Book {
	b.Cells, b.Used, b.Counts = slices.Clone(b.Cells), slices.Clone(b.Used), slices.Clone(b.Counts)
	b.Issued, b.Taken, b.Forged, b.Missed = slices.Clone(b.Issued), slices.Clone(b.Taken), slices.Clone(b.Forged), slices.Clone(b.Missed)
	return b
}

// begun is a book that can be made.
func begun(t *testing.T, ideal bool, seed string, p api.Shape, l []api.Cell) api.Book {
	t.Helper()
	b, err := New(ideal, seed, p, l)
	is(t, "the error of New", err, api.OK)
	return b
}

// signed is a signature that can be made, and the book behind it.
func signed(t *testing.T, b api.Book, who, msg string) (string, api.Book) {
	t.Helper()
	sig, out, err := Sign(b, who, msg)
	is(t, "the error of Sign", err, api.OK)
	return sig, out
}

// The chapter, read slowly: knownX is what it says of X.

// knownDerive is keys out of keys, by Go's own HKDF.
func knownDerive(key string, n int, l ...string) string {
	info := []byte{}
	for _, s := range l {
		info = append(binary.BigEndian.AppendUint16(info, uint16(len(s))), s...)
	}
	out, err := hkdf.Key(sha256.New, []byte(key), []byte("murmur"), string(info), max(0, min(n, 8160)))
	if err != nil {
		panic(err)
	}
	return string(out)
}

func knownFit(s string, n int) string {
	out := []byte{}
	for i := 0; i < n && i < 6000; i++ {
		if i < len(s) {
			out = append(out, s[i])
		} else {
			out = append(out, 0)
		}
	}
	return string(out)
}

func knownGet(l []api.Cell, name string) (string, bool) {
	for _, c := range l {
		if c.Name == name {
			return c.Bytes, true
		}
	}
	return "", false
}

func knownPut(l []api.Cell, name, s string) []api.Cell {
	out, met := []api.Cell{}, false
	for _, c := range l {
		if c.Name != name {
			out = append(out, c)
		} else if !met {
			out, met = append(out, api.Cell{Name: name, Bytes: s}), true
		}
	}
	if !met {
		out = append(out, api.Cell{Name: name, Bytes: s})
	}
	return out
}

func knownCell(b api.Book, name string, n int) (string, api.Book) {
	b = copyOf(b)
	if s, there := knownGet(b.Used, name); there {
		return knownFit(s, n), b
	}
	s, _ := knownGet(b.Cells, name)
	if !b.Ideal {
		s = knownDerive(b.Seed, n, "cell", name)
	}
	s = knownFit(s, n)
	b.Used = knownPut(b.Used, name, s)
	return s, b
}

func knownCount(b api.Book, who string) int {
	for _, c := range b.Counts {
		if c.Who == who {
			return c.N
		}
	}
	return 0
}

func knownRight(p api.Shape) bool {
	return p.N >= 2 && p.N <= 32 && p.H >= 0 && p.H <= 8
}

// knownBehind is l with x behind the others, unless it is there.
func knownBehind(l []api.Issue, x api.Issue) []api.Issue {
	for _, y := range l {
		if y == x {
			return l
		}
	}
	return append(slices.Clone(l), x)
}

// knownSigner is who's signer, all of which its place in the tree and its key hang on.
func knownSigner(b api.Book, who string) api.Signer {
	s, _ := stamp.Make(b.Shape, knownDerive(b.Seed, 32, "sign", who))
	s.Next = knownCount(b, who)
	return s
}

func knownSign(b api.Book, who, msg string) (string, api.Book, api.Errno) {
	b = copyOf(b)
	n := knownCount(b, who)
	if !knownRight(b.Shape) {
		return "", b, api.ErrArg
	}
	if n < 0 || float64(n) >= math.Pow(2, float64(b.Shape.H)) {
		return "", b, api.ErrSpent
	}
	name, sig := fmt.Sprintf("sig %s %d", who, n), ""
	if b.Ideal {
		sig, b = knownCell(b, name, 2+b.Shape.N*(2*b.Shape.N+3+b.Shape.H))
	} else {
		sig, _, _ = stamp.Sign(knownSigner(b, who), msg)
		b.Used = knownPut(b.Used, name, sig)
	}
	met := false
	for i, c := range b.Counts {
		if c.Who == who && !met {
			b.Counts[i].N, met = n+1, true
		}
	}
	if !met {
		b.Counts = append(b.Counts, api.Count{Who: who, N: 1})
	}
	b.Issued = knownBehind(b.Issued, api.Issue{Who: who, Msg: msg, Sig: sig})
	return sig, b, api.OK
}

func knownCheck(b api.Book, who, msg, sig string) (bool, api.Book) {
	b = copyOf(b)
	x, issued := api.Issue{Who: who, Msg: msg, Sig: sig}, false
	for _, y := range b.Issued {
		issued = issued || y == x
	}
	holds := issued
	if !b.Ideal {
		public := stamp.Public(knownSigner(b, who))
		holds = stamp.Check(b.Shape, public, msg, sig)
		b.Cells = knownPut(b.Cells, "public "+who, public)
	}
	if !holds {
		b.Missed = knownBehind(b.Missed, x)
		return false, b
	}
	b.Taken = knownBehind(b.Taken, x)
	if !issued {
		b.Forged = knownBehind(b.Forged, x)
	}
	return true, b
}

func knownPerm(b api.Book, epoch, n int) ([]int, api.Book) {
	s, b := knownCell(b, fmt.Sprintf("perm %d", max(epoch, 0)), n)
	return knownRanks(s), b
}

func knownRanks(s string) []int {
	out := []int{}
	for i := range len(s) {
		many := 0
		for j := range len(s) {
			if s[j] < s[i] || s[j] == s[i] && j < i {
				many++
			}
		}
		out = append(out, many)
	}
	return out
}

// Each call, held against the chapter: what it answers, and that what was handed in is as it was.

func asksCell(t *testing.T, b api.Book, name string, n int) (string, api.Book) {
	t.Helper()
	was := copyOf(b)
	what := fmt.Sprintf("Cell %.30q %d", name, n)
	want, wanted := knownCell(b, name, n)
	got, out := Cell(b, name, n)
	is(t, what, got, want)
	alike(t, what, out, wanted)
	alike(t, what+": handed in", b, was)
	return got, out
}

func asksSign(t *testing.T, b api.Book, who, msg string) (string, api.Book, api.Errno) {
	t.Helper()
	was := copyOf(b)
	what := fmt.Sprintf("Sign %.30q %.30q", who, msg)
	want, wanted, errWanted := knownSign(b, who, msg)
	got, out, err := Sign(b, who, msg)
	is(t, what+": the error", err, errWanted)
	is(t, what, got, want)
	alike(t, what, out, wanted)
	alike(t, what+": handed in", b, was)
	is(t, what+": Count", Count(out, who), knownCount(wanted, who))
	return got, out, err
}

func asksCheck(t *testing.T, b api.Book, x api.Issue, want bool) api.Book {
	t.Helper()
	was := copyOf(b)
	what := fmt.Sprintf("Check %.30q %.30q %.30q", x.Who, x.Msg, x.Sig)
	holds, wanted := knownCheck(b, x.Who, x.Msg, x.Sig)
	got, out := Check(b, x.Who, x.Msg, x.Sig)
	is(t, what+": what the chapter asks for", holds, want)
	is(t, what, got, want)
	alike(t, what, out, wanted)
	alike(t, what+": handed in", b, was)
	return out
}

func asksPerm(t *testing.T, b api.Book, epoch, n int) ([]int, api.Book) {
	t.Helper()
	was := copyOf(b)
	what := fmt.Sprint("Perm ", epoch, n)
	want, wanted := knownPerm(b, epoch, n)
	got, out := Perm(b, epoch, n)
	are(t, what, got, want)
	alike(t, what, out, wanted)
	alike(t, what+": handed in", b, was)
	sorted := slices.Sorted(slices.Values(got))
	for i, n := range sorted {
		is(t, what+": each number once", n, i) // P16.9
	}
	return got, out
}

func TestNew(t *testing.T) { // P16.1
	l := []api.Cell{{Name: "a", Bytes: "1"}, {Name: "b", Bytes: "2"}, {Name: "a", Bytes: "3"}, {}}
	for _, ideal := range []bool{false, true} {
		for _, seed := range []string{"", "seed", anyText(1000, 1)} {
			for _, l := range [][]api.Cell{nil, {}, l} {
				for _, p := range rightShapes() {
					want := api.Book{Ideal: ideal, Seed: seed, Shape: p}
					if ideal {
						want.Cells = l
					}
					b, err := New(ideal, seed, p, l)
					is(t, "the error of New", err, api.OK)
					alike(t, "New", b, want)
				}
				for _, p := range wrongShapes() {
					b, err := New(ideal, seed, p, l)
					is(t, fmt.Sprint("the error of New of ", p), err, api.ErrArg)
					alike(t, fmt.Sprint("New of ", p), b, api.Book{})
				}
			}
		}
	}
}

func TestCellOfATape(t *testing.T) { // P16.2
	l := []api.Cell{{Name: "a", Bytes: "first"}, {Name: "b"}, {Name: "a", Bytes: "second"}, {Name: "", Bytes: "no name"}, {Name: "long", Bytes: anyText(7000, 1)}}
	b := begun(t, true, "seed", api.Shape{N: 2}, l)
	for name, want := range map[string]string{"a": "firs", "b": "\x00\x00\x00\x00", "": "no n", "none": "\x00\x00\x00\x00", "A": "\x00\x00\x00\x00", "a ": "\x00\x00\x00\x00"} {
		got, _ := asksCell(t, b, name, 4)
		is(t, "Cell "+name, got, want)
	}
	got, _ := asksCell(t, b, "a", 7)
	is(t, "Cell a", got, "first\x00\x00")
	for _, name := range []string{"a", "b", "", "long", "none"} {
		whole, _ := knownGet(l, name)
		for _, n := range lengths() {
			_, out := asksCell(t, b, name, n)
			are(t, "Used", out.Used, []api.Cell{{Name: name, Bytes: knownFit(whole, n)}})
			for _, m := range []int{-1, 0, 2, 4, 9, 6001} {
				_, again := asksCell(t, out, name, m)
				alike(t, "a book asked again", again, out)
			}
		}
	}
}

func TestCellOfASeed(t *testing.T) { // P16.2
	for _, seed := range []string{"", "seed", anyText(64, 2), anyText(65, 3), anyText(1000, 4)} {
		b := begun(t, false, seed, api.Shape{N: 2}, nil)
		b.Cells = []api.Cell{{Name: "a", Bytes: "not of the seed"}}
		for _, name := range []string{"", "a", "cell", "pad 100 1 0 7", "\x00", anyText(300, 5)} {
			for _, n := range lengths() {
				got, out := asksCell(t, b, name, n)
				is(t, "Cell", got, knownFit(knownDerive(seed, 6000, "cell", name), n))
				for _, m := range []int{-1, 0, 2, 40, 6001} {
					_, again := asksCell(t, out, name, m)
					alike(t, "a book asked again", again, out)
				}
			}
		}
	}
	b := begun(t, false, "seed", api.Shape{N: 2}, nil)
	one, _ := Cell(b, "a", 32)
	two, _ := Cell(b, "b", 32)
	b.Seed = "seee"
	three, _ := Cell(b, "a", 32)
	if one == two || one == three || two == three {
		t.Errorf("cells of other names or seeds are the same")
	}
}

// What Used has is answered, whatever a tape or a seed has: the first one of that name.
func TestCellThatWasUsed(t *testing.T) { // P16.2
	used := []api.Cell{{Name: "b", Bytes: "old"}, {Name: "a", Bytes: "one"}, {Name: "a", Bytes: "two"}, {Name: "", Bytes: "no name"}, {Name: "e"}, {Name: "b", Bytes: "older"}}
	for _, ideal := range []bool{false, true} {
		b := api.Book{Ideal: ideal, Seed: "seed", Cells: []api.Cell{{Name: "a", Bytes: "cells"}, {Name: "e", Bytes: "cells"}, {Name: "c", Bytes: "cells"}}, Used: used}
		for name, want := range map[string]string{"a": "one\x00", "b": "old\x00", "": "no n", "e": "\x00\x00\x00\x00"} {
			got, out := asksCell(t, b, name, 4)
			is(t, "Cell "+name, got, want)
			alike(t, "the book of a cell that was used", out, b)
		}
		for _, name := range []string{"c", "d", "aa", "a ", "\x00"} {
			got, out := asksCell(t, b, name, 4)
			are(t, "Used", out.Used, append(slices.Clone(used), api.Cell{Name: name, Bytes: got}))
		}
	}
}

func TestCount(t *testing.T) { // P16.3
	l := []api.Count{{Who: "m 1", N: 3}, {Who: "m 2", N: -1}, {Who: "m 1", N: 5}, {Who: "", N: 7}, {Who: "m 3"}, {Who: "m 4", N: math.MaxInt}, {Who: "m 5", N: math.MinInt}, {Who: "m 3", N: 9}}
	for who, want := range map[string]int{"m 1": 3, "m 2": -1, "": 7, "m 3": 0, "m 4": math.MaxInt, "m 5": math.MinInt, "m 6": 0, "m 11": 0, "m": 0, "M 1": 0, "m 1 ": 0} {
		is(t, "Count "+who, Count(api.Book{Counts: l}, who), want)
		is(t, "Count of the other mode "+who, Count(api.Book{Ideal: true, Counts: l}, who), want)
		is(t, "Count of nobody "+who, Count(api.Book{}, who), 0)
	}
}

// All leaves of one who signs, then none; another one has leaves of its own.
func TestSign(t *testing.T) { // P16.4, P16.8
	for _, ideal := range []bool{false, true} {
		for _, p := range rightShapes()[:6] {
			b := begun(t, ideal, "seed", p, []api.Cell{{Name: "sig m 1 0", Bytes: "short"}, {Name: "sig m 1 1", Bytes: anyText(3000, 1)}, {Name: "sig m 2 0", Bytes: anyText(3000, 2)}})
			met := map[string]bool{}
			for i := range 1 << p.H {
				is(t, "Count", Count(b, "m 1"), i)
				msg := []string{"text", "", "text", anyText(100, 3)}[i%4]
				sig, out, err := asksSign(t, b, "m 1", msg)
				is(t, "the error of Sign", err, api.OK)
				is(t, "bytes of a signature", len(sig), 2+p.N*(2*p.N+3+p.H))
				met[sig] = true
				b = asksCheck(t, out, api.Issue{Who: "m 1", Msg: msg, Sig: sig}, true)
			}
			for range 2 {
				sig, out, err := asksSign(t, b, "m 1", "more")
				is(t, "the error of Sign without a leaf", err, api.ErrSpent)
				is(t, "a signature without a leaf", sig, "")
				alike(t, "the book without a leaf", out, b)
			}
			is(t, "Count", Count(b, "m 1"), 1<<p.H)
			sig, out, err := asksSign(t, b, "m 2", "text")
			is(t, "the error of another one's Sign", err, api.OK)
			b = asksCheck(t, out, api.Issue{Who: "m 2", Msg: "text", Sig: sig}, true)
			if !ideal && (len(met) != 1<<p.H || met[sig]) {
				t.Fatalf("signatures are the same")
			}
			is(t, "Forged", len(b.Forged), 0)
			is(t, "Missed", len(b.Missed), 0)
			is(t, "Taken", len(b.Taken), len(b.Issued))
		}
	}
}

func TestSignOfATape(t *testing.T) { // P16.4
	p := api.Shape{N: 2, H: 1}
	long := 2 + 2*(7+1)
	b := begun(t, true, "", p, []api.Cell{{Name: "sig m 1 1", Bytes: "second"}, {Name: "sig m 1 0", Bytes: "first"}, {Name: "sig m 1 0", Bytes: "other"}})
	one, b := signed(t, b, "m 1", "a")
	two, b := signed(t, b, "m 1", "b")
	is(t, "the first signature", one, knownFit("first", long))
	is(t, "the second signature", two, knownFit("second", long))
	are(t, "Used", b.Used, []api.Cell{{Name: "sig m 1 0", Bytes: one}, {Name: "sig m 1 1", Bytes: two}})
	are(t, "Counts", b.Counts, []api.Count{{Who: "m 1", N: 2}})
	are(t, "Issued", b.Issued, []api.Issue{{Who: "m 1", Msg: "a", Sig: one}, {Who: "m 1", Msg: "b", Sig: two}})

	// Two signatures that are the same are issued once.
	b = begun(t, true, "", p, nil)
	_, b = signed(t, b, "m 1", "a")
	_, b = signed(t, b, "m 1", "a")
	are(t, "Issued", b.Issued, []api.Issue{{Who: "m 1", Msg: "a", Sig: knownFit("", long)}})
	are(t, "Counts", b.Counts, []api.Count{{Who: "m 1", N: 2}})

	// A signature's cell that was asked for ahead is what it was then.
	_, b = Cell(begun(t, true, "", p, []api.Cell{{Name: "sig m 1 0", Bytes: "first"}}), "sig m 1 0", 3)
	sig, out, _ := asksSign(t, b, "m 1", "a")
	is(t, "a signature asked for ahead", sig, knownFit("fir", long))
	are(t, "Used", out.Used, b.Used)
}

func TestSignOfASeed(t *testing.T) { // P16.4
	p := api.Shape{N: 16, H: 1}
	b := begun(t, false, "seed", p, nil)
	signer, _ := stamp.Make(p, knownDerive("seed", 32, "sign", "m 1"))
	for i, msg := range []string{"a", "b"} {
		want, next, err := stamp.Sign(signer, msg)
		is(t, "the error of stamp.Sign", err, api.OK)
		got, out := signed(t, b, "m 1", msg)
		is(t, "Sign", got, want)
		are(t, "Used", out.Used, append(slices.Clone(b.Used), api.Cell{Name: tape.SigName("m 1", i), Bytes: want}))
		signer, b = next, out
	}
	// A signature takes the place of a cell of its name.
	c, b := Cell(begun(t, false, "seed", p, nil), "sig m 1 0", 8)
	_, b = Cell(b, "a", 1)
	sig, out, _ := asksSign(t, b, "m 1", "a")
	if strings.HasPrefix(sig, c) || out.Used[0].Bytes != sig || len(out.Used) != 2 {
		t.Errorf("Used has %q", out.Used)
	}
}

// Errors in their order, and counts at the ends of what can be signed, of those that stand first.
func TestErrorsOfSign(t *testing.T) { // P16.4, R2
	for _, ideal := range []bool{false, true} {
		for _, n := range []int{math.MinInt, -1, 0, 1, 2, 3, 4, 5, 255, 256, 257, 1 << 32, math.MaxInt} {
			counts := []api.Count{{Who: "m 2", N: 1}, {Who: "m 1", N: n}, {Who: "m 1", N: 1}, {Who: "m 1", N: -1}}
			for _, p := range []api.Shape{{N: 2}, {N: 2, H: 1}, {N: 2, H: 2}} {
				b := api.Book{Ideal: ideal, Seed: "seed", Shape: p, Counts: counts, Issued: []api.Issue{{Who: "m 1"}}}
				_, out, err := asksSign(t, b, "m 1", "text")
				if n < 0 || n >= 1<<p.H {
					is(t, "the error of Sign", err, api.ErrSpent)
					alike(t, "the book", out, b)
					continue
				}
				is(t, "the error of Sign", err, api.OK)
				are(t, "Counts", out.Counts, []api.Count{{Who: "m 2", N: 1}, {Who: "m 1", N: n + 1}, {Who: "m 1", N: 1}, {Who: "m 1", N: -1}})
			}
			for _, p := range wrongShapes() {
				b := api.Book{Ideal: ideal, Seed: "seed", Shape: p, Counts: counts}
				_, out, err := asksSign(t, b, "m 1", "text")
				is(t, "the error of Sign of a wrong shape", err, api.ErrArg)
				alike(t, "the book of a wrong shape", out, b)
			}
		}
	}
	for _, ideal := range []bool{false, true} { // as high as a tree can be
		b := api.Book{Ideal: ideal, Shape: api.Shape{N: 2, H: 8}, Counts: []api.Count{{Who: "m 1", N: 255}}}
		_, b, err := asksSign(t, b, "m 1", "text")
		is(t, "the error of the last leaf", err, api.OK)
		_, _, err = asksSign(t, b, "m 1", "text")
		is(t, "the error behind the last leaf", err, api.ErrSpent)
	}
}

// others is issues that differ from x in one thing.
func others(x api.Issue) []api.Issue {
	out := []api.Issue{}
	for _, who := range []string{"", "m 2", "m", "m 1 ", x.Who + "\x00"} {
		out = append(out, api.Issue{Who: who, Msg: x.Msg, Sig: x.Sig})
	}
	for _, msg := range []string{"", "tex", "texT", "text\x00", " text"} {
		out = append(out, api.Issue{Who: x.Who, Msg: msg, Sig: x.Sig})
	}
	for _, sig := range []string{"", x.Sig[1:], x.Sig[:len(x.Sig)-1], x.Sig + "\x00", "\x00" + x.Sig, strings.Repeat("\x00", len(x.Sig))} {
		out = append(out, api.Issue{Who: x.Who, Msg: x.Msg, Sig: sig})
	}
	for bit := range 8 * len(x.Sig) {
		out = append(out, api.Issue{Who: x.Who, Msg: x.Msg, Sig: turned(x.Sig, bit)})
	}
	return out
}

// Just what is issued is taken: nothing that differs in one thing.
func TestCheck(t *testing.T) { // P16.5
	for _, ideal := range []bool{false, true} {
		b := begun(t, ideal, "seed", api.Shape{N: 4, H: 1}, []api.Cell{{Name: "sig m 1 0", Bytes: anyText(100, 1)}})
		sig, b := signed(t, b, "m 1", "text")
		x := api.Issue{Who: "m 1", Msg: "text", Sig: sig}
		b = asksCheck(t, b, x, true)
		for range 2 {
			for _, y := range others(x) {
				b = asksCheck(t, b, y, false)
			}
			b = asksCheck(t, b, x, true)
			are(t, "Missed", b.Missed, others(x))
			are(t, "Taken", b.Taken, []api.Issue{x})
			are(t, "Issued", b.Issued, []api.Issue{x})
			are(t, "Forged", b.Forged, nil)
		}
	}
}

// A signature ahead of its making is missed, and taken behind it.
func TestCheckAheadOfSigning(t *testing.T) { // P16.5
	b := begun(t, true, "", api.Shape{N: 2}, []api.Cell{{Name: "sig m 1 0", Bytes: anyText(100, 1)}})
	x := api.Issue{Who: "m 1", Msg: "text", Sig: anyText(100, 1)[:stamp.Long(b.Shape)]}
	b = asksCheck(t, b, x, false)
	are(t, "Cells of a tape", b.Cells, []api.Cell{{Name: "sig m 1 0", Bytes: anyText(100, 1)}})
	_, b = signed(t, b, "m 1", "text")
	b = asksCheck(t, b, x, true)
	are(t, "Missed", b.Missed, []api.Issue{x})
	are(t, "Taken", b.Taken, []api.Issue{x})
	are(t, "Forged", b.Forged, nil)
}

// A signature of who's signer that the book did not make is forged, till it is issued.
func TestForged(t *testing.T) { // P16.5
	p := api.Shape{N: 8, H: 1}
	signer, _ := stamp.Make(p, knownDerive("seed", 32, "sign", "m 1"))
	one, next, _ := stamp.Sign(signer, "text")
	two, _, _ := stamp.Sign(next, "more")
	x, y := api.Issue{Who: "m 1", Msg: "text", Sig: one}, api.Issue{Who: "m 1", Msg: "more", Sig: two}
	b := begun(t, false, "seed", p, nil)
	for range 2 {
		b = asksCheck(t, asksCheck(t, b, y, true), x, true)
		are(t, "Forged", b.Forged, []api.Issue{y, x})
		are(t, "Taken", b.Taken, []api.Issue{y, x})
		are(t, "Cells", b.Cells, []api.Cell{{Name: "public m 1", Bytes: stamp.Public(signer)}})
	}
	sig, b := signed(t, b, "m 1", "text")
	is(t, "the signature", sig, one)
	b = asksCheck(t, b, x, true)
	are(t, "Forged", b.Forged, []api.Issue{y, x})
	are(t, "Taken", b.Taken, []api.Issue{y, x})
	b.Taken, b.Forged = nil, nil
	b = asksCheck(t, b, x, true)
	are(t, "Forged of what is issued", b.Forged, nil)
	// In the ideal mode the same is missed.
	b = asksCheck(t, begun(t, true, "seed", p, nil), x, false)
	are(t, "Missed", b.Missed, []api.Issue{x})
	are(t, "Cells of a tape", b.Cells, nil)
	// In the real mode what is issued is not taken, if it does not hold.
	b = begun(t, false, "seed", p, nil)
	b.Issued = []api.Issue{{Who: "m 1", Msg: "text", Sig: "sig"}}
	b = asksCheck(t, b, b.Issued[0], false)
	are(t, "Missed", b.Missed, b.Issued)
}

// Whatever Cells have by the name of a public key: that of the Seed and the Shape tells, and they have it then.
func TestPublicKeysAmongCells(t *testing.T) { // P16.5
	p := api.Shape{N: 4, H: 1}
	b := begun(t, false, "seed", p, nil)
	other := begun(t, false, "other", p, nil)
	sig, b := signed(t, b, "m 1", "text")
	public := stamp.Public(knownSigner(b, "m 1"))
	foreign, _ := signed(t, other, "m 1", "text")
	foreignKey := stamp.Public(knownSigner(other, "m 1"))
	high, lower := b, b
	high.Shape, lower.Shape = api.Shape{N: 4, H: 2}, api.Shape{N: 4}
	kept := []string{"", public, public[:8], public[:11], public + "\x00", public[:8] + foreignKey[8:], foreignKey[:8] + public[8:], foreignKey, stamp.Public(knownSigner(b, "m 2")), stamp.Public(knownSigner(high, "m 1")), stamp.Public(knownSigner(lower, "m 1"))}
	for bit := range 8 * len(public) {
		kept = append(kept, turned(public, bit))
	}
	for _, s := range kept {
		for _, l := range [][]api.Cell{
			{{Name: "public m 1", Bytes: s}},
			{{Name: "a"}, {Name: "public m 1", Bytes: s}, {Name: "public m 1", Bytes: public}, {Name: "public m 2", Bytes: s}},
			{{Name: "public m 1", Bytes: public}, {Name: "a"}, {Name: "public m 1", Bytes: s}},
		} {
			b.Cells = l
			asksCheck(t, b, api.Issue{Who: "m 1", Msg: "text", Sig: sig}, true)
			asksCheck(t, b, api.Issue{Who: "m 1", Msg: "texT", Sig: sig}, false)
			asksCheck(t, b, api.Issue{Who: "m 1", Msg: "text", Sig: foreign}, false)
		}
	}
	for _, wrong := range wrongShapes() {
		b.Shape = wrong
		out := asksCheck(t, b, api.Issue{Who: "m 1", Msg: "text", Sig: sig}, false)
		got, there := knownGet(out.Cells, "public m 1")
		is(t, "a key of a wrong shape", got, "")
		is(t, "a key of a wrong shape is there", there, true)
	}
}

func TestPerm(t *testing.T) { // P16.6, P16.9
	b := begun(t, true, "", api.Shape{N: 2}, []api.Cell{{Name: "perm 0", Bytes: "\x05\x01\x05"}, {Name: "perm 1", Bytes: "\xff\x80\x7f\x00\xff"}})
	for _, c := range []struct {
		epoch, n int
		want     []int
	}{
		{0, 3, []int{1, 0, 2}}, {0, 4, []int{2, 1, 3, 0}}, {0, 2, []int{1, 0}}, {0, 1, []int{0}}, {0, 0, nil}, {0, -1, nil}, {0, math.MinInt, nil}, {-1, 3, []int{1, 0, 2}}, {math.MinInt, 3, []int{1, 0, 2}},
		{1, 5, []int{3, 2, 1, 0, 4}}, {2, 4, []int{0, 1, 2, 3}}, {math.MaxInt, 2, []int{0, 1}},
	} {
		got, out := asksPerm(t, b, c.epoch, c.n)
		are(t, fmt.Sprint("Perm ", c.epoch, c.n), got, c.want)
		is(t, "Used", len(out.Used), 1)
		again, behind := asksPerm(t, out, c.epoch, c.n)
		are(t, "Perm again", again, got)
		alike(t, "the book", behind, out)
	}
	for _, ideal := range []bool{false, true} {
		b := begun(t, ideal, "seed", api.Shape{N: 2}, []api.Cell{{Name: "perm 3", Bytes: anyText(6000, 1)}})
		for _, n := range []int{1, 6, 255, 256, 257, 1000} {
			asksPerm(t, b, 3, n)
		}
		got, _ := Perm(b, 3, math.MaxInt)
		is(t, "the longest Perm", len(got), 6000)
		slices.Sort(got)
		for i, n := range got {
			is(t, "the longest Perm", n, i)
		}
	}
}

// All texts of no more than five of these bytes.
func TestPermOfShortTexts(t *testing.T) { // P16.6, P16.9
	all := []string{""}
	for from := 0; len(all[from]) < 5; from++ {
		for _, c := range []string{"\x00", "\x01", "\x7f", "\x80", "\xff"} {
			all = append(all, all[from]+c)
		}
	}
	is(t, "texts", len(all), 1+5+25+125+625+3125)
	for _, s := range all {
		asksPerm(t, api.Book{Ideal: true, Cells: []api.Cell{{Name: "perm 7", Bytes: s}}}, 7, len(s))
	}
}

// each is a book with something in each of its fields.
func each(ideal bool, p api.Shape) api.Book {
	x := []api.Issue{{Who: "m 1", Msg: "1", Sig: "x"}, {Who: "m 2", Msg: "2", Sig: "y"}, {Who: "m 3", Msg: "3", Sig: "z"}}
	return api.Book{
		Ideal: ideal, Seed: "seed", Shape: p,
		Cells: []api.Cell{{Name: "a", Bytes: "cells"}}, Used: []api.Cell{{Name: "b", Bytes: "used"}, {Name: "a", Bytes: "more"}, {Name: "b", Bytes: "last"}},
		Counts: []api.Count{{Who: "m 2", N: 1}}, Issued: x[:1:1], Taken: x[1:2:2], Forged: x[2:], Missed: x[:2:2],
	}
}

func TestLift(t *testing.T) { // P16.7
	for _, ideal := range []bool{false, true} {
		for _, p := range append(rightShapes(), wrongShapes()...) {
			b := each(ideal, p)
			alike(t, "Lift", Lift(b), api.Book{Ideal: true, Shape: p, Cells: b.Used})
			b.Used = nil
			alike(t, "Lift of what used nothing", Lift(b), api.Book{Ideal: true, Shape: p})
		}
	}
	alike(t, "Lift of nothing", Lift(api.Book{}), api.Book{Ideal: true})
}

// step is something that is asked of a book.
type step struct {
	kind, n   int
	name, msg string
}

// anyStep is one of cells, signatures, checks of what was signed, and perms.
func anyStep(src *rand.Rand) step {
	return step{src.IntN(4), []int{0, 1, 3, 8, 40, 300}[src.IntN(6)], []string{"m 1", "m 2", "p 0 1"}[src.IntN(3)], []string{"", "text", "more"}[src.IntN(3)]}
}

// played is what a book answers to a step, and the book behind it.
func played(t *testing.T, b api.Book, s step) (string, api.Book) {
	t.Helper()
	switch s.kind {
	case 0:
		return asksCell(t, b, "pad "+s.name, s.n)
	case 1:
		sig, b, err := asksSign(t, b, s.name, s.msg)
		return fmt.Sprint(sig, err), b
	case 2:
		if len(b.Issued) == 0 {
			return "", b
		}
		x := b.Issued[s.n%len(b.Issued)]
		return "taken", asksCheck(t, b, x, true) // P16.8
	}
	perm, b := asksPerm(t, b, s.n/8, s.n)
	return fmt.Sprint(perm), b
}

// What a real book was asked, asked of its tape in the same order, is answered the same.
func TestBehindLift(t *testing.T) { // P16.8, P16.10
	src := rand.New(rand.NewPCG(1, 2))
	for try := range 60 {
		real := begun(t, false, anyText(try, byte(try)), api.Shape{N: 2 + try%3, H: try % 3}, nil)
		steps, answers := []step{}, []string{}
		for range 15 {
			s, answer := anyStep(src), ""
			answer, real = played(t, real, s)
			steps, answers = append(steps, s), append(answers, answer)
		}
		ideal := Lift(real)
		for i, s := range steps {
			answer := ""
			answer, ideal = played(t, ideal, s)
			is(t, "behind Lift", answer, answers[i])
		}
		are(t, "Used", ideal.Used, real.Used)
		are(t, "Counts", ideal.Counts, real.Counts)
		are(t, "Issued", ideal.Issued, real.Issued)
		are(t, "Taken", ideal.Taken, real.Taken)
		are(t, "Forged", real.Forged, nil)
		are(t, "Missed", real.Missed, nil)
		for _, c := range ideal.Counts {
			if c.N > 1<<ideal.Shape.H {
				t.Fatalf("%q signed %d times", c.Who, c.N)
			}
		}
	}
}

// anyBook is a book with any few things in each field, many of them twice.
func anyBook(src *rand.Rand) api.Book {
	names := []string{"pad 1", "sig m 1 0", "sig m 1 1", "sig m 2 0", "public m 1", "public m 2", "perm 0", "perm 1", ""}
	cells := func() []api.Cell {
		out := make([]api.Cell, src.IntN(6))
		for i := range out {
			out[i] = api.Cell{Name: names[src.IntN(len(names))], Bytes: anyText(src.IntN(30), byte(src.IntN(4)))}
		}
		return out
	}
	issues := func() []api.Issue {
		out := make([]api.Issue, src.IntN(4))
		for i := range out {
			out[i] = anyIssue(src)
		}
		return out
	}
	counts := make([]api.Count, src.IntN(4))
	for i := range counts {
		counts[i] = api.Count{Who: anyIssue(src).Who, N: src.IntN(5) - 1}
	}
	shapes := []api.Shape{{N: 2}, {N: 2, H: 1}, {N: 3, H: 1}, {N: 2, H: 2}, {N: 1}, {N: 2, H: 9}}
	return api.Book{Ideal: src.IntN(2) == 0, Seed: anyText(2, byte(src.IntN(2))), Shape: shapes[src.IntN(len(shapes))],
		Cells: cells(), Used: cells(), Counts: counts, Issued: issues(), Taken: issues(), Forged: issues(), Missed: issues()}
}

// anyIssue is one of a few issues.
func anyIssue(src *rand.Rand) api.Issue {
	return api.Issue{Who: []string{"m 1", "m 2", ""}[src.IntN(3)], Msg: []string{"", "text"}[src.IntN(2)], Sig: []string{"", "x", strings.Repeat("\x00", 16)}[src.IntN(3)]}
}

func TestAnyBooks(t *testing.T) { // P16.1 to P16.7, R1, R2
	src := rand.New(rand.NewPCG(3, 4))
	for range 3000 {
		b := anyBook(src)
		for range 4 {
			switch x, n := anyIssue(src), src.IntN(20)-2; src.IntN(5) {
			case 0:
				_, b = asksCell(t, b, []string{"pad 1", "sig m 1 0", "sig m 1 1", "public m 1", "perm 0", ""}[src.IntN(6)], n)
			case 1, 2:
				sig, out, err := asksSign(t, b, x.Who, x.Msg)
				if b = out; err == api.OK {
					b = asksCheck(t, b, api.Issue{Who: x.Who, Msg: x.Msg, Sig: sig}, true) // P16.8
				}
			case 3:
				holds, _ := knownCheck(b, x.Who, x.Msg, x.Sig)
				b = asksCheck(t, b, x, holds)
			default:
				_, b = asksPerm(t, b, src.IntN(3)-1, n)
			}
		}
		alike(t, "Lift", Lift(b), api.Book{Ideal: true, Shape: b.Shape, Cells: b.Used})
	}
}

// roomy is the book with room behind the end of each list, in which something lies; and whether all of that is as it was.
func roomy(b api.Book) (api.Book, func() bool) {
	c, n, x := api.Cell{Name: "behind"}, api.Count{Who: "behind"}, api.Issue{Who: "behind"}
	cells, used, counts := append(slices.Clone(b.Cells), c, c), append(slices.Clone(b.Used), c, c), append(slices.Clone(b.Counts), n, n)
	lists := [][]api.Issue{}
	for _, l := range [][]api.Issue{b.Issued, b.Taken, b.Forged, b.Missed} {
		lists = append(lists, append(slices.Clone(l), x, x))
	}
	b.Cells, b.Used, b.Counts = cells[:len(b.Cells)], used[:len(b.Used)], counts[:len(b.Counts)]
	b.Issued, b.Taken = lists[0][:len(b.Issued)], lists[1][:len(b.Taken)]
	b.Forged, b.Missed = lists[2][:len(b.Forged)], lists[3][:len(b.Missed)]
	was := copyOf(b)
	return b, func() bool {
		as := slices.Equal(cells, append(was.Cells, c, c)) && slices.Equal(used, append(was.Used, c, c)) && slices.Equal(counts, append(was.Counts, n, n))
		for i, l := range [][]api.Issue{was.Issued, was.Taken, was.Forged, was.Missed} {
			as = as && slices.Equal(lists[i], append(slices.Clone(l), x, x))
		}
		return as
	}
}

// Nothing that is handed in is changed, nor what lies behind a list's end; and books that came of one do not change each other.
func TestMemory(t *testing.T) { // R3, R4
	for _, ideal := range []bool{false, true} {
		b, as := roomy(each(ideal, api.Shape{N: 2, H: 1}))
		ways := map[string]func(string) api.Book{
			"Cell":  func(s string) api.Book { _, out := Cell(b, "c"+s, 5); return out },
			"Sign":  func(s string) api.Book { _, out, _ := Sign(b, "m 2", s); return out },
			"first": func(s string) api.Book { _, out, _ := Sign(b, "m 9", s); return out },
			"Check": func(s string) api.Book { _, out := Check(b, "m 9", s, "x"); return out },
			"taken": func(s string) api.Book {
				issued := copyOf(b)
				issued.Counts = nil
				sig, issued, _ := Sign(issued, "m 2", s)
				with := b
				if ideal {
					with.Issued = issued.Issued
				}
				_, out := Check(with, "m 2", s, sig)
				return out
			},
			"Perm": func(s string) api.Book { _, out := Perm(b, len(s), 5); return out },
			"Lift": func(s string) api.Book { return Lift(b) },
			"New":  func(s string) api.Book { out, _ := New(true, s, b.Shape, b.Cells); return out },
		}
		for name, way := range ways {
			one := way("1")
			kept := copyOf(one)
			way("22")
			way("333")
			alike(t, name, one, kept)
			alike(t, name+" again", way("1"), kept)
			is(t, name+": handed in, and behind its ends, is as it was", as(), true)
		}
		lifted := Lift(b)
		clear(lifted.Cells)
		made, _ := New(true, "", b.Shape, b.Cells)
		clear(made.Cells)
		_, put := Cell(b, "c", 5)
		clear(put.Used)
		_, signed, _ := Sign(b, "m 2", "text")
		clear(signed.Counts)
		clear(signed.Issued)
		_, missed := Check(b, "m 9", "text", "x")
		clear(missed.Missed)
		perm, _ := Perm(b, 0, 5)
		clear(perm)
		is(t, "what was handed in is as it was", as(), true)
	}
}

// Many checks of what holds go on by the key that Cells have, and long lists are gone through but once.
func TestLongThings(t *testing.T) { // R1, P16.5
	begin := time.Now()
	b := begun(t, false, "seed", api.Shape{N: 32, H: 8}, nil)
	sig, b := signed(t, b, "m 1", "text")
	for range 500 {
		is, out := Check(b, "m 1", "text", sig)
		if b = out; !is {
			t.Fatalf("a signature does not hold")
		}
	}
	const n = 1 << 20
	b = api.Book{Ideal: true, Used: make([]api.Cell, n), Cells: make([]api.Cell, n), Shape: api.Shape{N: 2}, Counts: make([]api.Count, n), Issued: make([]api.Issue, n)}
	for i := range b.Used {
		b.Used[i].Name = tape.Dec(i / 2)
		b.Used[i].Bytes = tape.Dec(i)
	}
	s, _ := Cell(b, tape.Dec(n/2-1), 7)
	is(t, "Cell", s, tape.Dec(n-2))
	_, out := Cell(b, "none", 7)
	is(t, "Used", len(out.Used), n+1)
	_, out, err := Sign(b, "m 1", "text")
	is(t, "Sign", err, api.OK)
	is(t, "Issued", len(out.Issued), n+1)
	is(t, "Lift", len(Lift(b).Cells), n)
	if took := time.Since(begin); took > time.Minute {
		t.Errorf("long things took %v", took)
	}
}
