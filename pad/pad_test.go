package pad

import (
	"crypto/ecdh"
	"crypto/hkdf"
	"crypto/sha256"
	"encoding/binary"
	"fmt"
	"math"
	"math/bits"
	"math/rand/v2"
	"slices"
	"strings"
	"testing"
	"time"

	"murmur/api"
	"murmur/book"
	"murmur/ladder"
	"murmur/tape"
)

// anyText is n bytes that follow no simple rule, the same ones for the same seed.
func anyText(n int, seed byte) string {
	out := make([]byte, n)
	rand.NewChaCha8([32]byte{seed}).Read(out)
	return string(out)
}

// turned is s with one bit turned.
func turned(s string, bit int) string {
	out := []byte(s)
	out[bit/8] ^= 1 << (bit % 8)
	return string(out)
}

// numbers is members, epochs and rounds: ordinary ones, and those at the ends.
func numbers() []int {
	return []int{math.MinInt, -1 << 32, -1, 0, 1, 2, 9, 10, 100, 105, 255, 256, 1 << 32, 1<<62 + 1, math.MaxInt}
}

// lengths is how many bytes are asked for: at each end, and past it, and about the ends of a stream's blocks.
func lengths() []int {
	return []int{math.MinInt, -1 << 32, -1, 0, 1, 10, 31, 63, 64, 65, 128, 129, 5999, 6000, 6001, 1 << 20, 1 << 32, math.MaxInt}
}

// is holds what was answered against what is wanted.
func is[T comparable](t *testing.T, what string, got, want T) {
	t.Helper()
	if got != want {
		t.Fatalf("%s: %.200q, want %.200q", what, fmt.Sprint(got), fmt.Sprint(want))
	}
}

// are is the same of lists, of which one that is nil is empty.
func are[T comparable](t *testing.T, what string, got, want []T) {
	t.Helper()
	if !slices.Equal(got, want) {
		t.Fatalf("%s: %.400q, want %.400q", what, fmt.Sprint(got), fmt.Sprint(want))
	}
}

// alike holds all that a book has against another one.
func alike(t *testing.T, what string, got, want api.Book) {
	t.Helper()
	is(t, what+": Ideal", got.Ideal, want.Ideal)
	is(t, what+": Seed", got.Seed, want.Seed)
	is(t, what+": Shape", got.Shape, want.Shape)
	are(t, what+": Cells", got.Cells, want.Cells)
	are(t, what+": Used", got.Used, want.Used)
	are(t, what+": Counts", got.Counts, want.Counts)
	are(t, what+": Issued", got.Issued, want.Issued)
	are(t, what+": Taken", got.Taken, want.Taken)
	are(t, what+": Forged", got.Forged, want.Forged)
	are(t, what+": Missed", got.Missed, want.Missed)
}

// copyOf is the book, with lists of its own of all that pads could hang on.
func copyOf(b api.Book) api.Book {
	b.Cells, b.Used, b.Counts = slices.Clone(b.Cells), slices.Clone(b.Used), slices.Clone(b.Counts)
	b.Issued, b.Taken, b.Forged, b.Missed = slices.Clone(b.Issued), slices.Clone(b.Taken), slices.Clone(b.Forged), slices.Clone(b.Missed)
	return b
}

// seeded is a book of the real mode.
func seeded(seed string) api.Book {
	return api.Book{Seed: seed, Shape: api.Shape{N: 2, H: 1}}
}

// The chapter, read slowly: knownX is what it says of X.

// knownDerive is keys out of keys, by Go's own HKDF.
func knownDerive(key string, n int, l ...string) string {
	info := []byte{}
	for _, s := range l {
		info = append(binary.BigEndian.AppendUint16(info, uint16(len(s))), s...)
	}
	out, err := hkdf.Key(sha256.New, []byte(key), []byte("murmur"), string(info), n)
	if err != nil {
		panic(err)
	}
	return string(out)
}

func knownDec(n int) string {
	return fmt.Sprint(max(0, n))
}

func knownSecret(seed string, client, server, epoch int) string {
	return knownDerive(seed, 32, "pair", knownDec(client), knownDec(server), knownDec(epoch))
}

func knownServer(seed string, server, epoch int) string {
	return knownDerive(seed, 32, "server", knownDec(server), knownDec(epoch))
}

// knownLadder is what a secret shares with another's, by Go's own X25519; false, if it is nought, or either key has not 32 bytes.
func knownLadder(secret, public string) (string, bool) {
	k, err := ecdh.X25519().NewPrivateKey([]byte(secret))
	if err != nil {
		return "", false
	}
	p, err := ecdh.X25519().NewPublicKey([]byte(public))
	if err != nil {
		return "", false
	}
	out, err := k.ECDH(p)
	return string(out), err == nil
}

// knownPublic is a secret's public key.
func knownPublic(secret string) string {
	k, err := ecdh.X25519().NewPrivateKey([]byte(secret))
	if err != nil {
		panic(err)
	}
	return string(k.PublicKey().Bytes())
}

func knownShared(seed string, client, server, epoch int) string {
	out, there := knownLadder(knownSecret(seed, client, server, epoch), knownPublic(knownServer(seed, server, epoch)))
	if !there {
		panic("a weak key")
	}
	return out
}

// knownBlock is the block n of ChaCha20, as RFC 8439 has it.
func knownBlock(key, nonce string, n uint32) []byte {
	text := []byte("expand 32-byte k" + key + "0000" + nonce)
	binary.LittleEndian.PutUint32(text[48:], n)
	var begin [16]uint32
	for i := range begin {
		begin[i] = binary.LittleEndian.Uint32(text[4*i:])
	}
	x := begin
	quarter := func(a, b, c, d int) {
		for _, spin := range [][2]int{{16, 12}, {8, 7}} {
			x[a] += x[b]
			x[d] = bits.RotateLeft32(x[d]^x[a], spin[0])
			x[c] += x[d]
			x[b] = bits.RotateLeft32(x[b]^x[c], spin[1])
		}
	}
	for range 10 {
		quarter(0, 4, 8, 12)
		quarter(1, 5, 9, 13)
		quarter(2, 6, 10, 14)
		quarter(3, 7, 11, 15)
		quarter(0, 5, 10, 15)
		quarter(1, 6, 11, 12)
		quarter(2, 7, 8, 13)
		quarter(3, 4, 9, 14)
	}
	out := []byte{}
	for i := range x {
		out = binary.LittleEndian.AppendUint32(out, x[i]+begin[i])
	}
	return out
}

func knownOf(shared string, round, n int) string {
	nonce := make([]byte, 12)
	if round > 0 {
		binary.BigEndian.PutUint64(nonce[4:], uint64(round))
	}
	key, out := knownDerive(shared, 32, "pad"), []byte{}
	n = min(max(n, 0), 6000)
	for i := 0; len(out) < n; i++ {
		out = append(out, knownBlock(key, string(nonce), uint32(i))...)
	}
	return string(out[:n])
}

func knownGet(l []api.Cell, name string) (string, bool) {
	for _, c := range l {
		if c.Name == name {
			return c.Bytes, true
		}
	}
	return "", false
}

// knownCell is a book's cell, of one that is ideal or has used it.
func knownCell(b api.Book, name string, n int) (string, api.Book) {
	s, used := knownGet(b.Used, name)
	if !used {
		s, _ = knownGet(b.Cells, name)
	}
	n = min(max(n, 0), 6000)
	s = (s + strings.Repeat("\x00", n))[:n]
	if !used {
		b.Used = append(b.Used, api.Cell{Name: name, Bytes: s})
	}
	return s, b
}

func knownPad(b api.Book, pair [2]int, epoch, round, n int) (string, api.Book) {
	b = copyOf(b)
	up := "pad " + knownDec(pair[0]) + " " + knownDec(pair[1]) + " " + knownDec(epoch)
	name := up + " " + knownDec(round)
	if _, used := knownGet(b.Used, name); used || b.Ideal {
		return knownCell(b, name, n)
	}
	shared, there := knownGet(b.Cells, "shared "+up)
	if !there {
		shared = knownShared(b.Seed, pair[0], pair[1], epoch)
		b.Cells = append(b.Cells, api.Cell{Name: "shared " + up, Bytes: shared})
	}
	s := knownOf(shared, round, n)
	b.Used = append(b.Used, api.Cell{Name: name, Bytes: s})
	return s, b
}

// asksPad is Pad, held against the chapter, and what was handed in is as it was.
func asksPad(t *testing.T, b api.Book, pair [2]int, epoch, round, n int) (string, api.Book) {
	t.Helper()
	was := copyOf(b)
	what := fmt.Sprint("Pad ", pair, epoch, round, n)
	want, wanted := knownPad(b, pair, epoch, round, n)
	got, out := Pad(b, pair, epoch, round, n)
	is(t, what, got, want)
	alike(t, what, out, wanted)
	alike(t, what+": handed in", b, was)
	return got, out
}

func TestSecret(t *testing.T) { // P17.1
	for _, seed := range []string{"", "seed", anyText(64, 1), anyText(65, 2), anyText(1000, 3)} {
		b := seeded(seed)
		ideal := b
		ideal.Ideal = true
		for _, c := range numbers() {
			for _, s := range numbers() {
				is(t, fmt.Sprint("Server ", c, s), Server(b, c, s), knownServer(seed, c, s))
				is(t, fmt.Sprint("Server of the other mode ", c, s), Server(ideal, c, s), knownServer(seed, c, s))
				for _, e := range []int{math.MinInt, -1, 0, 1, 12, math.MaxInt} {
					is(t, fmt.Sprint("Secret ", c, s, e), Secret(b, c, s, e), knownSecret(seed, c, s, e))
				}
			}
		}
		is(t, "Secret of the other mode", Secret(ideal, 100, 1, 2), knownSecret(seed, 100, 1, 2))
	}
}

// Whoever is another one, or of another epoch or seed, has another secret.
func TestSecretsDiffer(t *testing.T) { // P17.1
	met := map[string]bool{}
	many := 0
	for _, seed := range []string{"seed", "seee"} {
		b := seeded(seed)
		for c := range 13 {
			for s := range 13 {
				met[Server(b, c, s)] = true
				many++
				for e := range 13 {
					met[Secret(b, c, s, e)] = true
					many++
				}
			}
		}
	}
	is(t, "secrets that differ", len(met), many)
	b := seeded("seed")
	is(t, "a secret's bytes", len(Secret(b, 100, 0, 0)), 32)
	is(t, "a server's secret's bytes", len(Server(b, 0, 0)), 32)
	is(t, "what else a book has", Secret(api.Book{Seed: "seed", Ideal: true, Cells: []api.Cell{{Name: "pair"}}}, 1, 2, 3), Secret(b, 1, 2, 3))
}

func TestShared(t *testing.T) { // P17.2
	for _, seed := range []string{"", "seed", anyText(1000, 1)} {
		b := seeded(seed)
		for _, c := range []int{math.MinInt, 0, 100, 105, math.MaxInt} {
			for _, s := range []int{-1, 0, 3, math.MaxInt} {
				for _, e := range []int{math.MinInt, 0, 1, math.MaxInt} {
					what := fmt.Sprint("Shared ", c, s, e)
					got := Shared(b, c, s, e)
					is(t, what, got, knownShared(seed, c, s, e))
					mine, err := ladder.Public(Secret(b, c, s, e))
					is(t, what+": the public key", err, api.OK)
					theirs, err := ladder.Shared(Server(b, s, e), mine)
					is(t, what+": the server's error", err, api.OK)
					is(t, what+" of the server", theirs, got)
				}
			}
		}
	}
}

// A book's cells make no difference to what two share, nor does its mode.
func TestSharedOfASeedAlone(t *testing.T) { // P17.2
	b := seeded("seed")
	want := knownShared("seed", 100, 1, 2)
	b.Ideal = true
	b.Cells = []api.Cell{{Name: "shared pad 100 1 2", Bytes: "cells"}}
	b.Used = []api.Cell{{Name: "shared pad 100 1 2", Bytes: "used"}}
	is(t, "Shared", Shared(b, 100, 1, 2), want)
	b.Ideal = false
	is(t, "Shared", Shared(b, 100, 1, 2), want)
}

func TestOf(t *testing.T) { // P17.3, P17.7
	for _, shared := range []string{"", "s", anyText(32, 1), anyText(64, 2), anyText(65, 3), anyText(7000, 4)} {
		for _, round := range numbers() {
			whole := knownOf(shared, round, 6000)
			for _, n := range lengths() {
				want := whole[:min(max(n, 0), 6000)]
				is(t, fmt.Sprintf("Of %.9q %d %d", shared, round, n), Of(shared, round, n), want)
			}
		}
	}
}

// Each length but for the longest ones, and each bit of what is shared.
func TestOfEachLength(t *testing.T) { // P17.3, P17.7
	shared := anyText(32, 1)
	whole := knownOf(shared, 7, 700)
	for n := range 701 {
		is(t, fmt.Sprint("Of ", n), Of(shared, 7, n), whole[:n])
	}
	met := map[string]bool{Of(shared, 7, 32): true}
	for bit := range 8 * 32 {
		met[Of(turned(shared, bit), 7, 32)] = true
	}
	for round := range 1000 {
		met[Of(shared, round, 32)] = true
	}
	is(t, "pads that differ", len(met), 256+1000)
}

func TestPadOfATape(t *testing.T) { // P17.4, P17.7
	l := []api.Cell{{Name: "pad 100 1 0 7", Bytes: "first"}, {Name: "pad 100 1 0 7", Bytes: "second"}, {Name: "pad 1 100 0 7", Bytes: "turned"}, {Name: "shared pad 100 1 0", Bytes: anyText(32, 1)}, {Name: "pad 0 0 0 0", Bytes: "noughts"}, {Name: "pad 105 3 1 2", Bytes: anyText(7000, 2)}}
	b, err := book.New(true, "seed", api.Shape{N: 2}, l)
	is(t, "the error of New", err, api.OK)
	for _, c := range []struct {
		pair     [2]int
		at       [2]int
		n        int
		want, by string
	}{
		{[2]int{100, 1}, [2]int{0, 7}, 4, "firs", "pad 100 1 0 7"}, {[2]int{100, 1}, [2]int{0, 7}, 7, "first\x00\x00", "pad 100 1 0 7"}, {[2]int{1, 100}, [2]int{0, 7}, 6, "turned", "pad 1 100 0 7"},
		{[2]int{100, 1}, [2]int{7, 0}, 2, "\x00\x00", "pad 100 1 7 0"}, {[2]int{100, 1}, [2]int{0, 8}, 2, "\x00\x00", "pad 100 1 0 8"}, {[2]int{100, 2}, [2]int{0, 7}, 0, "", "pad 100 2 0 7"},
		{[2]int{-1, math.MinInt}, [2]int{-2, -3}, 7, "noughts", "pad 0 0 0 0"}, {[2]int{105, 3}, [2]int{1, 2}, 6001, anyText(7000, 2)[:6000], "pad 105 3 1 2"},
	} {
		got, out := asksPad(t, b, c.pair, c.at[0], c.at[1], c.n)
		is(t, "Pad "+c.by, got, c.want)
		are(t, "Used", out.Used, []api.Cell{{Name: c.by, Bytes: c.want}})
		are(t, "Cells", out.Cells, l)
		for _, n := range lengths() {
			asksPad(t, b, c.pair, c.at[0], c.at[1], n)
			got, again := asksPad(t, out, c.pair, c.at[0], c.at[1], n)
			is(t, "a pad that was used", got, tape.Fit(c.want, n))
			alike(t, "a book asked again", again, out)
		}
	}
}

func TestPadOfASeed(t *testing.T) { // P17.4, P17.6, P17.7
	for _, seed := range []string{"", "seed", anyText(100, 1)} {
		b := seeded(seed)
		b.Cells = []api.Cell{{Name: "pad 100 1 0 7", Bytes: "not of the seed"}}
		shared := knownShared(seed, 100, 1, 0)
		for _, n := range lengths() {
			got, out := asksPad(t, b, [2]int{100, 1}, 0, 7, n)
			is(t, "Pad", got, knownOf(shared, 7, n))
			are(t, "Used", out.Used, []api.Cell{{Name: "pad 100 1 0 7", Bytes: got}})
			are(t, "Cells", out.Cells, append(slices.Clone(b.Cells), api.Cell{Name: "shared pad 100 1 0", Bytes: shared}))
			again, behind := asksPad(t, out, [2]int{100, 1}, 0, 7, n)
			is(t, "Pad again", again, got)
			alike(t, "a book asked again", behind, out)
			for _, m := range []int{-1, 0, 5, 64, 100, 6001} {
				asked, behind := asksPad(t, out, [2]int{100, 1}, 0, 7, m)
				is(t, "a pad that was used", asked, tape.Fit(got, m))
				alike(t, "a book asked again", behind, out)
			}
		}
	}
}

// What two share is kept for all rounds of an epoch, and for no other epoch or pair.
func TestSharedIsKept(t *testing.T) { // P17.4
	b := seeded("seed")
	for _, round := range []int{3, 0, 5, -1, math.MaxInt, 30, 3} {
		_, b = asksPad(t, b, [2]int{100, 0}, 1, round, 8)
		are(t, "Cells", b.Cells, []api.Cell{{Name: "shared pad 100 0 1", Bytes: knownShared("seed", 100, 0, 1)}})
	}
	names := []string{}
	for _, c := range b.Used {
		names = append(names, c.Name)
	}
	are(t, "Used", names, []string{"pad 100 0 1 3", "pad 100 0 1 0", "pad 100 0 1 5", "pad 100 0 1 9223372036854775807", "pad 100 0 1 30"})
	many := 1
	for _, c := range []struct {
		pair  [2]int
		epoch int
		many  int
	}{{[2]int{100, 0}, 2, 1}, {[2]int{100, 1}, 1, 1}, {[2]int{101, 0}, 1, 1}, {[2]int{10, 0}, 1, 1}, {[2]int{0, 100}, 1, 1}, {[2]int{100, 0}, 1, 0}, {[2]int{0, 0}, 0, 1}, {[2]int{math.MinInt, -1}, -5, 0}} {
		_, b = asksPad(t, b, c.pair, c.epoch, 3, 8)
		many += c.many
		is(t, fmt.Sprint("Cells behind ", c), len(b.Cells), many)
	}
}

// What Cells have by that name is taken, whatever it is: the first one.
func TestSharedIsTaken(t *testing.T) { // P17.4
	for _, shared := range []string{"", "x", anyText(32, 1), strings.Repeat("\x00", 32), anyText(7000, 2)} {
		b := seeded("seed")
		b.Cells = []api.Cell{{Name: "shared pad 100 1 01"}, {Name: "shared pad 100 1 0 ", Bytes: "blank"}, {Name: "shared pad 100 1 0", Bytes: shared}, {Name: "shared pad 100 1 0", Bytes: "other"}, {Name: "shared pad 100 1 0 7", Bytes: "round"}}
		for _, round := range []int{7, 0, -1} {
			got, out := asksPad(t, b, [2]int{100, 1}, 0, round, 40)
			is(t, "Pad", got, knownOf(shared, round, 40))
			are(t, "Cells", out.Cells, b.Cells)
		}
		// Used is not where it is kept.
		b.Used, b.Cells = b.Cells, nil
		got, out := asksPad(t, b, [2]int{100, 1}, 0, 7, 40)
		is(t, "Pad", got, knownOf(knownShared("seed", 100, 1, 0), 7, 40))
		is(t, "Cells", len(out.Cells), 1)
	}
}

// A pad that was used is answered, without anything being shared for it.
func TestPadThatWasUsed(t *testing.T) { // P17.4
	used := []api.Cell{{Name: "pad 100 1 0 70"}, {Name: "pad 100 1 0 7", Bytes: "used"}, {Name: "pad 100 1 0 7", Bytes: "later"}, {Name: "pad 0 0 0 0"}}
	for _, ideal := range []bool{false, true} {
		b := seeded("seed")
		b.Ideal, b.Used, b.Cells = ideal, used, []api.Cell{{Name: "pad 100 1 0 7", Bytes: "cells"}, {Name: "shared pad 100 1 0", Bytes: "cells"}}
		for _, n := range lengths() {
			got, out := asksPad(t, b, [2]int{100, 1}, 0, 7, n)
			is(t, "Pad", got, tape.Fit("used", n))
			alike(t, "the book", out, b)
			got, out = asksPad(t, b, [2]int{-100, 0}, -1, math.MinInt, n)
			is(t, "Pad", got, tape.Fit("", n))
			alike(t, "the book", out, b)
		}
	}
}

// weak is public keys with which nothing can be shared, their highest bit set or not.
func weak() []string {
	nought, one := strings.Repeat("\x00", 32), "\x01"+strings.Repeat("\x00", 31)
	p := "\xed" + strings.Repeat("\xff", 30) + "\x7f"
	eight := "\xe0\xeb\x7a\x7c\x3b\x41\xb8\xae\x16\x56\xe3\xfa\xf1\x9f\xc4\x6a\xda\x09\x8d\xeb\x9c\x32\xb1\xfd\x86\x62\x05\x16\x5f\x49\xb8\x00"
	out := []string{nought, one, p, "\xec" + p[1:], "\xee" + p[1:], eight}
	for _, s := range slices.Clone(out) {
		out = append(out, turned(s, 255))
	}
	return out
}

func TestReveal(t *testing.T) { // P17.5
	secret, public := anyText(32, 1), knownPublic(anyText(32, 2))
	wrong := []string{"", "x", secret[:31], secret + "\x00", anyText(64, 3), anyText(7000, 4)}
	for _, n := range []int{math.MinInt, -1, 0, 10, 6000, 6001, math.MaxInt} {
		for _, round := range numbers() {
			shared, there := knownLadder(secret, public)
			is(t, "a shared secret", there, true)
			got, err := Reveal(secret, public, round, n)
			is(t, "the error of Reveal", err, api.OK)
			is(t, fmt.Sprint("Reveal ", round, n), got, knownOf(shared, round, n))
		}
		for _, x := range wrong {
			for _, y := range append(append([]string{secret, public}, wrong...), weak()...) {
				got, err := Reveal(x, y, 1, n)
				is(t, "the error of Reveal of a wrong secret", err, api.ErrArg)
				is(t, "Reveal of a wrong secret", got, "")
			}
			got, err := Reveal(secret, x, 1, n)
			is(t, "the error of Reveal of a wrong public key", err, api.ErrArg)
			is(t, "Reveal of a wrong public key", got, "")
		}
		for _, x := range weak() {
			got, err := Reveal(secret, x, 1, n)
			is(t, "the error of Reveal of a weak public key", err, api.ErrZero)
			is(t, "Reveal of a weak public key", got, "")
		}
	}
}

// Client and server, each with its own secret and the other's public key, reveal just the pad that the book has.
func TestRevealOfAPad(t *testing.T) { // P17.5, P17.6
	b := seeded("seed")
	for _, pair := range [][2]int{{100, 0}, {105, 3}, {0, 0}, {-1, math.MaxInt}} {
		for epoch := range 3 {
			mine, theirs := Secret(b, pair[0], pair[1], epoch), Server(b, pair[1], epoch)
			for _, round := range []int{-1, 0, 1, 5, math.MaxInt} {
				for _, n := range []int{-1, 0, 1, 100} {
					want, _ := asksPad(t, b, pair, epoch, round, n)
					is(t, "Of", Of(Shared(b, pair[0], pair[1], epoch), round, n), want)
					got, err := Reveal(mine, knownPublic(theirs), round, n)
					is(t, "the client's error", err, api.OK)
					is(t, "the client's pad", got, want)
					got, err = Reveal(theirs, knownPublic(mine), round, n)
					is(t, "the server's error", err, api.OK)
					is(t, "the server's pad", got, want)
				}
			}
		}
	}
}

// In whatever order they are asked for, and whatever else a book was asked for, pads are the same, and all of them unlike.
func TestPadsInAnyOrder(t *testing.T) { // P17.4, P17.6
	type which struct {
		pair         [2]int
		epoch, round int
	}
	all := []which{}
	for c := range 3 {
		for s := range 2 {
			for e := range 2 {
				for r := range 3 {
					all = append(all, which{[2]int{api.Base + c, s}, e, r})
				}
			}
		}
	}
	src := rand.New(rand.NewPCG(1, 2))
	first, texts := map[which]string{}, map[string]bool{}
	for try := range 8 {
		b := seeded("seed")
		if try%2 == 1 {
			_, b = book.Cell(b, "pad", 5)
			_, b = book.Perm(b, 0, 3)
		}
		src.Shuffle(len(all), func(i, j int) { all[i], all[j] = all[j], all[i] })
		for range 2 {
			for _, x := range all {
				s, out := asksPad(t, b, x.pair, x.epoch, x.round, 20)
				b = out
				if try == 0 {
					first[x], texts[s] = s, true
				}
				is(t, fmt.Sprint("the pad of ", x), s, first[x])
			}
		}
		is(t, "Used", len(b.Used), len(all)+2*(try%2))
		is(t, "Cells", len(b.Cells), 3*2*2)
	}
	is(t, "pads that differ", len(texts), len(all))
}

// Behind book.Lift the pads are the same.
func TestPadsBehindLift(t *testing.T) { // P17.4, P17.6
	real := seeded("seed")
	pads := []string{}
	for round := range 5 {
		s := ""
		s, real = asksPad(t, real, [2]int{100, 1}, 0, round, 10+round)
		pads = append(pads, s)
	}
	ideal := book.Lift(real)
	for round := range 5 {
		s := ""
		s, ideal = asksPad(t, ideal, [2]int{100, 1}, 0, round, 10+round)
		is(t, "a pad of the tape", s, pads[round])
	}
	are(t, "Used", ideal.Used, real.Used)
}

// anyBook is a book with any few things among its cells, many of them twice.
func anyBook(src *rand.Rand) api.Book {
	names := []string{"pad 100 0 0 0", "pad 100 0 0 1", "pad 101 0 0 0", "pad 100 1 0 0", "pad 100 0 1 0", "shared pad 100 0 0", "shared pad 101 0 0", "shared pad 100 1 0", "shared pad 100 0 1", "shared ", ""}
	cells := func() []api.Cell {
		out := make([]api.Cell, src.IntN(7))
		for i := range out {
			out[i] = api.Cell{Name: names[src.IntN(len(names))], Bytes: anyText(src.IntN(40), byte(src.IntN(4)))}
		}
		return out
	}
	b := api.Book{Ideal: src.IntN(3) == 0, Seed: anyText(2, byte(src.IntN(2))), Shape: api.Shape{N: src.IntN(3), H: src.IntN(3)}, Cells: cells(), Used: cells()}
	b.Counts = []api.Count{{Who: "m 1", N: src.IntN(3)}}
	b.Issued, b.Taken = []api.Issue{{Who: "m 1"}}, []api.Issue{{Who: "m 2"}}
	b.Forged, b.Missed = []api.Issue{{Who: "m 3"}}, []api.Issue{{Who: "m 4"}}
	return b
}

func TestAnyBooks(t *testing.T) { // P17.4, R1
	src := rand.New(rand.NewPCG(3, 4))
	for range 800 {
		b := anyBook(src)
		for range 5 {
			_, b = asksPad(t, b, [2]int{100 + src.IntN(2), src.IntN(3) - 1}, src.IntN(3)-1, src.IntN(4)-1, src.IntN(80)-2)
		}
	}
}

// Nothing that is handed in is changed, nor what lies behind a list's end; and books that came of one do not change each other.
func TestMemory(t *testing.T) { // R3, R4
	for _, ideal := range []bool{false, true} {
		behind := api.Cell{Name: "behind"}
		cells := []api.Cell{{Name: "a", Bytes: "cells"}, {Name: "shared pad 100 2 0", Bytes: "shared"}, behind, behind}
		used := []api.Cell{{Name: "b", Bytes: "used"}, {Name: "pad 100 3 0 0", Bytes: "pad"}, behind, behind}
		cellsWere, usedWere := slices.Clone(cells), slices.Clone(used)
		b := seeded("seed")
		b.Ideal, b.Cells, b.Used = ideal, cells[:2], used[:2]
		for server := range 4 {
			_, one := Pad(b, [2]int{100, server}, 0, 0, 9)
			kept := copyOf(one)
			Pad(b, [2]int{101, server}, 0, 0, 9)
			Pad(one, [2]int{101, server}, 0, 1, 9)
			alike(t, "a book", one, kept)
			_, again := Pad(b, [2]int{100, server}, 0, 0, 9)
			alike(t, "a book made again", again, kept)
			Secret(one, 100, server, 0)
			Server(one, server, 0)
			Shared(one, 100, server, 0)
			alike(t, "a book", one, kept)
			are(t, "Cells, and what lies behind them", cells, cellsWere)
			are(t, "Used, and what lies behind", used, usedWere)
		}
		_, put := Pad(b, [2]int{100, 0}, 0, 0, 9)
		clear(put.Used)
		are(t, "Used, and what lies behind", used, usedWere)
		if !ideal {
			clear(put.Cells)
		}
		are(t, "Cells, and what lies behind them", cells, cellsWere)
	}
}

// A ladder is climbed once for all rounds of an epoch, and long lists are gone through.
func TestLongThings(t *testing.T) { // R1, P17.4
	begin := time.Now()
	b := seeded("seed")
	for round := range 1500 {
		_, b = Pad(b, [2]int{100, 0}, 0, round, 100)
	}
	is(t, "Used", len(b.Used), 1500)
	is(t, "Cells", len(b.Cells), 1)
	const n = 1 << 20
	b.Cells, b.Used = make([]api.Cell, n), make([]api.Cell, n)
	for _, ideal := range []bool{false, true} {
		b.Ideal = ideal
		_, out := Pad(b, [2]int{100, 0}, 0, 7, 100)
		// Cells and cells that were used without a name are other ones.
		is(t, "Used", len(out.Used), n+1)
	}
	b.Seed = strings.Repeat("seed", n)
	is(t, "Secret", len(Secret(b, 1, 2, 3)), 32)
	is(t, "Of", len(Of(b.Seed, 1, 6000)), 6000)
	if took := time.Since(begin); took > time.Minute {
		t.Errorf("long things took %v", took)
	}
}
