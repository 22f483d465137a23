package stamp

import (
	"crypto/hkdf"
	"crypto/sha256"
	"encoding/binary"
	"encoding/hex"
	"math"
	"math/rand/v2"
	"strings"
	"testing"

	"murmur/api"
	"murmur/chains"
	"murmur/grove"
)

// anyText is n bytes that follow no simple rule, the same ones for the same seed.
func anyText(n int, seed byte) string {
	out := make([]byte, n)
	rand.NewChaCha8([32]byte{seed}).Read(out)
	return string(out)
}

// turned is s with one bit turned.
func turned(s string, bit int) string {
	out := []byte(s)
	out[bit/8] ^= 1 << (bit % 8)
	return string(out)
}

// rightShapes is shapes at the ends and in between, with whose leaves all can be signed in no long time.
func rightShapes() []api.Shape {
	return []api.Shape{{N: 2}, {N: 2, H: 1}, {N: 3, H: 2}, {N: 4, H: 3}, {N: 8, H: 2}, {N: 16, H: 1}, {N: 31, H: 1}, {N: 32}, {N: 32, H: 2}}
}

// wrongShapes is shapes with one number or both past an end.
func wrongShapes() []api.Shape {
	return []api.Shape{
		{}, {N: 1}, {N: 1, H: 8}, {N: 33}, {N: 33, H: 4}, {N: -2}, {N: math.MinInt}, {N: math.MaxInt},
		{N: 2, H: -1}, {N: 2, H: 9}, {N: 16, H: -1}, {N: 32, H: 9}, {N: 16, H: 64}, {N: 16, H: math.MinInt}, {N: 16, H: math.MaxInt},
		{N: 1, H: -1}, {N: 33, H: 9}, {N: math.MaxInt, H: math.MaxInt}, {N: 0, H: 8}, {H: -1},
	}
}

// seeds is seeds of all kinds of length.
func seeds() []string {
	return []string{"", "seed", "signer", "\x00", anyText(32, 1), anyText(64, 2), anyText(65, 3), anyText(200, 4), anyText(201, 5), anyText(1000, 6)}
}

// texts is texts of all kinds of length.
func texts() []string {
	return []string{"", "\x00", "text", "told", anyText(8, 7), anyText(63, 8), anyText(64, 9), anyText(6000, 10)}
}

// knownParts is the digest of parts, by Go's own SHA-256.
func knownParts(parts ...string) string {
	all := []byte{}
	for _, s := range parts {
		all = append(binary.BigEndian.AppendUint32(all, uint32(len(s))), s...)
	}
	sum := sha256.Sum256(all)
	return string(sum[:])
}

// knownDerive is n bytes that are derived of the key for just this, by Go's own HKDF.
func knownDerive(t *testing.T, key string, n int, what string) string {
	t.Helper()
	out, err := hkdf.Key(sha256.New, []byte(key), []byte("murmur"), two(len(what))+what, n)
	if err != nil {
		t.Fatal(err)
	}
	return string(out)
}

// two is the lowest 2 bytes of n, the highest first.
func two(n int) string {
	return string(binary.BigEndian.AppendUint16(nil, uint16(n)))
}

// knownTold is what a leaf signs of a text.
func knownTold(p api.Shape, room string, leaf int, msg string) string {
	return knownParts("told", room, two(leaf), msg)[:p.N]
}

// knownSign is the signature that the leaf Next makes.
func knownSign(t *testing.T, s api.Signer, msg string) string {
	t.Helper()
	room := knownDerive(t, s.Seed, 8, "room")
	told := knownTold(s.Shape, room, s.Next, msg)
	return two(s.Next) + chains.Sign(s.Shape, s.Seed, room, s.Next, told) + grove.Path(s.Shape, s.Seed, room, s.Next)
}

// knownPublic is the public key by which the signature is taken, whatever bytes it has, if its leaf is one of the tree.
func knownPublic(p api.Shape, room, msg, sig string) string {
	leaf, pathAt := int(sig[0])*256+int(sig[1]), 2+p.N*chains.Count(p)
	found := chains.Found(p, room, leaf, sig[2:pathAt], knownTold(p, room, leaf, msg))
	return room + grove.Climb(p, room, leaf, found, sig[pathAt:])
}

// knownKept is a head of those bytes and that Seed, and its tag.
func knownKept(ahead []byte, seed string) string {
	head := string(ahead) + seed
	return head + knownParts("keep", head)[:4]
}

// headOf is the bytes of a head that lie ahead of the Seed.
func headOf(s api.Signer) []byte {
	return []byte{byte(s.Shape.N), byte(s.Shape.H), byte(s.Next >> 8), byte(s.Next), byte(len(s.Seed))}
}

// says holds an answer against what is wanted.
func says[T comparable](t *testing.T, what string, got, want T) {
	t.Helper()
	if got != want {
		t.Errorf("%s: %#v, want %#v", what, got, want)
	}
}

// made is the signer of a shape that is right.
func made(t *testing.T, p api.Shape, seed string) api.Signer {
	t.Helper()
	s, err := Make(p, seed)
	says(t, "the error of Make", err, api.OK)
	return s
}

// signed is a signature that can be made, and the signer behind it.
func signed(t *testing.T, s api.Signer, msg string) (string, api.Signer) {
	t.Helper()
	sig, used, err := Sign(s, msg)
	says(t, "the error of Sign", err, api.OK)
	return sig, used
}

// at is the signer with so many leaves used.
func at(s api.Signer, next int) api.Signer {
	s.Next = next
	return s
}

// What another program, with another SHA-256 and HMAC, came to.
func TestKnownOnes(t *testing.T) { // P9.1, P9.2, P9.3, P9.5, P9.7
	for _, c := range []struct {
		p            api.Shape
		next         int
		seed, msg    string
		made, public string
		long         int
		sigSum, kept string
	}{
		{api.Shape{N: 2}, 0, "seed", "text", "a4d6c2d3b3e1fdb9cdd96ace23a038b9ab8b543268366bbae234a6f0c961a172", "5afde22121a4f227af2a",
			16, "d8d0b2e9a35b4e315cb7ee35a19897943e2d42279fd78f4b55850065d52dd268", "0200000020a4d6c2d3b3e1fdb9cdd96ace23a038b9ab8b543268366bbae234a6f0c961a1721712457f"},
		{api.Shape{N: 2, H: 1}, 1, "", "", "cd33d4db0fb37ddb61169d24c761ff60e63f8303756f805fc57e9422f976f682", "948aaa00bba7d82e87fd",
			18, "19a79da916d505a07daf3ad17e6a8f8d297ac6f6ba4a5dd00b64266a3fe5444a", "0201000120cd33d4db0fb37ddb61169d24c761ff60e63f8303756f805fc57e9422f976f682855d278d"},
		{api.Shape{N: 8, H: 2}, 2, "seed", "text", "a4d6c2d3b3e1fdb9cdd96ace23a038b9ab8b543268366bbae234a6f0c961a172", "5afde22121a4f227b0a69adaa5520416",
			170, "81e225e665de14d8934f299e4ff4f81fd9a57ab038b265d8917cc4fd5ca14b73", "0802000220a4d6c2d3b3e1fdb9cdd96ace23a038b9ab8b543268366bbae234a6f0c961a1724c45c1eb"},
		{api.Shape{N: 16, H: 3}, 5, strings.Repeat("a longer seed", 9), strings.Repeat("a text", 40), "bd938ceb9f16fd1c2debe5b9f1de27d87cc518b3ee42bb4ed57fe4956364b40f", "59cc60a171461954ee7a4d2629fbc56ed88a2da7686ca5dc",
			610, "62cf7b49aaa50e7ab97981299ca5f7ad9c8c9f8a976fb5fb23a3ff0e9679795c", "1003000520bd938ceb9f16fd1c2debe5b9f1de27d87cc518b3ee42bb4ed57fe4956364b40f7063c47b"},
		{api.Shape{N: 32, H: 8}, 200, "seed", "text", "a4d6c2d3b3e1fdb9cdd96ace23a038b9ab8b543268366bbae234a6f0c961a172", "5afde22121a4f2273eb902c727c81ac7558cb7a3c8e56ccb77c32b6079218386d6e600a58d3468f3",
			2402, "d7ac7acd862ca48aec89f1a0810d72774028fa0163a2cbb3895e7eabb45e5e12", "200800c820a4d6c2d3b3e1fdb9cdd96ace23a038b9ab8b543268366bbae234a6f0c961a17244bb9bd6"},
	} {
		s := at(made(t, c.p, c.seed), c.next)
		says(t, "the Seed", hex.EncodeToString([]byte(s.Seed)), c.made)
		says(t, "Public", hex.EncodeToString([]byte(Public(s))), c.public)
		sig, _ := signed(t, s, c.msg)
		sum := sha256.Sum256([]byte(sig))
		says(t, "the digest of Sign", hex.EncodeToString(sum[:]), c.sigSum)
		says(t, "the bytes of Sign", len(sig), c.long)
		says(t, "Long", Long(c.p), c.long)
		says(t, "Check", Check(c.p, Public(s), c.msg, sig), true)
		kept, err := Keep(s)
		says(t, "Keep", hex.EncodeToString([]byte(kept)), c.kept)
		says(t, "the error of Keep", err, api.OK)
	}
}

func TestMake(t *testing.T) { // P9.1
	for _, p := range append(rightShapes(), api.Shape{N: 2, H: 8}, api.Shape{N: 32, H: 8}) {
		for _, seed := range seeds() {
			says(t, "Make", made(t, p, seed), api.Signer{Shape: p, Seed: knownDerive(t, seed, 32, "signer")})
		}
	}
	for _, p := range wrongShapes() {
		s, err := Make(p, "seed")
		says(t, "Make of a wrong shape", s, api.Signer{})
		says(t, "the error of Make", err, api.ErrArg)
	}
}

func TestPublic(t *testing.T) { // P9.2
	for _, p := range rightShapes() {
		for _, seed := range seeds() {
			room := knownDerive(t, seed, 8, "room")
			want := room + grove.Node(p, seed, room, [2]int{p.H, 0})
			says(t, "the bytes of a public key", len(want), 8+p.N)
			for _, next := range []int{0, 1, 1 << p.H, 1<<p.H + 1, -1, math.MinInt, math.MaxInt} {
				if s := (api.Signer{Shape: p, Seed: seed, Next: next}); p.N < 16 || next == 0 {
					says(t, "Public", Public(s), want)
				}
			}
		}
	}
	for _, p := range wrongShapes() {
		says(t, "Public of a wrong shape", Public(api.Signer{Shape: p, Seed: "seed"}), "")
	}
}

func TestLong(t *testing.T) { // P9.3
	for n := 2; n <= 32; n++ {
		for h := range 9 {
			says(t, "Long", Long(api.Shape{N: n, H: h}), 2+n*(2*n+3+h))
		}
	}
	for _, p := range wrongShapes() {
		says(t, "Long of a wrong shape", Long(p), 0)
	}
}

func TestLeft(t *testing.T) { // P9.4
	for h := range 9 {
		s, all := api.Signer{Shape: api.Shape{N: 2, H: h}}, 1<<h
		for next := range all + 1 {
			says(t, "Left", Left(at(s, next)), all-next)
		}
		for _, next := range []int{all + 1, all + 2, 2*all + 1, 300, 1 << 16, 1 << 32, math.MaxInt, -1, -2, -all, -300, math.MinInt, math.MinInt + all} {
			says(t, "Left of a wrong Next", Left(at(s, next)), 0)
		}
	}
	for _, p := range wrongShapes() {
		for _, next := range []int{0, 1, -1, 255, math.MinInt, math.MaxInt} {
			says(t, "Left of a wrong shape", Left(api.Signer{Shape: p, Next: next}), 0)
		}
	}
}

func TestSign(t *testing.T) { // P9.5
	for _, p := range rightShapes() {
		for leaf := range 1 << p.H {
			s := at(made(t, p, "seed"), leaf)
			for i, msg := range texts() {
				if i > 2 && p.N > 8 {
					break
				}
				sig, used := signed(t, s, msg)
				says(t, "Sign", sig, knownSign(t, s, msg))
				says(t, "the bytes of Sign", len(sig), Long(p))
				says(t, "the signer behind it", used, at(s, leaf+1))
			}
		}
	}
	for _, seed := range seeds() {
		s := api.Signer{Shape: api.Shape{N: 5, H: 2}, Seed: seed, Next: 3}
		sig, used := signed(t, s, "text")
		says(t, "Sign", sig, knownSign(t, s, "text"))
		says(t, "the signer behind it", used, at(s, 4))
	}
	s := at(made(t, api.Shape{N: 2, H: 8}, "seed"), 255)
	sig, used := signed(t, s, "text")
	says(t, "Sign by the last leaf of the greatest tree", sig, knownSign(t, s, "text"))
	says(t, "the signer behind it", used, at(s, 256))
}

func TestSignThatMayNot(t *testing.T) { // P9.5
	refused := func(s api.Signer, want api.Errno) {
		t.Helper()
		sig, used, err := Sign(s, "text")
		says(t, "Sign", sig, "")
		says(t, "the signer", used, s)
		says(t, "the error of Sign", err, want)
	}
	for _, p := range wrongShapes() {
		for _, next := range []int{0, 1, -1, 300, math.MinInt, math.MaxInt} {
			refused(api.Signer{Shape: p, Seed: "seed", Next: next}, api.ErrArg)
		}
	}
	for h := range 9 {
		s, all := api.Signer{Shape: api.Shape{N: 3, H: h}, Seed: "seed"}, 1<<h
		for _, next := range []int{-1, -2, -all, -256, -1 << 16, math.MinInt} {
			refused(at(s, next), api.ErrArg)
		}
		for _, next := range []int{all, all + 1, 2 * all, 256, 1 << 16, 1 << 32, math.MaxInt} {
			refused(at(s, next), api.ErrSpent)
		}
	}
}

// A signature of any bytes is taken by the public key that comes of it, by no other.
func TestCheck(t *testing.T) { // P9.6
	for i, p := range append(rightShapes(), api.Shape{N: 2, H: 8}) {
		for leaf := range 1 << p.H {
			for j, msg := range texts() {
				room, any := anyText(8, byte(i+j)), anyText(Long(p)-2, byte(leaf+j))
				sig := two(leaf) + any
				public := knownPublic(p, room, msg, sig)
				says(t, "Check", Check(p, public, msg, sig), true)
				says(t, "Check by another root", Check(p, turned(public, 8*len(public)-1), msg, sig), false)
				if p.H == 8 {
					break
				}
			}
		}
	}
}

func TestCheckOfOthers(t *testing.T) { // P9.6
	p := api.Shape{N: 8, H: 2}
	s := at(made(t, p, "seed"), 1)
	public := Public(s)
	sig, _ := signed(t, s, "text")
	says(t, "Check", Check(p, public, "text", sig), true)
	for bit := range 8 * len(sig) {
		says(t, "Check of another signature", Check(p, public, "text", turned(sig, bit)), false)
	}
	for bit := range 8 * len(public) {
		says(t, "Check by another public key", Check(p, turned(public, bit), "text", sig), false)
	}
	for _, msg := range []string{"", "tex", "texts", "Text", "text\x00", "\x00text", sig} {
		says(t, "Check of another text", Check(p, public, msg, sig), false)
	}
	other, _ := signed(t, at(made(t, p, "another"), 1), "text")
	says(t, "Check of another one's signature", Check(p, public, "text", other), false)
	for leaf := range 300 {
		if leaf != 1 {
			says(t, "Check by another leaf", Check(p, public, "text", two(leaf)+sig[2:]), false)
		}
	}
	end := len(sig) - 2*8
	says(t, "Check by a path turned round", Check(p, public, "text", sig[:end]+sig[end+8:]+sig[end:end+8]), false)
}

func TestCheckOfOtherLengths(t *testing.T) { // P9.6
	for _, p := range rightShapes() {
		s := made(t, p, "seed")
		public := Public(s)
		sig, _ := signed(t, s, "text")
		for n := range len(sig) {
			says(t, "Check of a shorter signature", Check(p, public, "text", sig[:n]), false)
		}
		for n := range len(public) {
			says(t, "Check by a shorter public key", Check(p, public[:n], "text", sig), false)
		}
		for _, more := range []string{"\x00", "x", sig, public} {
			says(t, "Check of a longer signature", Check(p, public, "text", sig+more), false)
			says(t, "Check by a longer public key", Check(p, public+more, "text", sig), false)
			says(t, "Check by what is longer ahead", Check(p, more+public, "text", sig), false)
		}
		for _, q := range append(append(rightShapes(), wrongShapes()...), api.Shape{N: p.N, H: p.H + 1}, api.Shape{N: p.N + 1, H: p.H}) {
			if q != p {
				says(t, "Check of another shape", Check(q, public, "text", sig), false)
			}
		}
	}
}

// A leaf that the tree has not leads to nothing, and nothing is no root.
func TestCheckOfNoLeaf(t *testing.T) { // P9.6
	for _, p := range []api.Shape{{N: 2}, {N: 3, H: 1}, {N: 8, H: 2}, {N: 2, H: 8}} {
		for _, leaf := range []int{1 << p.H, 1<<p.H + 1, 256, 257, 1 << 15, 1<<16 - 1} {
			sig := two(leaf) + anyText(Long(p)-2, 11)
			for _, public := range []string{"roomroom", "roomroom" + strings.Repeat("\x00", p.N), "roomroom" + anyText(p.N, 12)} {
				if leaf >= 1<<p.H {
					says(t, "Check of no leaf", Check(p, public, "text", sig), false)
				}
			}
		}
	}
	for _, p := range wrongShapes() {
		for _, n := range []int{0, 2, 8, 9, 10, 16, 41} {
			says(t, "Check of a wrong shape", Check(p, anyText(8, 13), "text", anyText(n, 14)), false)
			says(t, "Check of a wrong shape", Check(p, anyText(n, 13), "text", ""), false)
		}
	}
}

func TestKeep(t *testing.T) { // P9.7
	for h := range 9 {
		for _, n := range []int{2, 3, 16, 31, 32} {
			for _, next := range []int{0, 1, 1<<h - 1, 1 << h} {
				for _, long := range []int{0, 1, 4, 32, 127, 128, 199, 200} {
					s := api.Signer{Shape: api.Shape{N: n, H: h}, Seed: anyText(long, byte(n)), Next: next}
					kept, err := Keep(s)
					says(t, "Keep", kept, knownKept(headOf(s), s.Seed))
					says(t, "the error of Keep", err, api.OK)
				}
			}
		}
	}
}

func TestKeepThatMayNot(t *testing.T) { // P9.7
	refused := func(s api.Signer) {
		t.Helper()
		kept, err := Keep(s)
		says(t, "Keep", kept, "")
		says(t, "the error of Keep", err, api.ErrArg)
	}
	for _, p := range wrongShapes() {
		for _, next := range []int{0, 1, -1} {
			refused(api.Signer{Shape: p, Seed: "seed", Next: next})
		}
	}
	for h := range 9 {
		s, all := api.Signer{Shape: api.Shape{N: 16, H: h}, Seed: "seed"}, 1<<h
		for _, next := range []int{-1, -2, -all, -256, -1 << 16, math.MinInt, all + 1, 2*all + 1, 257, 1 << 16, 1<<16 + 1, 1 << 32, math.MaxInt} {
			refused(at(s, next))
		}
		for _, long := range []int{201, 202, 255, 256, 257, 300, 512, 70000} {
			refused(api.Signer{Shape: s.Shape, Seed: anyText(long, 1)})
		}
	}
}

func TestLoad(t *testing.T) { // P9.8, P9.12
	for h := range 9 {
		for _, n := range []int{2, 16, 32} {
			for _, next := range []int{0, 1, 1<<h - 1, 1 << h} {
				for _, long := range []int{0, 1, 32, 128, 200} {
					want := api.Signer{Shape: api.Shape{N: n, H: h}, Seed: anyText(long, byte(h)), Next: next}
					s, err := Load(knownKept(headOf(want), want.Seed))
					says(t, "Load", s, want)
					says(t, "the error of Load", err, api.OK)
				}
			}
		}
	}
}

// refusesLoad is that what is kept so is not loaded.
func refusesLoad(t *testing.T, kept string, want api.Errno) {
	t.Helper()
	s, err := Load(kept)
	says(t, "Load", s, api.Signer{})
	says(t, "the error of Load", err, want)
}

func TestLoadOfAlteredOnes(t *testing.T) { // P9.8
	for _, seed := range []string{"", "s", anyText(32, 1), anyText(200, 2)} {
		kept, _ := Keep(api.Signer{Shape: api.Shape{N: 16, H: 3}, Seed: seed, Next: 5})
		for n := range len(kept) {
			if n < 9 {
				refusesLoad(t, kept[:n], api.ErrShort)
			} else {
				refusesLoad(t, kept[:n], api.ErrTag)
			}
		}
		for bit := range 8 * len(kept) {
			refusesLoad(t, turned(kept, bit), api.ErrTag)
		}
		for _, other := range []string{kept + "x", kept + "\x00", "x" + kept, kept + kept, kept[1:] + "x", anyText(len(kept), 3), anyText(5000, 4)} {
			refusesLoad(t, other, api.ErrTag)
		}
	}
	for n := range 9 {
		// Even with the tag that it should have, too short is too short.
		head := anyText(max(n-4, 0), 5)
		refusesLoad(t, (head + knownParts("keep", head)[:4])[:n], api.ErrShort)
	}
}

// Each with the tag that it should have.
func TestLoadOfWrongForms(t *testing.T) { // P9.8
	for _, c := range []struct {
		head []byte
		long int
	}{
		{[]byte{16, 3, 0, 5, 4}, 3}, {[]byte{16, 3, 0, 5, 4}, 5}, {[]byte{16, 3, 0, 5, 4}, 0}, {[]byte{16, 3, 0, 5, 0}, 1}, {[]byte{16, 3, 0, 5, 4}, 260}, {[]byte{16, 3, 0, 5, 255}, 4},
		{[]byte{16, 3, 0, 5, 0}, 256}, {[]byte{16, 3, 0, 5, 200}, 456}, {[]byte{16, 3, 0, 5, 201}, 201}, {[]byte{16, 3, 0, 5, 255}, 255}, {[]byte{16, 3, 0, 5, 200}, 201}, {[]byte{16, 3, 0, 5, 201}, 200},
		{[]byte{1, 3, 0, 5, 4}, 4}, {[]byte{0, 3, 0, 5, 4}, 4}, {[]byte{33, 3, 0, 5, 4}, 4}, {[]byte{255, 3, 0, 5, 4}, 4}, {[]byte{16, 9, 0, 5, 4}, 4}, {[]byte{16, 255, 0, 5, 4}, 4},
		{[]byte{16, 3, 0, 9, 4}, 4}, {[]byte{16, 3, 1, 5, 4}, 4}, {[]byte{16, 3, 255, 255, 4}, 4}, {[]byte{16, 8, 1, 1, 4}, 4}, {[]byte{16, 0, 0, 2, 4}, 4},
		{[]byte{0, 0, 0, 0, 0}, 0}, {[]byte{0, 0, 0, 0, 1}, 0}, {[]byte{16, 3, 0, 5, 1}, 0},
	} {
		refusesLoad(t, knownKept(c.head, anyText(c.long, 6)), api.ErrForm)
	}
	for n := range 256 {
		for h := range 256 {
			kept := knownKept([]byte{byte(n), byte(h), 0, 0, 4}, "seed")
			if n < 2 || n > 32 || h > 8 {
				refusesLoad(t, kept, api.ErrForm)
			} else if s, err := Load(kept); err != api.OK || s != (api.Signer{Shape: api.Shape{N: n, H: h}, Seed: "seed"}) {
				t.Errorf("Load of the shape %d, %d: %#v, %d", n, h, s, err)
			}
		}
	}
}

// Whatever comes, what is loaded is what would be kept.
func TestLoadOfAny(t *testing.T) { // P9.8, R1
	r, loaded := rand.New(rand.NewPCG(9, 9)), 0
	for range 20000 {
		long := r.IntN(8)
		head := []byte{byte(r.IntN(40)), byte(r.IntN(11)), byte(r.IntN(2)), byte(r.IntN(256)), byte(r.IntN(8))}
		kept := knownKept(head, anyText(long, byte(r.IntN(256))))
		s, err := Load(kept)
		again, _ := Keep(s)
		switch {
		case err == api.OK && again == kept:
			loaded++
		case err == api.OK || s != api.Signer{}:
			t.Errorf("Load of %x: %#v, %d", kept, s, err)
		}
	}
	if loaded == 0 {
		t.Error("nothing was loaded")
	}
}

func TestUse(t *testing.T) { // P9.9
	for h := range 9 {
		s, all := api.Signer{Shape: api.Shape{N: 7, H: h}, Seed: "seed"}, 1<<h
		for next := range all + 1 {
			for _, n := range []int{0, 1, all - next, all - next + 1, all, all + 1, 1 << 32, math.MaxInt} {
				want, wantErr := at(s, next), api.ErrSpent
				if n <= all-next {
					want, wantErr = at(s, next+n), api.OK
				}
				used, err := Use(at(s, next), n)
				says(t, "Use", used, want)
				says(t, "the error of Use", err, wantErr)
			}
			for _, n := range []int{-1, -2, -next, math.MinInt} {
				if n < 0 {
					used, err := Use(at(s, next), n)
					says(t, "Use of fewer than none", used, at(s, next))
					says(t, "the error of Use", err, api.ErrArg)
				}
			}
		}
	}
}

// A signer that is wrong has no leaf left: none of them can be used, and fewer than none is wrong ahead of that.
func TestUseOfWrongSigners(t *testing.T) { // P9.9
	wrong := []api.Signer{}
	for _, p := range wrongShapes() {
		for _, next := range []int{0, 1, -1, math.MinInt, math.MaxInt} {
			wrong = append(wrong, api.Signer{Shape: p, Seed: "seed", Next: next})
		}
	}
	for _, next := range []int{-1, -8, math.MinInt, 9, 1 << 16, math.MaxInt} {
		wrong = append(wrong, api.Signer{Shape: api.Shape{N: 16, H: 3}, Seed: "seed", Next: next})
	}
	for _, s := range wrong {
		for n, want := range map[int]api.Errno{math.MinInt: api.ErrArg, -1: api.ErrArg, 0: api.OK, 1: api.ErrSpent, 8: api.ErrSpent, math.MaxInt: api.ErrSpent} {
			used, err := Use(s, n)
			says(t, "Use", used, s)
			says(t, "the error of Use", err, want)
		}
	}
}

func TestAsOftenAsThereAreLeaves(t *testing.T) { // P9.10, P9.11
	for _, p := range append(rightShapes(), api.Shape{N: 2, H: 5}) {
		s := made(t, p, "seed")
		public, met := Public(s), map[string]int{}
		for i := range 1 << p.H {
			says(t, "Left", Left(s), 1<<p.H-i)
			msg := texts()[i%len(texts())]
			sig, used := signed(t, s, msg)
			says(t, "Check", Check(p, public, msg, sig), true)
			says(t, "the public key behind it", Public(used), public)
			met[sig[:2]]++
			s = used
		}
		says(t, "how many leaves were used", len(met), 1<<p.H)
		sig, used, err := Sign(s, "text")
		says(t, "Sign", sig, "")
		says(t, "the signer", used, s)
		says(t, "the error of Sign", err, api.ErrSpent)
		says(t, "Left", Left(s), 0)
	}
}

// Using leaves and signing go on from where the other stopped, whether the signer was kept between them or not.
func TestGoingOn(t *testing.T) { // P9.9, P9.11, P9.12
	p := api.Shape{N: 8, H: 3}
	s := made(t, p, "seed")
	public, last := Public(s), -1
	for i, n := range []int{0, 1, 0, 2, 1} {
		used, err := Use(s, n)
		says(t, "the error of Use", err, api.OK)
		kept, err := Keep(used)
		says(t, "the error of Keep", err, api.OK)
		loaded, err := Load(kept)
		says(t, "the error of Load", err, api.OK)
		says(t, "what is kept", loaded, used)
		if i == 4 {
			says(t, "Left", Left(loaded), 0)
			break
		}
		sig, behind := signed(t, loaded, "text")
		leaf := int(sig[0])*256 + int(sig[1])
		says(t, "the leaf", leaf, last+n+1)
		says(t, "Check", Check(p, public, "text", sig), true)
		last, s = leaf, behind
	}
}

// Two signers with unlike seeds have unlike rooms, and so whatever one of them says is of no use by the other.
func TestTwoSigners(t *testing.T) { // P9.1, P9.2
	p := api.Shape{N: 16, H: 1}
	met := map[string]int{}
	for _, seed := range seeds() {
		s := made(t, p, seed)
		met[s.Seed]++
		met[Public(s)[:8]]++
		met[Public(s)[8:]]++
	}
	says(t, "unlike seeds, rooms and roots", len(met), 3*len(seeds()))
}
