package lanes

import (
	"encoding/binary"
	"math"
	"slices"
	"strings"
	"testing"
	"time"
)

// bytesOf is n bytes that follow no simple rule, another row for each seed.
func bytesOf(n int, seed uint32) string {
	out := make([]byte, n)
	x := seed*2654435761 + 1
	for i := range out {
		x = x*1664525 + 1013904223
		out[i] = byte(x >> 24)
	}
	return string(out)
}

// turned is s with one bit of the byte at the place at turned.
func turned(s string, at, bit int) string {
	b := []byte(s)
	b[at] ^= 1 << bit
	return string(b)
}

func TestLow(t *testing.T) { // P1.1
	for _, c := range []struct {
		s    string
		want uint64
	}{
		{"", 0},
		{"\x00", 0},
		{"\x05", 5},
		{"\x01\x02", 513},
		{"\x00\x00\x01", 65536},
		{"\x01\x02\x03\x04\x05\x06\x07", 0x07060504030201},
		{"\x01\x02\x03\x04\x05\x06\x07\x08", 0x0807060504030201},
		{"\x01\x02\x03\x04\x05\x06\x07\x08\x09", 0x0807060504030201},
		{"\x00\x00\x00\x00\x00\x00\x00\x00\xff", 0},
		{"\x00\x00\x00\x00\x00\x00\x00\x80", 1 << 63},
		{strings.Repeat("\xff", 8), math.MaxUint64},
		{strings.Repeat("\xff", 20), math.MaxUint64},
	} {
		if got := Low(c.s); got != c.want {
			t.Errorf("Low(%q): %d, want %d", c.s, got, c.want)
		}
	}
	for n := range 30 {
		s := bytesOf(n, uint32(n))
		want := binary.LittleEndian.Uint64([]byte(s + strings.Repeat("\x00", 8)))
		if n < 8 {
			want &= 1<<(8*n) - 1
		}
		if got := Low(s); got != want {
			t.Errorf("Low(%q): %d, want %d", s, got, want)
		}
	}
}

func TestHigh(t *testing.T) { // P1.2
	const n = 0x0102030405060708
	for _, c := range []struct {
		n     uint64
		width int
		want  string
	}{
		{258, 3, "\x00\x01\x02"},
		{258, 2, "\x01\x02"},
		{258, 1, "\x02"},
		{258, 0, ""},
		{7, -1, ""},
		{n, math.MinInt, ""},
		{0, 4, "\x00\x00\x00\x00"},
		{n, 7, "\x02\x03\x04\x05\x06\x07\x08"},
		{n, 8, "\x01\x02\x03\x04\x05\x06\x07\x08"},
		{n, 9, "\x00\x01\x02\x03\x04\x05\x06\x07\x08"},
		{math.MaxUint64, 10, "\x00\x00" + strings.Repeat("\xff", 8)},
		{n, 63, strings.Repeat("\x00", 55) + "\x01\x02\x03\x04\x05\x06\x07\x08"},
		{n, 64, strings.Repeat("\x00", 56) + "\x01\x02\x03\x04\x05\x06\x07\x08"},
		{n, 65, strings.Repeat("\x00", 56) + "\x01\x02\x03\x04\x05\x06\x07\x08"},
		{n, math.MaxInt, strings.Repeat("\x00", 56) + "\x01\x02\x03\x04\x05\x06\x07\x08"},
	} {
		if got := High(c.n, c.width); got != c.want {
			t.Errorf("High(%d, %d): %q, want %q", c.n, c.width, got, c.want)
		}
	}
	for width := range 9 {
		want := string(binary.BigEndian.AppendUint64(nil, 0xf1e2d3c4b5a69788)[8-width:])
		if got := High(0xf1e2d3c4b5a69788, width); got != want {
			t.Errorf("High of width %d: %q, want %q", width, got, want)
		}
	}
}

func TestWords(t *testing.T) { // P1.3
	for _, c := range []struct {
		s    string
		big  bool
		want []uint32
	}{
		{"", false, nil},
		{"", true, nil},
		{"abc", false, nil},
		{"abc", true, nil},
		{"\x01\x00\x00\x00", false, []uint32{1}},
		{"\x01\x00\x00\x00", true, []uint32{16777216}},
		{"\x01\x02\x03\x04", false, []uint32{0x04030201}},
		{"\x01\x02\x03\x04", true, []uint32{0x01020304}},
		{"\x01\x02\x03\x04x", false, []uint32{0x04030201}},
		{"\x01\x02\x03\x04xyz", true, []uint32{0x01020304}},
		{"\x00\x00\x00\x80\xff\xff\xff\xff", false, []uint32{1 << 31, math.MaxUint32}},
		{"\x80\x00\x00\x00\xff\xff\xff\xff", true, []uint32{1 << 31, math.MaxUint32}},
	} {
		if got := Words(c.s, c.big); !slices.Equal(got, c.want) {
			t.Errorf("Words(%q, %v): %v, want %v", c.s, c.big, got, c.want)
		}
	}
	for n := range 70 {
		s := bytesOf(n, uint32(n))
		low, high := []uint32{}, []uint32{}
		for i := 0; i+4 <= n; i += 4 {
			low = append(low, binary.LittleEndian.Uint32([]byte(s[i:i+4])))
			high = append(high, binary.BigEndian.Uint32([]byte(s[i:i+4])))
		}
		if got := Words(s, false); !slices.Equal(got, low) {
			t.Errorf("Words of %d bytes: %v, want %v", n, got, low)
		}
		if got := Words(s, true); !slices.Equal(got, high) {
			t.Errorf("Words of %d bytes, big: %v, want %v", n, got, high)
		}
	}
}

func TestText(t *testing.T) { // P1.4
	for _, c := range []struct {
		l    []uint32
		big  bool
		want string
	}{
		{nil, false, ""},
		{nil, true, ""},
		{[]uint32{}, true, ""},
		{[]uint32{1}, false, "\x01\x00\x00\x00"},
		{[]uint32{16777216}, true, "\x01\x00\x00\x00"},
		{[]uint32{0x01020304}, false, "\x04\x03\x02\x01"},
		{[]uint32{0x01020304}, true, "\x01\x02\x03\x04"},
		{[]uint32{0x01020304, 0x05060708}, false, "\x04\x03\x02\x01\x08\x07\x06\x05"},
		{[]uint32{0x01020304, 0x05060708}, true, "\x01\x02\x03\x04\x05\x06\x07\x08"},
		{[]uint32{math.MaxUint32, 0}, true, "\xff\xff\xff\xff\x00\x00\x00\x00"},
	} {
		if got := Text(c.l, c.big); got != c.want {
			t.Errorf("Text(%v, %v): %q, want %q", c.l, c.big, got, c.want)
		}
	}
}

func TestTextLeavesItsList(t *testing.T) { // R3
	room := []uint32{1, 2, 3, 4}
	for _, big := range []bool{false, true} {
		if got := Text(room[:2], big); len(got) != 8 {
			t.Errorf("Text of two words: %q", got)
		}
		if !slices.Equal(room, []uint32{1, 2, 3, 4}) {
			t.Errorf("Text changed its list: %v", room)
		}
	}
}

func TestWordsAnswersNewMemory(t *testing.T) { // R3
	first := Words("abcdefgh", true)
	want := slices.Clone(first)
	again := Words("abcdefgh", true)
	again[0], again[1] = 0, 0
	if !slices.Equal(first, want) {
		t.Errorf("two answers of Words share memory: %v, want %v", first, want)
	}
}

func TestXor(t *testing.T) { // P1.5
	for _, c := range []struct{ a, b, want string }{
		{"", "", ""},
		{"", "abc", ""},
		{"abc", "", "abc"},
		{"ab", "a", "\x00b"},
		{"a", "ab", "\x00"},
		{"ab", "ab", "\x00\x00"},
		{"\x0f\xf0", "\xff\xff", "\xf0\x0f"},
		{"\xa5\x5a\x01", "\x5a", "\xff\x5a\x01"},
		{"\x01\x02", "\x00\x00\x07", "\x01\x02"},
	} {
		if got := Xor(c.a, c.b); got != c.want {
			t.Errorf("Xor(%q, %q): %q, want %q", c.a, c.b, got, c.want)
		}
	}
	for n := range 20 {
		for m := range 20 {
			a, b := bytesOf(n, 1), bytesOf(m, 2)
			got := Xor(a, b)
			if len(got) != n {
				t.Fatalf("Xor of %d and %d bytes: %d bytes", n, m, len(got))
			}
			for i := range n {
				want := a[i]
				if i < m {
					want ^= b[i]
				}
				if got[i] != want {
					t.Errorf("Xor of %d and %d bytes, at %d: %d, want %d", n, m, i, got[i], want)
				}
			}
		}
	}
}

func TestAlike(t *testing.T) { // P1.6
	for _, c := range []struct {
		a, b string
		want bool
	}{
		{"", "", true},
		{"a", "a", true},
		{"a", "b", false},
		{"", "a", false},
		{"a", "", false},
		{"", "\x00", false},
		{"a", "a\x00", false},
		{"a\x00", "a", false},
		{"ab", "ba", false},
		{"a\x00b", "a\x00c", false},
		{"\x01\x01", "\x00\x00", false},
		{"\x80", "\x00", false},
		{"\x80\x80", "\x00\x00", false},
		{strings.Repeat("\x01", 256), strings.Repeat("\x00", 256), false},
	} {
		if got := Alike(c.a, c.b); got != c.want {
			t.Errorf("Alike(%q, %q): %v, want %v", c.a, c.b, got, c.want)
		}
	}
}

func TestAlikeSeesEachBit(t *testing.T) { // P1.6
	for n := range 40 {
		s := bytesOf(n, 3)
		if !Alike(s, strings.Clone(s)) {
			t.Errorf("%d bytes and the same: not alike", n)
		}
		if Alike(s, s+"\x00") || Alike(s+"\x00", s) {
			t.Errorf("%d bytes and one more: alike", n)
		}
		for at := range n {
			for bit := range 8 {
				if Alike(s, turned(s, at, bit)) {
					t.Errorf("%d bytes, bit %d of byte %d turned: alike", n, bit, at)
				}
			}
		}
	}
}

// quickest is the least time of some tries: whatever else the machine does only adds to it.
func quickest(t *testing.T, a, b string, want bool) time.Duration {
	t.Helper()
	least := time.Duration(math.MaxInt64)
	for range 9 {
		start := time.Now()
		got := Alike(a, b)
		least = min(least, time.Since(start))
		if got != want {
			t.Fatalf("Alike: %v, want %v", got, want)
		}
	}
	return least
}

// That all bytes are looked at is seen by nothing but the time it takes: one that goes away at the first difference is quicker by thousands of times, so a twentieth is a bound that no busy machine comes to.
func TestAlikeLooksAtAllBytes(t *testing.T) { // P1.6
	s := strings.Repeat("murmur..", 1<<18)
	whole := quickest(t, s, strings.Clone(s), true)
	for _, c := range []struct{ what, b string }{
		{"the first byte differs", turned(s, 0, 0)},
		{"the last byte differs", turned(s, len(s)-1, 0)},
		{"one has a byte more", s + "x"},
		{"one has a byte more, and the first differs", turned(s, 0, 7) + "x"},
	} {
		if got := quickest(t, s, c.b, false); got < whole/20 {
			t.Errorf("%s: %v, but %v where they are the same: not all bytes are looked at", c.what, got, whole)
		}
	}
}

func TestBit(t *testing.T) { // P1.7
	for _, c := range []struct {
		s    string
		at   int
		want int
	}{
		{"\x01", 0, 1},
		{"\x01", 1, 0},
		{"\x80", 7, 1},
		{"\x80", 0, 0},
		{"\x00\x01", 8, 1},
		{"\x00\x80", 15, 1},
		{"\xff\x00", 8, 0},
		{"\xff", 8, 0},
		{"a", 8, 0},
		{"", 0, 0},
		{"\xff", -1, 0},
		{"\xff", -7, 0},
		{"\xff", -8, 0},
		{"\xff\xff", -9, 0},
		{"\xff", math.MinInt, 0},
		{"\xff", math.MaxInt, 0},
	} {
		if got := Bit(c.s, c.at); got != c.want {
			t.Errorf("Bit(%q, %d): %d, want %d", c.s, c.at, got, c.want)
		}
	}
	s := bytesOf(9, 4)
	for at := range 8 * len(s) {
		if got, want := Bit(s, at), int(s[at/8])/(1<<(at%8))%2; got != want {
			t.Errorf("Bit %d of %q: %d, want %d", at, s, got, want)
		}
	}
}

func TestWordsAndTextUndoOneAnother(t *testing.T) { // P1.8
	for n := range 20 {
		for _, big := range []bool{false, true} {
			s := bytesOf(4*n, uint32(n))
			if got := Text(Words(s, big), big); got != s {
				t.Errorf("Text of Words of %q, %v: %q", s, big, got)
			}
			l := make([]uint32, n)
			for i := range l {
				l[i] = uint32(i+1) * 2654435761
			}
			if got := Words(Text(l, big), big); !slices.Equal(got, l) {
				t.Errorf("Words of Text of %v, %v: %v", l, big, got)
			}
		}
	}
}

func TestXorOfTheSameTwiceIsNothing(t *testing.T) { // P1.8
	for n := range 20 {
		a := bytesOf(n, 5)
		if got := Xor(a, a); got != strings.Repeat("\x00", n) {
			t.Errorf("Xor of %q and itself: %q", a, got)
		}
		for m := range 20 {
			b := bytesOf(m, 6)
			if got := Xor(Xor(a, b), b); got != a {
				t.Errorf("Xor of %q with %q twice: %q", a, b, got)
			}
		}
	}
}
