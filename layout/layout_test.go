package layout

import (
	"fmt"
	"math"
	"math/rand/v2"
	"slices"
	"strings"
	"testing"
	"time"

	"murmur/api"
	"murmur/frame"
)

// anyText is n bytes that follow no simple rule, the same ones for the same seed.
func anyText(n int, seed byte) string {
	out := make([]byte, n)
	rand.NewChaCha8([32]byte{seed}).Read(out)
	return string(out)
}

// altered is s with another byte at a place.
func altered(s string, at int, b byte) string {
	return s[:at] + string([]byte{b}) + s[at+1:]
}

// far is the ends of int, and numbers that smaller kinds of integers would cut.
func far() []int {
	return []int{math.MinInt, math.MinInt + 1, -1 << 32, 1 << 32, 1<<32 + 5, math.MaxInt - 1, math.MaxInt}
}

// numbers is slots, and how many there are: all that may be, those past the ends, and the ends of int.
func numbers() []int {
	out := far()
	for n := -10; n <= 20; n++ {
		out = append(out, n)
	}
	return append(out, 255, 256, 257, -256)
}

// signatures is how many bytes a signature may have, and may not.
func signatures() []int {
	return append(far(), -1, 0, 1, 2, 18, 999, 1999, 2000, 2001, 2256)
}

// lists is all lists of n of these.
func lists(n int, of ...int) [][]int {
	out := [][]int{{}}
	for range n {
		longer := [][]int{}
		for _, l := range out {
			for _, x := range of {
				longer = append(longer, append(slices.Clone(l), x))
			}
		}
		out = longer
	}
	return out
}

// layouts is short ones of all kinds, and some of as many slots as may be, and of more.
func layouts() [][]int {
	out := [][]int{nil, {}, {0, 0, 0, 0, 0, 0}, {16, 16, 16, 16, 16, 16}, {0, 0, 0, 0, 0, 16}, {16, 0, 0, 0, 0, 0}, {1, 2, 3, 4, 5, 6}, {0, 5, 0, 16, 1, 0}}
	for n := range 4 {
		out = append(out, lists(n, 0, 1, 5, 16)...)
	}
	for c := -20; c <= 300; c++ {
		out = append(out, []int{c}, []int{3, c, 0})
	}
	for _, c := range far() {
		out = append(out, []int{c}, []int{3, c, 0}, []int{c, c, c, c, c, c, c})
	}
	for _, more := range [][]int{{0}, {5}, {0, 0, 0}, {16, 16, 16}, {math.MinInt}, make([]int, 300)} {
		out = append(out, append([]int{0, 5, 3, 0, 16, 1}, more...), append([]int{0, 0, 0, 0, 0, 0}, more...), append([]int{1, 0, 17, -1, 4, 0}, more...))
	}
	return out
}

// few is layouts for what is asked many times over.
func few() [][]int {
	return [][]int{nil, {0}, {5}, {17}, {0, 5}, {5, 0}, {0, 5, 3}, {16, 1, 0, 2}, {0, 0, 0, 0, 0, 0}, {2, 0, 16, -1, 5, 1}, {0, 5, 3, 0, 16, 1, 7}, {5, 5, 5, 5, 5, 5, 5, 5}}
}

// is holds what was answered against what is wanted.
func is(t *testing.T, what string, got, want any) {
	t.Helper()
	a, b := fmt.Sprint(got), fmt.Sprint(want)
	if a != b {
		t.Fatalf("%s: %.200q, want %.200q", what, a, b)
	}
}

// The chapter, read slowly: knownX is what it says of X.

// knownSlots is the capacities of the slots that there are.
func knownSlots(l []int) []int {
	out := []int{}
	for _, c := range l {
		if len(out) < 6 {
			out = append(out, c)
		}
	}
	return out
}

// knownLong is how many bytes a slot has.
func knownLong(capacity, sig int) int {
	if capacity < 1 || capacity > 16 || sig < 0 || sig > 2000 {
		return 0
	}
	return 1 + 4 + 3 + capacity + sig
}

// knownBytes says of each byte of a round what it is: of the slot s its byte, -1 - s, or one of its bytes, s.
func knownBytes(l []int, sig int) []int {
	out := []int{}
	for s := range knownSlots(l) {
		out = append(out, -1-s)
	}
	for s, c := range knownSlots(l) {
		for range knownLong(c, sig) {
			out = append(out, s)
		}
	}
	return out
}

func knownSpot(l []int, sig, slot int) (int, int) {
	if !slices.Contains(knownBytes(l, sig), -1-slot) || slot < 0 {
		return 0, 0
	}
	from, to := 0, 0
	for _, s := range knownBytes(l, sig) {
		if s < slot {
			from++
		}
		if s <= slot {
			to++
		}
	}
	return from, to
}

func knownSlot(l []int, sig, slot int, out string) string {
	bytes := []byte{}
	for i, s := range knownBytes(l, sig) {
		if s != slot || s < 0 {
			continue
		}
		if i >= len(out) {
			return ""
		}
		bytes = append(bytes, out[i])
	}
	return string(bytes)
}

func knownWant(l []int, slot int, out string) int {
	for s := range knownSlots(l) {
		for i, b := range []byte(out) {
			if s == slot && i == slot && b <= 16 {
				return int(b)
			}
		}
	}
	return 0
}

func knownFirst(n int) []int {
	out := []int{}
	for i := range 6 {
		if i < n {
			out = append(out, 0)
		}
	}
	return out
}

func knownNext(l []int, sig int, out string) []int {
	next := []int{}
	for s, c := range knownSlots(l) {
		if knownLong(c, sig) == 0 {
			next = append(next, knownWant(l, s, out))
			continue
		}
		said, err := frame.Read(knownSlot(l, sig, s, out), c, sig)
		if err != api.OK {
			said.Next = 0
		}
		next = append(next, said.Next)
	}
	return next
}

func knownBudget(l []int, sig, most int) []int {
	out := knownSlots(l)
	for s, c := range out {
		if c = knownLong(c, sig); c == 0 {
			out[s] = 0
			continue
		}
		sum := len(out)
		for _, ahead := range out[:s+1] {
			sum += knownLong(ahead, sig)
		}
		if sum > most {
			out[s] = 0
		}
	}
	return out
}

func knownOpen(l []int, sig int) []int {
	out := slices.DeleteFunc(knownBytes(l, sig), func(s int) bool { return s < 0 })
	slices.Sort(out)
	return slices.Compact(out)
}

func knownShare(l []int, sig, slot int) int {
	of, all := 0, knownBytes(l, sig)
	for _, s := range all {
		if slot >= 0 && (s == slot || s == -1-slot) {
			of++
		}
	}
	for n := 1000; n > 0; n-- {
		if of*1000 >= n*len(all) && of > 0 {
			return n
		}
	}
	return 0
}

// asksAll is each call, held against the chapter, twice; and what was handed in is as it was.
func asksAll(t *testing.T, l []int, sig int, slots []int, out string) {
	t.Helper()
	handed := slices.Clone(l)
	what := fmt.Sprintf("of %v %d %.40q", l[:min(len(l), 9)], sig, out)
	for range 2 {
		is(t, "Total "+what, Total(l, sig), len(knownBytes(l, sig)))
		is(t, "Open "+what, Open(l, sig), knownOpen(l, sig))
		is(t, "Next "+what, Next(l, sig, out), knownNext(l, sig, out))
		for _, slot := range slots {
			at := fmt.Sprint(" ", slot)
			from, to := Spot(l, sig, slot)
			wantFrom, wantTo := knownSpot(l, sig, slot)
			is(t, "Spot "+what+at, []int{from, to}, []int{wantFrom, wantTo})
			is(t, "Slot "+what+at, Slot(l, sig, slot, out), knownSlot(l, sig, slot, out))
			is(t, "Want "+what+at, Want(l, slot, out), knownWant(l, slot, out))
			is(t, "Share "+what+at, Share(l, sig, slot), knownShare(l, sig, slot))
		}
	}
	is(t, "what was handed in", l, handed)
}

// round is the bytes of a round: each slot's byte, and what each open slot says.
func round(l []int, sig int, wants []int, says []api.Said) string {
	out, behind := "", ""
	for s, c := range knownSlots(l) {
		out += string([]byte{byte(wants[s])})
		if knownLong(c, sig) > 0 {
			laid, err := frame.Lay(says[s], c, sig, anyText(4, byte(s)))
			if err != api.OK {
				panic(err)
			}
			behind += laid
		}
	}
	return out + behind
}

func TestTotal(t *testing.T) { // P19.1
	is(t, "the example", Total([]int{0, 5}, 18), 33)
	is(t, "no slot", Total(nil, 18), 0)
	is(t, "closed slots", Total([]int{0, 0, 0}, 18), 3)
	is(t, "the most", Total([]int{16, 16, 16, 16, 16, 16}, 2000), 6+6*2024)
	is(t, "a slot too many", Total([]int{16, 16, 16, 16, 16, 16, 16}, 2000), 6+6*2024)
	is(t, "a signature too long", Total([]int{16, 16}, 2001), 2)
	is(t, "a signature below 0", Total([]int{16, 16}, -1), 2)
	is(t, "capacities that may not be", Total([]int{17, -1, math.MaxInt, math.MinInt, 1}, 0), 5+9)
	for _, l := range layouts() {
		for _, sig := range signatures() {
			is(t, fmt.Sprint("Total ", l, sig), Total(l, sig), len(knownBytes(l, sig)))
		}
	}
}

func TestSpot(t *testing.T) { // P19.2
	for _, c := range []struct {
		l              []int
		sig, slot      int
		from, to, long int
	}{
		{[]int{0, 5}, 18, 1, 2, 33, 31}, {[]int{0, 5}, 18, 0, 2, 2, 0}, {[]int{0, 5}, 18, 2, 0, 0, 0}, {[]int{0, 5}, 18, -1, 0, 0, 0},
		{[]int{0, 5, 3}, 18, 2, 34, 63, 29}, {[]int{0, 5, 3, 0}, 18, 3, 64, 64, 0}, {[]int{5, 3}, 18, 0, 2, 33, 31},
		{[]int{1, 1, 1, 1, 1, 1, 1}, 0, 5, 51, 60, 9}, {[]int{1, 1, 1, 1, 1, 1, 1}, 0, 6, 0, 0, 0}, {nil, 18, 0, 0, 0, 0},
		{[]int{5, 17, 3}, 18, 1, 34, 34, 0}, {[]int{5, 17, 3}, 18, 2, 34, 63, 29}, {[]int{5, 5}, 2001, 1, 2, 2, 0},
	} {
		from, to := Spot(c.l, c.sig, c.slot)
		is(t, fmt.Sprint("Spot ", c.l, c.sig, c.slot), []int{from, to, to - from}, []int{c.from, c.to, c.long})
	}
}

// Each slot begins where the one ahead ends, the first behind all bytes for slots, and the last ends with all.
func TestSlotsLieBehindEachOther(t *testing.T) { // P19.10
	for _, l := range layouts() {
		for _, sig := range signatures() {
			n := min(len(l), 6)
			at := n
			for slot := range n {
				from, to := Spot(l, sig, slot)
				is(t, fmt.Sprint("the begin of ", l, sig, slot), from, at)
				is(t, fmt.Sprint("the length of ", l, sig, slot), to-from, knownLong(l[slot], sig))
				at = to
			}
			is(t, fmt.Sprint("the end of ", l, sig), at, Total(l, sig))
		}
	}
}

func TestSlot(t *testing.T) { // P19.3
	l := []int{0, 5, 3, 0}
	out := anyText(64, 1)
	is(t, "the slot 1", Slot(l, 18, 1, out), out[4:35])
	is(t, "the slot 2", Slot(l, 18, 2, out), out[35:64])
	for _, slot := range []int{0, 3, 4, 5, -1, math.MinInt, math.MaxInt} {
		is(t, fmt.Sprint("a slot without bytes, ", slot), Slot(l, 18, slot, out), "")
	}
	is(t, "more behind", Slot(l, 18, 2, out+"more"), out[35:64])
	is(t, "a byte missing", Slot(l, 18, 2, out[:63]), "")
	is(t, "a byte missing behind", Slot(l, 18, 1, out[:63]), out[4:35])
	is(t, "an end", Slot(l, 18, 1, out[:35]), out[4:35])
	is(t, "a byte missing ahead of an end", Slot(l, 18, 1, out[:34]), "")
	is(t, "nothing", Slot(l, 18, 1, ""), "")
}

func TestWant(t *testing.T) { // P19.4
	l := []int{0, 5, 3}
	for _, c := range []struct {
		slot int
		out  string
		want int
	}{
		{0, "\x01\x02\x03", 1}, {1, "\x01\x02\x03", 2}, {2, "\x01\x02\x03", 3}, {3, "\x01\x02\x03\x04", 0}, {-1, "\x01\x02\x03", 0},
		{0, "\x10", 16}, {0, "\x11", 0}, {0, "\xff", 0}, {0, "\x00", 0}, {0, "", 0}, {1, "\x05", 0}, {1, "\x05\x06", 6}, {2, "\x05\x06", 0},
		{math.MinInt, "\x01", 0}, {math.MaxInt, "\x01", 0}, {1 << 32, "\x01", 0}, {256, strings.Repeat("\x01", 300), 0},
	} {
		is(t, fmt.Sprintf("Want %d %q", c.slot, c.out), Want(l, c.slot, c.out), c.want)
	}
	for b := range 256 {
		want := b
		if b > 16 {
			want = 0
		}
		is(t, fmt.Sprint("Want of the byte ", b), Want(l, 2, string([]byte{9, 9, byte(b)})), want)
	}
	out := "\x01\x02\x03\x04\x05\x06\x07\x08"
	is(t, "the last slot", Want(make([]int, 7), 5, out), 6)
	is(t, "a slot too many", Want(make([]int, 7), 6, out), 0)
	is(t, "no slot", Want(nil, 0, out), 0)
}

func TestFirst(t *testing.T) { // P19.5
	for _, n := range numbers() {
		is(t, fmt.Sprint("First ", n), First(n), knownFirst(n))
		is(t, fmt.Sprint("slots of First ", n), len(First(n)), min(max(n, 0), 6))
	}
}

// Closed slots want what their bytes say, open ones what is said there.
func TestNext(t *testing.T) { // P19.6
	is(t, "closed slots", Next([]int{0, 0}, 18, "\x03\xff"), []int{3, 0})
	is(t, "the most", Next([]int{0, 0}, 18, "\x10\x11"), []int{16, 0})
	is(t, "no slot", Next(nil, 18, "\x03"), []int{})
	is(t, "nothing", Next([]int{0, 5}, 18, ""), []int{0, 0})
	// What stands here as bytes was reckoned once with another language: "hi" is said, and 3 wanted next.
	laid := "\x01\x73\x65\x65\x64\xd6\xd3\xb9\x99\x5d\x0b\x85\x10\x6c\xbe"
	is(t, "of bytes", Next([]int{0, 5}, 2, "\x07\x09"+laid), []int{7, 3})
	is(t, "of bytes, the other way round", Next([]int{5, 0}, 2, "\x07\x09"+laid), []int{3, 9})
	is(t, "of bytes, and one more", Next([]int{0, 5}, 2, "\x07\x09"+laid+"\x01"), []int{7, 3})
	is(t, "of bytes, and one less", Next([]int{0, 5}, 2, "\x07\x09"+laid[:14]), []int{7, 0})
	is(t, "of longer signatures", Next([]int{0, 5}, 3, "\x07\x09"+laid), []int{7, 0})
	is(t, "of shorter signatures", Next([]int{0, 5}, 1, "\x07\x09"+laid), []int{7, 3})
	is(t, "of signatures that may not be", Next([]int{0, 5}, 2001, "\x07\x09"+laid), []int{7, 9})
	is(t, "of a capacity that may not be", Next([]int{0, 17}, 2, "\x07\x09"+laid), []int{7, 9})
	for at := range laid {
		out := "\x07\x09" + altered(laid, at, laid[at]^0x80)
		next := Next([]int{0, 5}, 2, out)
		is(t, fmt.Sprint("with the byte altered at ", at), next, knownNext([]int{0, 5}, 2, out))
		is(t, "the closed one", next[0], 7)
		if at == 0 || at >= 5 && at < 7 || at >= 10 && at < 13 { // the first byte, Next, the length, and behind the text
			is(t, "the altered one", next[1], 0)
		}
	}
}

func TestNextOfRounds(t *testing.T) { // P19.6
	src := rand.New(rand.NewPCG(1, 2))
	for range 4000 {
		n, sig := src.IntN(9), src.IntN(4)
		l, wants, says, want := make([]int, n), make([]int, n), make([]api.Said, n), []int{}
		for s := range l {
			l[s] = max(0, src.IntN(40)-20)
			wants[s] = src.IntN(20)
			says[s].Next = src.IntN(17)
			if open := l[s] >= 1 && l[s] <= 16; open && src.IntN(3) > 0 {
				says[s].Text, says[s].Seq, says[s].Sig = anyText(src.IntN(l[s])+1, byte(s)), src.IntN(256), anyText(sig, 3)
			}
			switch {
			case s >= 6:
			case l[s] >= 1 && l[s] <= 16:
				want = append(want, says[s].Next)
			case wants[s] > 16:
				want = append(want, 0)
			default:
				want = append(want, wants[s])
			}
		}
		out := round(l, sig, wants, says)
		is(t, "bytes of a round", len(out), Total(l, sig))
		is(t, fmt.Sprint("Next ", l, sig), Next(l, sig, out), want)
	}
}

// A slot that is spoiled wants nothing next, and the others what they wanted.
func TestNextOfSpoiledRounds(t *testing.T) { // P19.6
	l := []int{0, 5, 3, 0, 16}
	says := []api.Said{{}, {Next: 2, Seq: 1, Text: "hi", Sig: "ab"}, {Next: 16}, {}, {Next: 9, Seq: 255, Text: "sixteen bytes in", Sig: "cd"}}
	whole := round(l, 2, []int{4, 5, 6, 16, 8}, says)
	is(t, "whole", Next(l, 2, whole), []int{4, 2, 16, 16, 9})
	for slot, want := range map[int][]int{1: {4, 0, 16, 16, 9}, 2: {4, 2, 0, 16, 9}, 4: {4, 2, 16, 16, 0}} {
		from, to := Spot(l, 2, slot)
		is(t, fmt.Sprint("spoiled ", slot), Next(l, 2, altered(whole, from, 2)), want)
		is(t, fmt.Sprint("bytes 0 of ", slot), Next(l, 2, whole[:from]+strings.Repeat("\x00", to-from)+whole[to:]), want)
	}
	for n := range len(whole) + 3 {
		out := (whole + "\x00\x00")[:n]
		is(t, fmt.Sprint("cut to ", n), Next(l, 2, out), knownNext(l, 2, out))
	}
}

// Whatever comes out, each capacity that comes next may be one, and there are as many.
func TestNextMayBe(t *testing.T) { // P19.11, R1
	src := rand.New(rand.NewPCG(3, 4))
	for _, l := range layouts() {
		for _, sig := range []int{-1, 0, 2, 18, 2000, 2001, math.MinInt, math.MaxInt} {
			total := Total(l, sig)
			says := make([]api.Said, len(l))
			for s := range says {
				says[s].Next = src.IntN(17)
			}
			wants := make([]int, len(l))
			for s := range wants {
				wants[s] = src.IntN(256)
			}
			laid := round(l, sig, wants, says)
			for _, out := range []string{"", "\xff", strings.Repeat("\x00", total), strings.Repeat("\x01", total), strings.Repeat("\x10", total+1), strings.Repeat("\x11", total), strings.Repeat("\xff", total), anyText(total, 1), laid, laid + "x", laid[:total/2]} {
				next := Next(l, sig, out)
				is(t, fmt.Sprint("slots that come behind ", l), len(next), min(len(l), 6))
				is(t, fmt.Sprintf("Next %v %d %.40q", l, sig, out), next, knownNext(l, sig, out))
				for _, c := range next {
					if c < 0 || c > 16 {
						t.Fatalf("Next %v %d %.40q: %v", l, sig, out, next)
					}
				}
			}
		}
	}
}

func TestOpen(t *testing.T) { // P19.7
	for _, c := range []struct {
		l    []int
		sig  int
		want []int
	}{
		{[]int{0, 5, 3}, 18, []int{1, 2}}, {[]int{5, 0, 3}, 18, []int{0, 2}}, {[]int{0, 0}, 18, nil}, {nil, 18, nil}, {[]int{1, 16, 17, -1, 0, 8}, 0, []int{0, 1, 5}},
		{[]int{5, 3}, 2000, []int{0, 1}}, {[]int{5, 3}, 2001, nil}, {[]int{5, 3}, -1, nil}, {[]int{1, 1, 1, 1, 1, 1, 1, 1}, 0, []int{0, 1, 2, 3, 4, 5}}, {[]int{0, 0, 0, 0, 0, 0, 5}, 0, nil},
	} {
		is(t, fmt.Sprint("Open ", c.l, c.sig), Open(c.l, c.sig), c.want)
	}
	for _, l := range layouts() {
		for _, sig := range signatures() {
			is(t, fmt.Sprint("Open ", l, sig), Open(l, sig), knownOpen(l, sig))
		}
	}
}

func TestBudget(t *testing.T) { // P19.8
	for _, c := range []struct {
		l         []int
		sig, most int
		want      []int
	}{
		{[]int{0, 5, 3}, 18, 40, []int{0, 5, 0}}, {[]int{0, 5, 3}, 18, 2, []int{0, 0, 0}}, {[]int{0, 5, 3}, 18, 63, []int{0, 5, 3}}, {[]int{0, 5, 3}, 18, 62, []int{0, 5, 0}},
		{[]int{0, 5, 3}, 18, 34, []int{0, 5, 0}}, {[]int{0, 5, 3}, 18, 33, []int{0, 0, 3}}, {[]int{0, 5, 3}, 18, 32, []int{0, 0, 3}}, {[]int{0, 5, 3}, 18, 31, []int{0, 0, 0}},
		{[]int{16, 1, 1}, 0, 3 + 18, []int{0, 1, 1}}, {[]int{16, 1, 1}, 0, 3 + 24, []int{16, 0, 0}}, {[]int{1, 16, 1}, 0, 3 + 18, []int{1, 0, 1}}, {[]int{1, 16, 1}, 0, 3 + 33, []int{1, 16, 0}},
		{[]int{5, 17, -1, 3}, 18, math.MaxInt, []int{5, 0, 0, 3}}, {[]int{5, 3}, 2001, math.MaxInt, []int{0, 0}}, {[]int{5, 3}, -1, math.MaxInt, []int{0, 0}}, {[]int{5, 3}, 18, math.MinInt, []int{0, 0}},
		{[]int{1, 1, 1, 1, 1, 1, 1}, 0, math.MaxInt, []int{1, 1, 1, 1, 1, 1}}, {[]int{1, 1, 1, 1, 1, 1, 1}, 0, 60, []int{1, 1, 1, 1, 1, 1}}, {[]int{1, 1, 1, 1, 1, 1, 1}, 0, 59, []int{1, 1, 1, 1, 1, 0}}, {nil, 0, 9, nil},
	} {
		is(t, fmt.Sprint("Budget ", c.l, c.sig, c.most), Budget(c.l, c.sig, c.most), c.want)
	}
	for _, l := range append(few(), lists(3, 0, 1, 5, 16)...) {
		for _, sig := range []int{-1, 0, 18} {
			for most := -3; most <= Total(l, sig)+3; most++ {
				is(t, fmt.Sprint("Budget ", l, sig, most), Budget(l, sig, most), knownBudget(l, sig, most))
			}
		}
	}
	for _, l := range layouts() {
		for _, sig := range signatures() {
			for _, most := range append(far(), -1, 0, 1, 6, 7, 16, 50, 2024, 2030, 6000, 12149, 12150) {
				is(t, fmt.Sprint("Budget ", l, sig, most), Budget(l, sig, most), knownBudget(l, sig, most))
			}
		}
	}
}

// Within a budget that has room for the slots' bytes a layout is no longer than that, and as it was where it went in.
func TestWithinBudget(t *testing.T) { // P19.12
	for _, l := range append(lists(3, 0, 1, 5, 16), []int{5, 0, 16, 1, 0, 3}, []int{16, 16, 16, 16, 16, 16}) {
		for _, sig := range []int{0, 2, 18, 2000} {
			total := Total(l, sig)
			for most := range total + 3 {
				kept := Budget(l, sig, most)
				if long := Total(kept, sig); long > max(most, len(l)) || long > total {
					t.Fatalf("Budget %v %d %d: %v has %d", l, sig, most, kept, long)
				}
				if total <= most {
					is(t, fmt.Sprint("what went in, ", l, sig, most), kept, l)
				}
				is(t, "within the budget once more", Budget(kept, sig, most), kept)
				for s := range l {
					is(t, "kept or closed", kept[s] == l[s] || kept[s] == 0, true)
				}
			}
		}
	}
}

func TestShare(t *testing.T) { // P19.9
	for _, c := range []struct {
		l         []int
		sig, slot int
		want      int
	}{
		{[]int{0, 0}, 18, 1, 500}, {[]int{0, 0, 0}, 18, 0, 333}, {[]int{0}, 18, 0, 1000}, {[]int{5}, 18, 0, 1000}, {[]int{0, 5}, 18, 0, 30}, {[]int{0, 5}, 18, 1, 969},
		{[]int{0, 5}, 18, 2, 0}, {[]int{0, 5}, 18, -1, 0}, {nil, 18, 0, 0}, {[]int{0, 16}, 2000, 0, 0}, {[]int{0, 16}, 2000, 1, 999}, {[]int{0, 0, 0, 0, 0, 0, 0}, 18, 5, 166}, {[]int{0, 0, 0, 0, 0, 0, 0}, 18, 6, 0},
		{[]int{17, -1, 0}, 18, 1, 333}, {[]int{16, 16}, 2001, 1, 500}, {[]int{5, 5, 5}, 18, 2, 333}, {[]int{0, 5}, 18, math.MinInt, 0}, {[]int{0, 5}, 18, math.MaxInt, 0},
	} {
		is(t, fmt.Sprint("Share ", c.l, c.sig, c.slot), Share(c.l, c.sig, c.slot), c.want)
	}
}

// Each call, of each kind of layout, of signatures and slots that may be and may not.
func TestAll(t *testing.T) { // P19.1 to P19.9, R1, R3, R4
	for _, l := range few() {
		for _, sig := range signatures() {
			for _, n := range []int{0, 1, 3, 33, len(knownBytes(l, sig)) - 1, len(knownBytes(l, sig)), len(knownBytes(l, sig)) + 5} {
				asksAll(t, l, sig, []int{0, 1, 2, 5, 6, -1, math.MinInt, math.MaxInt}, anyText(max(0, n), 7))
			}
		}
	}
	for _, l := range layouts() {
		asksAll(t, l, 2, numbers(), anyText(len(knownBytes(l, 2)), 8))
	}
}

// What is handed in stays as it was, also behind its end, and what is answered is new.
func TestMemory(t *testing.T) { // R3
	room := []int{5, 0, 3, 91, 92, 93, 94}
	l := room[:3:7]
	out := round(l, 2, []int{1, 2, 3}, []api.Said{{Next: 4}, {}, {Next: 6}})
	answers := [][]int{First(3), Next(l, 2, out), Budget(l, 2, 1000), Open(l, 2), First(3), Next(l, 2, out), Budget(l, 2, 1000), Open(l, 2)}
	wants := [][]int{{0, 0, 0}, {4, 2, 6}, {5, 0, 3}, {0, 2}}
	for i, a := range answers {
		is(t, fmt.Sprint("the answer ", i), a, wants[i%4])
		for j := range a {
			a[j] = 77
		}
		_ = append(a, 78)
	}
	is(t, "what was handed in", room, []int{5, 0, 3, 91, 92, 93, 94})
	is(t, "Total", Total(l, 2), 3+15+13)
	is(t, "what was handed in", room, []int{5, 0, 3, 91, 92, 93, 94})
}

// Long lists and long texts take no longer than short ones.
func TestLongThings(t *testing.T) { // R1
	begin := time.Now()
	l := make([]int, 1<<24)
	for i := range l {
		l[i] = 16
	}
	out := strings.Repeat("\x01", 1<<26)
	for range 1000 {
		is(t, "Total", Total(l, 2000), 6+6*2024)
		is(t, "Slot", len(Slot(l, 2000, 5, out)), 2024)
		is(t, "Slot", Slot(l, 2000, 6, out), "")
		is(t, "Want", Want(l, 5, out), 1)
		is(t, "Want", Want(l, 6, out), 0)
		is(t, "Open", Open(l, 2000), []int{0, 1, 2, 3, 4, 5})
		is(t, "Budget", Budget(l, 2000, 6000), []int{16, 16, 0, 0, 0, 0})
		is(t, "Share", Share(l, 2000, 0), 166)
	}
	is(t, "Next", Next(l, 2000, out), knownNext(l[:6], 2000, out[:6+6*2024]))
	is(t, "First", len(First(math.MaxInt)), 6)
	if took := time.Since(begin); took > time.Minute {
		t.Errorf("long things took %v", took)
	}
}
