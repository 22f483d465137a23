package cast

import (
	"fmt"
	"math"
	"math/rand/v2"
	"slices"
	"strings"
	"testing"
	"time"

	"murmur/api"
	"murmur/frame"
	"murmur/ladder"
	"murmur/layout"
	"murmur/pad"
)

// anyText is n bytes that follow no simple rule, the same ones for the same seed.
func anyText(n int, seed byte) string {
	out := make([]byte, n)
	rand.NewChaCha8([32]byte{seed}).Read(out)
	return string(out)
}

// noughts is n bytes 0.
func noughts(n int) string {
	return strings.Repeat("\x00", n)
}

// far is the ends of int, and numbers that smaller kinds of integers would cut.
func far() []int {
	return []int{math.MinInt, math.MinInt + 1, -1 << 32, 1 << 32, 1<<32 + 5, math.MaxInt - 1, math.MaxInt}
}

// numbers is slots, and what is wanted: all that may be, those past the ends, and the ends of int.
func numbers() []int {
	out := append(far(), 255, 256, 257, -256)
	for n := -3; n <= 20; n++ {
		out = append(out, n)
	}
	return out
}

// layouts is some of all kinds: with slots that are open and closed, none, and more than there may be.
func layouts() [][]int {
	return [][]int{
		nil, {}, {0}, {5}, {16}, {17}, {-1}, {0, 0}, {0, 5}, {5, 0}, {1, 1}, {0, 5, 3}, {16, 1, 0, 2}, {5, 17, -1, 3}, {math.MaxInt, 2, math.MinInt},
		{0, 0, 0, 0, 0, 0}, {1, 2, 3, 4, 5, 6}, {0, 5, 0, 16, 1, 0}, {0, 0, 0, 0, 0, 0, 0}, {0, 5, 3, 0, 16, 1, 7}, {5, 5, 5, 5, 5, 5, 5, 5, 5}, make([]int, 300),
	}
}

// is holds what was answered against what is wanted.
func is(t *testing.T, what string, got, want any) {
	t.Helper()
	a, b := fmt.Sprint(got), fmt.Sprint(want)
	if a != b {
		t.Fatalf("%s: %.300q, want %.300q", what, a, b)
	}
}

// alike holds all that a book has against another one.
func alike(t *testing.T, what string, got, want api.Book) {
	t.Helper()
	is(t, what+": the book", fmt.Sprintf("%+v", got), fmt.Sprintf("%+v", want))
}

// copyOf is the book, with lists of its own of all that pads could hang on.
func copyOf(b api.Book) api.Book {
	b.Cells, b.Used, b.Counts = slices.Clone(b.Cells), slices.Clone(b.Used), slices.Clone(b.Counts)
	b.Issued, b.Taken, b.Forged, b.Missed = slices.Clone(b.Issued), slices.Clone(b.Taken), slices.Clone(b.Forged), slices.Clone(b.Missed)
	return b
}

// of is a book of the ideal mode, with a cell for each second text, named by the one ahead.
func of(texts ...string) api.Book {
	b := api.Book{Ideal: true, Shape: api.Shape{N: 2, H: 1}}
	for i := 0; i+1 < len(texts); i += 2 {
		b.Cells = append(b.Cells, api.Cell{Name: texts[i], Bytes: texts[i+1]})
	}
	return b
}

// seeded is a book of the real mode.
func seeded(seed string) api.Book {
	return api.Book{Seed: seed, Shape: api.Shape{N: 2, H: 1}}
}

// group is who belongs to it, each client its own buddy.
func group(servers, clients int, gone ...int) api.Roster {
	r := api.Roster{Group: "g", Servers: servers, Clients: clients, Gone: gone}
	for i := range max(0, min(clients, 6)) {
		r.Buddies = append(r.Buddies, i)
	}
	return r
}

// names is what the cells are called.
func names(l []api.Cell) []string {
	out := []string{}
	for _, c := range l {
		out = append(out, c.Name)
	}
	return out
}

// The chapter, read slowly: knownX is what it says of X.

// knownOpen is whether a slot of that capacity is open.
func knownOpen(capacity, sig int) bool {
	return capacity >= 1 && capacity <= 16 && sig >= 0 && sig <= 2000
}

func knownContent(l []int, sig, slot, want int, framed string) string {
	l = l[:min(len(l), 6)]
	bytes, spots := "", ""
	for s, c := range l {
		mine := s == slot && want >= 0 && want <= 16
		switch {
		case !knownOpen(c, sig) && mine:
			bytes += string([]byte{byte(want)})
		case !knownOpen(c, sig):
			bytes += "\x00"
		case mine && len(framed) == 8+c+sig:
			bytes += "\x00"
			spots += framed
		default:
			bytes += "\x00"
			spots += noughts(8 + c + sig)
		}
	}
	return bytes + spots
}

// knownServers is those that live.
func knownServers(r api.Roster) []int {
	out := []int{}
	for s := range 4 {
		if s < r.Servers && !slices.Contains(r.Gone, s) {
			out = append(out, s)
		}
	}
	return out
}

// knownXor is two texts as long as one another, exclusively or'ed.
func knownXor(a, b string) string {
	if len(a) != len(b) {
		panic("of other lengths")
	}
	out := []byte{}
	for i := range len(a) {
		out = append(out, a[i]^b[i])
	}
	return string(out)
}

func knownPads(b api.Book, r api.Roster, client int, at [2]int, n int) (string, api.Book) {
	n = max(0, min(n, 6000))
	out := noughts(n)
	for _, s := range knownServers(r) {
		one, behind := pad.Pad(b, [2]int{client, s}, at[0], at[1], n)
		out, b = knownXor(out, one), behind
	}
	return out, b
}

func knownCipher(b api.Book, r api.Roster, client int, at [2]int, content string) (string, api.Book) {
	head := min(len(content), 6000)
	hidden, b := knownPads(b, r, client, at, head)
	return knownXor(content[:head], hidden) + content[head:], b
}

// asksPads is Pads, and Cipher of some bytes as long, held against the chapter; and what was handed in is as it was.
func asksPads(t *testing.T, b api.Book, r api.Roster, client int, at [2]int, n int) (string, api.Book) {
	t.Helper()
	was, gone := copyOf(b), slices.Clone(r.Gone)
	what := fmt.Sprint(" of ", r.Servers, r.Gone[:min(len(r.Gone), 9)], client, at, n)
	want, wanted := knownPads(b, r, client, at, n)
	got, out := Pads(b, r, client, at, n)
	is(t, "Pads"+what, got, want)
	alike(t, "Pads"+what, out, wanted)
	content := anyText(max(0, min(n, 7000)), 9)
	want, wanted = knownCipher(b, r, client, at, content)
	hidden, other := Cipher(b, r, client, at, content)
	is(t, "Cipher"+what, hidden, want)
	alike(t, "Cipher"+what, other, wanted)
	alike(t, "handed in"+what, b, was)
	is(t, "who is gone"+what, r.Gone, gone)
	return got, out
}

func TestContent(t *testing.T) { // P20.1
	nine := "123456789"
	for _, c := range []struct {
		l               []int
		sig, slot, want int
		framed, out     string
	}{
		{[]int{0, 0}, 18, 1, 7, "", "\x00\x07"}, {[]int{0, 0}, 18, 0, 7, "", "\x07\x00"}, {[]int{0}, 18, 0, 17, "", "\x00"}, {[]int{0}, 18, 0, 16, "", "\x10"}, {[]int{0}, 18, 0, 0, "", "\x00"}, {[]int{0}, 18, 0, -1, "", "\x00"},
		{[]int{0, 0}, 18, 2, 7, "", "\x00\x00"}, {[]int{0, 0}, 18, -1, 7, "", "\x00\x00"}, {nil, 18, 0, 7, "", ""}, {nil, 18, 0, 7, nine, ""}, {[]int{0}, 18, 0, 7, nine, "\x07"}, {[]int{17}, 18, 0, 7, noughts(43), "\x07"}, {[]int{-1, 0}, 18, 0, 7, nine, "\x07\x00"},
		{[]int{1}, 0, 0, 0, nine, "\x00" + nine}, {[]int{1}, 0, 0, 16, nine, "\x00" + nine}, {[]int{1}, 0, 0, 17, nine, noughts(10)}, {[]int{1}, 0, 0, -1, nine, noughts(10)}, {[]int{1}, 0, 1, 3, nine, noughts(10)}, {[]int{1}, 0, -1, 3, nine, noughts(10)},
		{[]int{1}, 0, 0, 3, nine[:8], noughts(10)}, {[]int{1}, 0, 0, 3, nine + "0", noughts(10)}, {[]int{1}, 0, 0, 3, "", noughts(10)}, {[]int{1}, 2001, 0, 3, nine, "\x03"}, {[]int{1}, -1, 0, 3, nine, "\x03"}, {[]int{1}, -1, 0, 3, nine[:8], "\x03"},
		{[]int{0, 1, 1, 0}, 0, 1, 3, nine, noughts(4) + nine + noughts(9)}, {[]int{0, 1, 1, 0}, 0, 2, 3, nine, noughts(4) + noughts(9) + nine}, {[]int{0, 1, 1, 0}, 0, 0, 3, nine, "\x03" + noughts(21)}, {[]int{0, 1, 1, 0}, 0, 3, 3, nine, "\x00\x00\x00\x03" + noughts(18)},
		{[]int{1, 2}, 0, 1, 3, nine, noughts(2 + 9 + 10)}, {[]int{1, 2}, 0, 0, 3, nine + "0", noughts(2 + 9 + 10)}, {[]int{1, 2}, 0, 1, 3, nine + "0", noughts(2+9) + nine + "0"},
		{make([]int, 7), 18, 5, 9, "", "\x00\x00\x00\x00\x00\x09"}, {make([]int, 7), 18, 6, 9, "", noughts(6)}, {[]int{0, 0, 0, 0, 0, 1, 1}, 0, 5, 9, nine, noughts(6) + nine}, {[]int{0, 0, 0, 0, 0, 1, 1}, 0, 6, 9, nine, noughts(15)},
	} {
		is(t, fmt.Sprintf("Content %v %d %d %d %.12q", c.l[:min(len(c.l), 9)], c.sig, c.slot, c.want, c.framed), Content(c.l, c.sig, c.slot, c.want, c.framed), c.out)
	}
}

// All kinds of layouts, signatures and slots, whatever is wanted, and what is framed as long as a slot of it, or a byte more or less.
func TestContentOfAll(t *testing.T) { // P20.1, R1, R3
	for _, l := range layouts() {
		handed := slices.Clone(l)
		for _, sig := range []int{0, 1, 18, 2000, -1, 2001, math.MinInt, math.MaxInt} {
			longs := []int{0, 1, 8, 9, 2024}
			for s := range min(len(l), 6) {
				from, to := layout.Spot(l, sig, s)
				longs = append(longs, to-from, to-from+1, max(0, to-from-1))
			}
			slices.Sort(longs)
			for _, long := range slices.Compact(longs) {
				framed := anyText(long, 1)
				for _, slot := range numbers() {
					for _, want := range []int{0, 1, 16, 17, -1, 256, 257, math.MinInt, math.MaxInt} {
						is(t, fmt.Sprint("Content ", l[:min(len(l), 9)], sig, slot, want, long), Content(l, sig, slot, want, framed), knownContent(l, sig, slot, want, framed))
					}
				}
			}
			for _, want := range numbers() {
				is(t, fmt.Sprint("Content ", l[:min(len(l), 9)], sig, want), Content(l, sig, 1, want, ""), knownContent(l, sig, 1, want, ""))
			}
		}
		is(t, "what was handed in", l, handed)
	}
}

// Outside the slot's byte and its spot all is nought, so that contents of slots that differ do not meet.
func TestContentIsNoughtOutside(t *testing.T) { // P20.5
	for _, l := range layouts() {
		for _, sig := range []int{-1, 0, 18, 2000} {
			all := noughts(layout.Total(l, sig))
			slots := min(len(l), 6)
			for slot := range slots {
				from, to := layout.Spot(l, sig, slot)
				framed := strings.Repeat("\xff", to-from)
				out := Content(l, sig, slot, 16, framed)
				for i := range out {
					mine := i == slot && from == to || i >= from && i < to
					is(t, fmt.Sprint("what is not nought of ", l, sig, slot, " at ", i), out[i] != 0, mine)
				}
				all = knownXor(all, out)
				is(t, "what a reader finds there", layout.Slot(l, sig, slot, all), framed)
				for other := range slots {
					if other != slot && from < to {
						is(t, "what a reader finds elsewhere", strings.Trim(layout.Slot(l, sig, other, out), "\x00"), "")
					}
				}
			}
		}
	}
}

// What a content says is what comes next.
func TestContentIsRead(t *testing.T) { // P20.1
	l := []int{0, 5, 0, 16}
	for slot, c := range l {
		for want := range 17 {
			framed := ""
			if c > 0 {
				laid, err := frame.Lay(api.Said{Next: want, Seq: 1, Text: "hi", Sig: "ab"}, c, 2, "seed")
				is(t, "the error of Lay", err, api.OK)
				framed = laid
			}
			next := make([]int, 4)
			next[slot] = want
			is(t, fmt.Sprint("Next behind ", slot, want), layout.Next(l, 2, Content(l, 2, slot, want, framed)), next)
		}
	}
}

func TestPads(t *testing.T) { // P20.2
	b := of("pad 100 0 0 3", "\x01\x02", "pad 100 1 0 3", "\x04", "pad 100 2 0 3", "\x10\x20\x40\x80", "pad 101 0 0 3", "aaaa", "pad 100 0 3 0", "bbbb", "pad 0 100 0 3", "cccc", "pad 100 3 0 3", "\xff\xff\xff\xff", "pad 100 4 0 3", "dddd")
	for _, c := range []struct {
		r      api.Roster
		client int
		at     [2]int
		n      int
		out    string
		used   string
	}{
		{group(2, 1), 100, [2]int{0, 3}, 2, "\x05\x02", "[pad 100 0 0 3 pad 100 1 0 3]"}, {group(3, 1), 100, [2]int{0, 3}, 3, "\x15\x22\x40", "[pad 100 0 0 3 pad 100 1 0 3 pad 100 2 0 3]"},
		{group(3, 1, 0), 100, [2]int{0, 3}, 2, "\x14\x20", "[pad 100 1 0 3 pad 100 2 0 3]"}, {group(3, 1, 1), 100, [2]int{0, 3}, 2, "\x11\x22", "[pad 100 0 0 3 pad 100 2 0 3]"}, {group(3, 1, 2), 100, [2]int{0, 3}, 2, "\x05\x02", "[pad 100 0 0 3 pad 100 1 0 3]"}, {group(3, 1, 0, 2), 100, [2]int{0, 3}, 2, "\x04\x00", "[pad 100 1 0 3]"},
		{group(3, 1, 0, 1, 2), 100, [2]int{0, 3}, 2, "\x00\x00", "[]"}, {group(0, 1), 100, [2]int{0, 3}, 2, "\x00\x00", "[]"}, {group(math.MinInt, 1), 100, [2]int{0, 3}, 1, "\x00", "[]"}, {group(4, 1), 100, [2]int{0, 3}, 1, "\xea", "[pad 100 0 0 3 pad 100 1 0 3 pad 100 2 0 3 pad 100 3 0 3]"}, {group(5, 1), 100, [2]int{0, 3}, 1, "\xea", "[pad 100 0 0 3 pad 100 1 0 3 pad 100 2 0 3 pad 100 3 0 3]"}, {group(math.MaxInt, 1), 100, [2]int{0, 3}, 1, "\xea", "[pad 100 0 0 3 pad 100 1 0 3 pad 100 2 0 3 pad 100 3 0 3]"},
		{group(1, 1, 100), 100, [2]int{0, 3}, 1, "\x01", "[pad 100 0 0 3]"}, {group(1, 1), 101, [2]int{0, 3}, 5, "aaaa\x00", "[pad 101 0 0 3]"}, {group(1, 0), 100, [2]int{3, 0}, 4, "bbbb", "[pad 100 0 3 0]"}, {group(2, 6), 105, [2]int{0, 3}, 1, "\x00", "[pad 105 0 0 3 pad 105 1 0 3]"}, {group(2, 1), -7, [2]int{-1, -2}, 1, "\x00", "[pad 0 0 0 0 pad 0 1 0 0]"},
		{group(2, 1), 100, [2]int{0, 3}, 0, "", "[pad 100 0 0 3 pad 100 1 0 3]"}, {group(2, 1), 100, [2]int{0, 3}, -1, "", "[pad 100 0 0 3 pad 100 1 0 3]"}, {group(2, 1), 100, [2]int{0, 3}, 6001, "\x05\x02" + noughts(5998), "[pad 100 0 0 3 pad 100 1 0 3]"},
	} {
		what := fmt.Sprint("Pads ", c.r.Servers, c.r.Gone, c.client, c.at, c.n)
		got, out := asksPads(t, b, c.r, c.client, c.at, c.n)
		is(t, what, got, c.out)
		is(t, what+": Used", names(out.Used), c.used)
		is(t, what+": Cells", len(out.Cells), len(b.Cells))
		again, behind := asksPads(t, out, c.r, c.client, c.at, c.n)
		is(t, what+" again", again, c.out)
		alike(t, what+" again", behind, out)
	}
}

// A pad that was used goes on with what it was, however short.
func TestPadsThatWereUsed(t *testing.T) { // P20.2
	for _, ideal := range []bool{true, false} {
		b := of("pad 100 0 0 3", "cell", "pad 100 1 0 3", "cell")
		b.Ideal, b.Used = ideal, []api.Cell{{Name: "pad 100 1 0 3", Bytes: "\x01"}, {Name: "pad 100 0 0 3", Bytes: "\x02\x03"}}
		got, out := asksPads(t, b, group(2, 1), 100, [2]int{0, 3}, 4)
		is(t, "Pads", got, "\x03\x03\x00\x00")
		alike(t, "Pads", out, b)
	}
}

// Of a seed pads take up what both share; the book has all of them, server by server.
func TestPadsOfASeed(t *testing.T) { // P20.2
	for _, seed := range []string{"", "seed", anyText(100, 1)} {
		b := seeded(seed)
		got, out := asksPads(t, b, group(3, 2, 1), 101, [2]int{2, 5}, 70)
		want := knownXor(pad.Of(pad.Shared(b, 101, 0, 2), 5, 70), pad.Of(pad.Shared(b, 101, 2, 2), 5, 70))
		is(t, "Pads", got, want)
		is(t, "Used", names(out.Used), "[pad 101 0 2 5 pad 101 2 2 5]")
		is(t, "Cells", names(out.Cells), "[shared pad 101 0 2 shared pad 101 2 2]")
		again, behind := asksPads(t, out, group(3, 2, 1), 101, [2]int{2, 5}, 70)
		is(t, "Pads again", again, want)
		alike(t, "a book asked again", behind, out)
	}
}

// Each length about the ends.
func TestPadsOfEachLength(t *testing.T) { // P20.2
	b := of("pad 100 0 0 0", anyText(7000, 1), "pad 100 1 0 0", anyText(6000, 2), "pad 100 2 0 0", anyText(100, 3))
	for _, n := range append(far(), -2, -1, 0, 1, 2, 63, 64, 65, 99, 100, 101, 5999, 6000, 6001, 6999, 7000, 7001) {
		got, _ := asksPads(t, b, group(3, 1), 100, [2]int{0, 0}, n)
		is(t, fmt.Sprint("bytes of Pads ", n), len(got), max(0, min(n, 6000)))
		got, _ = asksPads(t, b, group(0, 1), 100, [2]int{0, 0}, n)
		is(t, fmt.Sprint("Pads of nobody ", n), got, noughts(max(0, min(n, 6000))))
	}
}

func TestCipher(t *testing.T) { // P20.3
	b := of("pad 100 0 0 3", "\x01\x02", "pad 100 1 0 3", "\x04")
	got, out := Cipher(b, group(2, 1), 100, [2]int{0, 3}, "\x00\x07")
	is(t, "the example", got, "\x05\x05")
	is(t, "Used", fmt.Sprintf("%q", out.Used), `[{"pad 100 0 0 3" "\x01\x02"} {"pad 100 1 0 3" "\x04\x00"}]`)
	got, out = Cipher(b, group(2, 1), 100, [2]int{0, 3}, "")
	is(t, "of nothing", got, "")
	is(t, "Used of nothing", names(out.Used), "[pad 100 0 0 3 pad 100 1 0 3]")
	got, out = Cipher(b, group(2, 1, 0, 1), 100, [2]int{0, 3}, "abc")
	is(t, "of nobody", got, "abc")
	alike(t, "of nobody", out, b)
	for _, ideal := range []bool{true, false} {
		b := of("pad 101 0 1 2", anyText(7000, 1), "pad 101 1 1 2", anyText(6000, 2))
		b.Ideal = ideal
		for _, n := range []int{0, 1, 64, 65, 5999, 6000, 6001, 6500, 20000} {
			content := anyText(n, 3)
			hidden, out := Cipher(b, group(2, 2), 101, [2]int{1, 2}, content)
			want, wanted := knownCipher(b, group(2, 2), 101, [2]int{1, 2}, content)
			is(t, fmt.Sprint("Cipher of ", n), hidden, want)
			alike(t, "Cipher", out, wanted)
			// The same pads once more, and the content is there again.
			bare, behind := Cipher(out, group(2, 2), 101, [2]int{1, 2}, hidden)
			is(t, "Cipher of a ciphertext", bare, content)
			alike(t, "Cipher of a ciphertext", behind, out)
			pads, _ := Pads(b, group(2, 2), 101, [2]int{1, 2}, n)
			bare, _ = Cipher(out, group(2, 2), 101, [2]int{1, 2}, noughts(len(pads)))
			is(t, "Cipher of noughts", bare, pads)
		}
	}
}

// Another client, epoch or round has another ciphertext of the same content, and so have other servers.
func TestCiphersDiffer(t *testing.T) { // P20.2, P20.3
	b, met, many := seeded("seed"), map[string]bool{}, 0
	for client := range 3 {
		for epoch := range 3 {
			for round := range 3 {
				for _, gone := range [][]int{nil, {0}, {1}, {2}} {
					hidden := ""
					hidden, b = Cipher(b, group(3, 3, gone...), 100+client, [2]int{epoch, round}, "the same content")
					met[hidden] = true
					many++
				}
			}
		}
	}
	is(t, "ciphertexts that differ", len(met), many)
}

// All ciphertexts of a round, and all pads as the servers have them, are all contents.
func TestAllOfARound(t *testing.T) { // P20.4
	src := rand.New(rand.NewPCG(1, 2))
	for try := range 60 {
		b := seeded(anyText(5, byte(try)))
		b.Ideal = try%3 == 0
		servers, clients, at := 1+src.IntN(4), 1+src.IntN(6), [2]int{src.IntN(3), src.IntN(9)}
		r := group(servers, clients)
		for s := range servers {
			if src.IntN(4) == 0 {
				r.Gone = append(r.Gone, s)
			}
		}
		l := make([]int, clients)
		for i := range l {
			l[i] = max(0, src.IntN(30)-13)
		}
		for c := range clients {
			for s := range servers {
				b.Cells = append(b.Cells, api.Cell{Name: fmt.Sprint("pad ", 100+c, " ", s, " ", at[0], " ", at[1]), Bytes: anyText(100, byte(src.IntN(256)))})
			}
		}
		ciphers, contents, pads, before := noughts(layout.Total(l, 2)), noughts(layout.Total(l, 2)), noughts(layout.Total(l, 2)), b
		for c, slot := range src.Perm(clients) {
			from, to := layout.Spot(l, 2, slot)
			content := Content(l, 2, slot, src.IntN(17), anyText(to-from, byte(slot)))
			hidden := ""
			hidden, b = Cipher(b, r, 100+c, at, content)
			ciphers, contents = knownXor(ciphers, hidden), knownXor(contents, content)
		}
		for _, s := range knownServers(r) {
			for c := range clients {
				pads = knownXor(pads, theirs(t, before, c, s, at, len(pads)))
			}
		}
		is(t, fmt.Sprint("all of ", servers, r.Gone, l), knownXor(ciphers, pads), contents)
	}
}

// theirs is a client's pad as the server has it: of the seed by the server's own secret, and the client's public key.
func theirs(t *testing.T, b api.Book, c, s int, at [2]int, n int) string {
	t.Helper()
	if b.Ideal {
		out, _ := pad.Pad(b, [2]int{100 + c, s}, at[0], at[1], n)
		return out
	}
	public, err := ladder.Public(pad.Secret(b, 100+c, s, at[0]))
	is(t, "the error of Public", err, api.OK)
	out, err := pad.Reveal(pad.Server(b, s, at[0]), public, at[1], n)
	is(t, "the error of Reveal", err, api.OK)
	return out
}

// Any few cells, any roster, and any numbers, also those that may not be.
func TestAnyBooks(t *testing.T) { // P20.2, P20.3, R1
	src := rand.New(rand.NewPCG(3, 4))
	all := []string{"pad 100 0 0 0", "pad 100 1 0 0", "pad 100 2 0 0", "pad 100 3 0 0", "pad 100 0 0 1", "pad 101 0 0 0", "pad 100 0 1 0", "pad 0 0 0 0", "shared pad 100 0 0", "shared pad 100 3 0", ""}
	cells := func() []api.Cell {
		out := make([]api.Cell, src.IntN(7))
		for i := range out {
			out[i] = api.Cell{Name: all[src.IntN(len(all))], Bytes: anyText(src.IntN(40), byte(src.IntN(4)))}
		}
		return out
	}
	ints := append(far(), -1, 0, 0, 0, 1, 2, 3, 4, 100, 100, 100, 101, 105, 106)
	some := func() int { return ints[src.IntN(len(ints))] }
	for range 300 {
		b := api.Book{Ideal: src.IntN(4) > 0, Seed: anyText(2, byte(src.IntN(2))), Cells: cells(), Used: cells(), Counts: []api.Count{{Who: "m 1", N: 3}}, Issued: []api.Issue{{Who: "m 1"}}, Taken: []api.Issue{{Who: "m 2"}}, Forged: []api.Issue{{Who: "m 3"}}, Missed: []api.Issue{{Who: "m 4"}}}
		for range 3 {
			r := api.Roster{Servers: some(), Clients: some()}
			for range src.IntN(4) {
				r.Gone = append(r.Gone, some())
			}
			_, b = asksPads(t, b, r, some(), [2]int{some(), some()}, src.IntN(80)-2)
		}
	}
}

// Nothing that is handed in is changed, nor what lies behind a list's end; and books that came of one do not change each other.
func TestMemory(t *testing.T) { // R3, R4
	for _, ideal := range []bool{true, false} {
		behind := api.Cell{Name: "behind"}
		cells := []api.Cell{{Name: "pad 100 0 0 0", Bytes: "cells"}, {Name: "shared pad 100 1 0", Bytes: "shared"}, behind, behind, behind, behind}
		used := []api.Cell{{Name: "pad 100 2 0 0", Bytes: "used"}, behind, behind, behind, behind}
		gone, room := []int{3, 91, 92}, []int{0, 5, 93}
		cellsWere, usedWere := slices.Clone(cells), slices.Clone(used)
		b := seeded("seed")
		b.Ideal, b.Cells, b.Used = ideal, cells[:2], used[:1]
		r := group(4, 2)
		r.Gone = gone[:1]
		_, one := Pads(b, r, 100, [2]int{0, 0}, 9)
		kept := copyOf(one)
		Pads(b, r, 101, [2]int{0, 0}, 9)
		Cipher(one, r, 101, [2]int{0, 1}, "content")
		alike(t, "a book", one, kept)
		_, again := Pads(b, r, 100, [2]int{0, 0}, 9)
		alike(t, "a book made again", again, kept)
		clear(again.Used)
		if !ideal {
			clear(again.Cells)
		}
		alike(t, "a book", one, kept)
		Content(room[:2], 18, 1, 3, noughts(31))
		is(t, "what was handed in", []any{cells, used, gone, room}, []any{cellsWere, usedWere, []int{3, 91, 92}, []int{0, 5, 93}})
	}
}

// Long lists and long texts take no longer than going through them.
func TestLongThings(t *testing.T) { // R1
	begin := time.Now()
	l := make([]int, 1<<24)
	for i := range l {
		l[i] = 16
	}
	long := strings.Repeat("long", 1<<24)
	for range 1000 {
		is(t, "bytes of Content", len(Content(l, 2000, 5, 3, long)), 6+6*2024)
		is(t, "bytes of Content", len(Content(l, 2000, 6, 3, long[:2024])), 6+6*2024)
	}
	got := Content(l, 2000, 5, 3, long[:2024])
	is(t, "Content", got, noughts(6+5*2024)+long[:2024])
	b, r := of("pad 100 1 0 0", long), group(math.MaxInt, math.MaxInt)
	r.Gone = l
	hidden, _ := Cipher(b, r, 100, [2]int{0, 0}, long)
	is(t, "bytes of Cipher", len(hidden), len(long))
	is(t, "Cipher behind its pads", hidden[6000:] == long[6000:], true)
	is(t, "Cipher", strings.Trim(hidden[:6000], "\x00"), "")
	b.Cells, b.Used = make([]api.Cell, 1<<20), make([]api.Cell, 1<<20)
	_, out := Pads(b, r, 100, [2]int{0, 0}, 10)
	is(t, "Used", len(out.Used), 1<<20+4)
	if took := time.Since(begin); took > time.Minute {
		t.Errorf("long things took %v", took)
	}
}
