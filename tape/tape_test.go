package tape

import (
	"encoding/binary"
	"fmt"
	"io"
	"math"
	"math/rand/v2"
	"slices"
	"strings"
	"testing"
	"time"

	"murmur/api"
)

// anyText is n bytes that follow no simple rule, the same ones for the same seed.
func anyText(n int, seed byte) string {
	out := make([]byte, n)
	rand.NewChaCha8([32]byte{seed}).Read(out)
	return string(out)
}

// someNumbers is numbers about what decimal digits end at, and about the ends of int.
func someNumbers() []int {
	out := []int{math.MinInt, math.MinInt + 1, math.MaxInt - 1, math.MaxInt, -1 << 32, -256, -101, -100, -10, -9, -2}
	for ten := 1; ten < 1e18; ten *= 10 {
		out = append(out, ten-2, ten-1, ten, ten+1)
	}
	return append(out, 255, 256, 5999, 6000, 6001, 65535, 65536, 1<<31-1, 1<<31, 1<<32, 1<<32+1)
}

// someNames is names of which many begin as others do.
func someNames() []string {
	return []string{"", " ", "  ", "a", "b", "A", "a ", " a", "aa", "ab", "a\x00", "a b", "À", "\xff", "pad", "pad 1", "pad 1 2", "pads"}
}

// shortLists is all lists of no more than four cells of three names, each cell with bytes of its own.
func shortLists() [][]api.Cell {
	out := [][]api.Cell{nil}
	for from := 0; len(out[from]) < 4; from++ {
		for i, name := range []string{"a", "b", ""} {
			c := api.Cell{Name: name, Bytes: []string{"", "x", "yz", "x"}[(i+len(out[from]))%4]}
			out = append(out, append(slices.Clone(out[from]), c))
		}
	}
	return out
}

// is holds what was answered against what is wanted.
func is[T comparable](t *testing.T, what string, got, want T) {
	t.Helper()
	if got != want {
		t.Fatalf("%s: %.80v, want %.80v", what, got, want)
	}
}

// are is the same of lists, of which one that is nil is empty.
func are[T comparable](t *testing.T, what string, got, want []T) {
	t.Helper()
	if !slices.Equal(got, want) {
		t.Fatalf("%s: %.80v, want %.80v", what, got, want)
	}
}

func TestDec(t *testing.T) { // P15.1
	for n, want := range map[int]string{0: "0", 1: "1", 9: "9", 10: "10", 100: "100", 1230: "1230", -1: "0", -5: "0", math.MinInt: "0", math.MaxInt: "9223372036854775807"} {
		is(t, fmt.Sprint("Dec ", n), Dec(n), want)
	}
	for _, n := range someNumbers() {
		want := "0"
		if n >= 1 {
			want = fmt.Sprint(n)
		}
		is(t, fmt.Sprint("Dec ", n), Dec(n), want)
	}
}

func TestGet(t *testing.T) { // P15.2
	l := []api.Cell{{Name: "a", Bytes: "1"}, {Name: "b", Bytes: ""}, {Name: "a", Bytes: "3"}, {Name: "", Bytes: "4"}, {Name: "b", Bytes: "5"}}
	for name, want := range map[string]string{"a": "1", "b": "", "": "4"} {
		s, there := Get(l, name)
		is(t, "Get "+name, s, want)
		is(t, "Get "+name, there, true)
	}
	for _, name := range []string{" ", "A", "B", "aa", "ab", "a ", " a", "a\x00", "1", "3", "5"} {
		if s, there := Get(l, name); s != "" || there {
			t.Errorf("Get %q: %q, %v", name, s, there)
		}
	}
	for _, none := range [][]api.Cell{nil, {}, l[:0]} {
		for _, name := range someNames() {
			if s, there := Get(none, name); s != "" || there {
				t.Errorf("Get %q of nothing: %q, %v", name, s, there)
			}
		}
	}
}

// getKnown is the chapter's sentence, read slowly: from behind, so that the first one is the last that is met.
func getKnown(l []api.Cell, name string) (string, bool) {
	out, there := "", false
	for _, c := range slices.Backward(l) {
		if c.Name == name {
			out, there = c.Bytes, true
		}
	}
	return out, there
}

// putKnown is the chapter's sentences, read slowly.
func putKnown(l []api.Cell, name, s string) []api.Cell {
	out, many := []api.Cell{}, 0
	for _, c := range l {
		if c.Name != name {
			out = append(out, c)
			continue
		}
		if many++; many == 1 {
			out = append(out, api.Cell{Name: name, Bytes: s})
		}
	}
	if many == 0 {
		out = append(out, api.Cell{Name: name, Bytes: s})
	}
	return out
}

func TestPut(t *testing.T) { // P15.3
	l := []api.Cell{{Name: "a", Bytes: "1"}, {Name: "b", Bytes: "2"}, {Name: "a", Bytes: "3"}, {Name: "c", Bytes: "4"}, {Name: "b", Bytes: "5"}, {Name: "a", Bytes: "1"}}
	for _, c := range []struct {
		l       []api.Cell
		name, s string
		want    string
	}{
		{l, "a", "9", "[{a 9} {b 2} {c 4} {b 5}]"},
		{l, "b", "", "[{a 1} {b } {a 3} {c 4} {a 1}]"},
		{l, "c", "4", "[{a 1} {b 2} {a 3} {c 4} {b 5} {a 1}]"},
		{l, "d", "9", "[{a 1} {b 2} {a 3} {c 4} {b 5} {a 1} {d 9}]"},
		{l, "", "9", "[{a 1} {b 2} {a 3} {c 4} {b 5} {a 1} { 9}]"},
		{l[:1], "a", "", "[{a }]"},
		{l[:0], "a", "9", "[{a 9}]"},
		{nil, "", "", "[{ }]"},
	} {
		is(t, "Put "+c.name, fmt.Sprint(Put(c.l, c.name, c.s)), c.want)
	}
	for _, name := range someNames() {
		are(t, "Put "+name, Put(l, name, "9"), putKnown(l, name, "9"))
	}
}

func TestPutOfShortLists(t *testing.T) { // P15.2, P15.3, P15.10
	lists := shortLists()
	is(t, "lists", len(lists), 1+3+9+27+81)
	for _, l := range lists {
		for _, name := range []string{"a", "b", "", "c"} {
			want, there := getKnown(l, name)
			s, is := Get(l, name)
			if s != want || is != there {
				t.Fatalf("Get %q of %q: %q, %v", name, l, s, is)
			}
			for _, s := range []string{"", "x", "new"} {
				puts(t, l, name, s)
			}
		}
	}
}

// puts holds a Put against the chapter, and what is got behind it against what was got ahead.
func puts(t *testing.T, l []api.Cell, name, s string) {
	t.Helper()
	out := Put(l, name, s)
	are(t, fmt.Sprintf("Put %q %q of %q", name, s, l), out, putKnown(l, name, s))
	for _, other := range []string{"a", "b", "", "c", "d"} {
		want, there := getKnown(l, other)
		if other == name {
			want, there = s, true
		}
		got, is := Get(out, other)
		if got != want || is != there {
			t.Fatalf("behind Put %q %q of %q: Get %q: %q, %v", name, s, l, other, got, is)
		}
	}
	named := func(c api.Cell) bool { return c.Name == name }
	are(t, "others", slices.DeleteFunc(slices.Clone(out), named), slices.DeleteFunc(slices.Clone(l), named))
}

func TestFit(t *testing.T) { // P15.4
	for _, c := range []struct {
		s    string
		n    int
		want string
	}{
		{"abc", 2, "ab"}, {"abc", 3, "abc"}, {"abc", 5, "abc\x00\x00"}, {"abc", 0, ""}, {"abc", -1, ""}, {"abc", math.MinInt, ""},
		{"", 0, ""}, {"", 2, "\x00\x00"}, {"", -1, ""}, {"ÀÀ", 3, "À\xc3"}, {"a\x00b", 2, "a\x00"},
	} {
		is(t, fmt.Sprintf("Fit %q %d", c.s, c.n), Fit(c.s, c.n), c.want)
	}
	for i, long := range []int{0, 1, 4, 255, 256, 5999, 6000, 6001, 65536} {
		s := anyText(long, byte(i))
		for _, n := range append(someNumbers(), long-1, long, long+1) {
			is(t, fmt.Sprint("Fit ", long, n), Fit(s, n), fitKnown(s, n))
		}
	}
}

// fitKnown is the chapter's sentence, byte by byte.
func fitKnown(s string, n int) string {
	out := strings.Builder{}
	for i := 0; i < n && i < 6000; i++ {
		if i < len(s) {
			out.WriteByte(s[i])
		} else {
			out.WriteByte(0)
		}
	}
	return out.String()
}

func TestNamesOfCells(t *testing.T) { // P15.5, P15.6
	for _, c := range []struct{ got, want string }{
		{PadName(100, 1, 0, 7), "pad 100 1 0 7"}, {PadName(1, 2, 3, 4), "pad 1 2 3 4"}, {PadName(-1, math.MinInt, 0, -7), "pad 0 0 0 0"},
		{PermName(0), "perm 0"}, {PermName(12), "perm 12"}, {PermName(-3), "perm 0"},
		{MaskName(1, 2, 3), "mask 1 2 3"}, {MaskName(10, 0, 6), "mask 10 0 6"}, {MaskName(-1, -2, -3), "mask 0 0 0"},
		{Member(100), "m 100"}, {Member(math.MaxInt), "m 9223372036854775807"}, {Member(-100), "m 0"},
		{Pseudonym(1, 2), "p 1 2"}, {Pseudonym(-1, -1), "p 0 0"},
		{SigName("m 100", 3), "sig m 100 3"}, {SigName("p 1 2", 0), "sig p 1 2 0"}, {SigName("a", -1), "sig a 0"}, {SigName("", 1), "sig  1"}, {SigName(" a  ", 1), "sig  a   1"}, {SigName("\xff\x00", 2), "sig \xff\x00 2"},
	} {
		is(t, "name", c.got, c.want)
	}
}

// Each number shows in its own place, and numbers below 0 as nought.
func TestNumbersOfNames(t *testing.T) { // P15.5, P15.6
	for i, a := range someNumbers() {
		n := [4]int{a, i, 3, 4}
		for turn := range 4 {
			a, b, c, d := n[turn], n[(turn+1)%4], n[(turn+2)%4], n[(turn+3)%4]
			is(t, "PadName", PadName(a, b, c, d), "pad"+told(a, b, c, d))
			is(t, "PermName", PermName(a), "perm"+told(a))
			is(t, "MaskName", MaskName(a, b, c), "mask"+told(a, b, c))
			is(t, "SigName", SigName("who", a), "sig who"+told(a))
			is(t, "Member", Member(a), "m"+told(a))
			is(t, "Pseudonym", Pseudonym(a, b), "p"+told(a, b))
		}
	}
}

// told is numbers as they stand in a name.
func told(l ...int) string {
	out := ""
	for _, n := range l {
		out += fmt.Sprintf(" %d", max(n, 0))
	}
	return out
}

// Names of all kinds, of all numbers of a few that might run together.
func TestUnlikeNames(t *testing.T) { // P15.11
	met, many := map[string]int{}, 0
	add := func(names ...string) {
		for _, name := range names {
			met[name]++
			many++
		}
	}
	for _, a := range []int{0, 1, 2, 10, 11, 100, 101, 110, 1 << 40, math.MaxInt} {
		add(PermName(a), Member(a))
		for _, b := range []int{0, 1, 10, 11, 101} {
			add(Pseudonym(a, b), SigName(Member(a), b))
			for _, c := range []int{0, 1, 11, 110} {
				add(MaskName(a, b, c), SigName(Pseudonym(a, b), c))
				for _, d := range []int{0, 1, 10, 111} {
					add(PadName(a, b, c, d))
				}
			}
		}
	}
	is(t, "unlike names", len(met), many)
	is(t, "names", many, 10*(2+5*(2+4*(2+4))))
}

// printKnown is the chapter's sentences on Print.
func printKnown(l []api.Cell) (string, api.Errno) {
	out := []byte{}
	for i, c := range l {
		if i >= 1000 || c.Name == "" || len(c.Name) > 200 || len(c.Bytes) > 6000 {
			return "", api.ErrLong
		}
		for _, s := range []string{c.Name, c.Bytes} {
			out = append(binary.BigEndian.AppendUint16(out, uint16(len(s))), s...)
		}
	}
	return string(out), api.OK
}

// source reads by the words of the chapter; there: nothing has been missing as yet.
type source struct {
	from  *strings.Reader
	there bool
}

// next is the next n bytes.
func (s *source) next(n int) string {
	out := make([]byte, n)
	if _, err := io.ReadFull(s.from, out); err != nil {
		s.there = false
	}
	return string(out)
}

// sized is the next bytes with a length ahead.
func (s *source) sized() string {
	return s.next(int(binary.BigEndian.Uint16([]byte(s.next(2)))))
}

// readKnown is the chapter's sentences on Read.
func readKnown(bytes string) ([]api.Cell, api.Errno) {
	s, out := &source{strings.NewReader(bytes), true}, []api.Cell{}
	for s.from.Len() > 0 {
		out = append(out, api.Cell{Name: s.sized(), Bytes: s.sized()})
		if !s.there {
			return nil, api.ErrShort
		}
		if _, err := printKnown(out); err != api.OK {
			return nil, err
		}
	}
	return out, api.OK
}

// prints holds a Print against the chapter, and against an error.
func prints(t *testing.T, l []api.Cell, want api.Errno) {
	t.Helper()
	bytes, err := printKnown(l)
	is(t, "what the chapter asks for", err, want)
	got, err := Print(l)
	is(t, "Print's error", err, want)
	is(t, "Print", got, bytes)
	if want == api.OK {
		reads(t, got, l, api.OK)
	}
}

// reads holds a Read against what is wanted.
func reads(t *testing.T, s string, want []api.Cell, wanted api.Errno) {
	t.Helper()
	got, err := Read(s)
	if err != wanted || !slices.Equal(got, want) {
		t.Fatalf("Read %.60q: %.80q, %d, want %.80q, %d", s, got, err, want, wanted)
	}
	if err != api.OK || len(got) == 0 {
		return
	}
	again, err := Print(got)
	is(t, "Print of what was read", err, api.OK)
	is(t, "Print of what was read", again, s)
}

func TestPrint(t *testing.T) { // P15.7, P15.12
	for _, c := range []struct {
		l    []api.Cell
		want string
	}{
		{nil, ""},
		{[]api.Cell{}, ""},
		{[]api.Cell{{Name: "a"}}, "\x00\x01a\x00\x00"},
		{[]api.Cell{{Name: "a", Bytes: "1"}, {Name: "bc", Bytes: "234"}, {Name: "a", Bytes: "1"}}, "\x00\x01a\x00\x011\x00\x02bc\x00\x03234\x00\x01a\x00\x011"},
		{[]api.Cell{{Name: "\x00", Bytes: strings.Repeat("x", 258)}}, "\x00\x01\x00\x01\x02" + strings.Repeat("x", 258)},
		{[]api.Cell{{Name: strings.Repeat("n", 200), Bytes: strings.Repeat("x", 6000)}}, "\x00\xc8" + strings.Repeat("n", 200) + "\x17\x70" + strings.Repeat("x", 6000)},
	} {
		got, err := Print(c.l)
		is(t, "Print", got, c.want)
		is(t, "Print's error", err, api.OK)
		prints(t, c.l, api.OK)
	}
	for _, l := range shortLists() {
		_, err := printKnown(l)
		prints(t, l, err)
	}
}

// A cell at each end of what is printed, first, in the middle and last of lists of all lengths about what is printed.
func TestPrintOfLongThings(t *testing.T) { // P15.7, P15.12
	odd := map[[2]int]api.Errno{{0, 0}: api.ErrLong, {0, 1}: api.ErrLong, {0, 6001}: api.ErrLong, {199, 5999}: api.OK, {200, 6000}: api.OK, {1, 6000}: api.OK, {200, 0}: api.OK,
		{201, 0}: api.ErrLong, {1, 6001}: api.ErrLong, {200, 6001}: api.ErrLong, {255, 1}: api.ErrLong, {256, 1}: api.ErrLong, {257, 1}: api.ErrLong, {65535, 1}: api.ErrLong,
		{65536, 1}: api.ErrLong, {65537, 1}: api.ErrLong, {1, 65535}: api.ErrLong, {1, 65536}: api.ErrLong, {1, 65537}: api.ErrLong}
	for _, many := range []int{1, 2, 3, 255, 256, 257, 999, 1000, 1001, 1002, 65536, 66536} {
		l, plain := make([]api.Cell, many), api.OK
		for i := range l {
			l[i] = api.Cell{Name: "n" + Dec(i%7), Bytes: anyText(i%5, byte(i))}
		}
		if many > 1000 {
			plain = api.ErrLong
		}
		prints(t, l, plain)
		for long, want := range odd {
			for _, at := range []int{0, many / 2, many - 1} {
				was := l[at]
				l[at] = api.Cell{Name: strings.Repeat("n", long[0]), Bytes: strings.Repeat("x", long[1])}
				prints(t, l, max(plain, want))
				l[at] = was
			}
		}
	}
	prints(t, slices.Repeat([]api.Cell{{Name: anyText(200, 1), Bytes: anyText(6000, 2)}}, 1000), api.OK)
}

func TestRead(t *testing.T) { // P15.8
	name, over := strings.Repeat("n", 201), "\x17\x71"+strings.Repeat("x", 6001)
	many := strings.Repeat("\x00\x01a\x00\x00", 1000)
	for _, c := range []struct {
		s    string
		want api.Errno
	}{
		{"", api.OK}, {"\x00\x01a\x00\x00", api.OK}, {"\x00\x01a\x00\x01x\x00\x01a\x00\x01y", api.OK}, {"\x00\xc8" + name[1:] + "\x17\x70" + over[3:], api.OK}, {many, api.OK},
		{"\x00", api.ErrShort}, {"x", api.ErrShort}, {"\x00\x01", api.ErrShort}, {"\x00\x01a", api.ErrShort}, {"\x00\x01a\x00", api.ErrShort},
		{"\x00\x01a\x00\x01", api.ErrShort}, {"\x00\x02a", api.ErrShort}, {"\x00\x01a\x00\x00\x00", api.ErrShort}, {"\x00\x01a\x00\x00x", api.ErrShort}, {"\x00\x01a\x01\x00" + name, api.ErrShort},
		{"\x00\x00\x00\x00", api.ErrLong}, {"\x00\x00\x00\x01x", api.ErrLong}, {"\x00\xc9" + name + "\x00\x00", api.ErrLong}, {"\x00\x01a" + over, api.ErrLong}, {"\x00\x00" + over, api.ErrLong}, {"\x00\xc9" + name + over, api.ErrLong},
		// of one cell what is missing is told first,
		{"\x00\x00", api.ErrShort}, {"\x00\x00\x00", api.ErrShort}, {"\x00\x00\x00\x02x", api.ErrShort}, {"\x00\xc9", api.ErrShort}, {"\x00\xc9" + name[1:], api.ErrShort}, {"\x00\xc9" + name, api.ErrShort},
		{"\x00\xc9" + name + "\x00\x01", api.ErrShort}, {"\xff\xff", api.ErrShort}, {"\x00\x01a\x17\x71", api.ErrShort}, {"\x00\x01a" + over[:6002], api.ErrShort}, {"\x00\x01a\xff\xff" + over, api.ErrShort},
		// of two cells what the one ahead has.
		{"\x00\x00\x00\x00\x00", api.ErrLong}, {"\x00\x00\x00\x00\x00\x01a\x00\x05", api.ErrLong}, {"\x00\x01a" + over + "\x00", api.ErrLong},
		{"\x00\x01a\x00\x00\x00\x00\x00\x00\x00\x00", api.ErrLong}, {"\x00\x01a\x00\x00\x00\x01a" + over, api.ErrLong}, {"\x00\x01a\x00\x00\x00\x09a\x00\x00", api.ErrShort},
		{many[5:] + "\x00", api.ErrShort}, {many[5:] + "\x00\x00\x00\x00", api.ErrLong},
		{many + "\x00\x01a\x00\x00", api.ErrLong}, {many + "\x00\x01a\x00\x00x", api.ErrLong}, {many + "\x00\x00\x00\x00", api.ErrLong}, {many + "\x00", api.ErrShort}, {many + "\x00\x01a\x00", api.ErrShort}, {many + many, api.ErrLong},
	} {
		want, err := readKnown(c.s)
		if err != c.want {
			t.Fatalf("Read %.60q: the chapter asks for %d, not %d", c.s, err, c.want)
		}
		reads(t, c.s, want, err)
	}
	reads(t, "\x00\x01a\x00\x00\x00\x02\xff \x00\x03\x00\x01x", []api.Cell{{Name: "a"}, {Name: "\xff ", Bytes: "\x00\x01x"}}, api.OK)
}

// What is printed, cut at each place, and with bytes altered; and any bytes.
func TestReadOfAnyBytes(t *testing.T) { // P15.8, P15.12, R1
	src, met := rand.New(rand.NewPCG(1, 2)), map[api.Errno]int{}
	read := func(s string) {
		want, err := readKnown(s)
		reads(t, s, want, err)
		met[err]++
	}
	for try := range 400 {
		l := make([]api.Cell, src.IntN(5))
		for i := range l {
			l[i] = api.Cell{Name: anyText(1+src.IntN(6), byte(try+i)), Bytes: anyText(src.IntN(6), byte(try-i))}
		}
		prints(t, l, api.OK)
		s, _ := printKnown(l)
		for at := range s {
			read(s[:at])
			b := []byte(s)
			b[at] = []byte{0, byte(src.IntN(8)), byte(src.IntN(256))}[src.IntN(3)]
			read(string(b))
		}
		read(anyText(src.IntN(40), byte(try)))
		for range 20 {
			small := make([]byte, src.IntN(20))
			for i := range small {
				small[i] = byte(max(0, src.IntN(8)-5))
			}
			read(string(small))
		}
	}
	if met[api.OK] < 1000 || met[api.ErrShort] < 1000 || met[api.ErrLong] < 1000 {
		t.Errorf("too few of a kind: %v", met)
	}
}

func TestNames(t *testing.T) { // P15.9
	l := []api.Cell{{Name: "pad 1"}, {Name: "pads"}, {Name: "pad"}, {Name: "sig pad 1"}, {Name: "pad "}, {Name: " pad 1"}, {Name: "Pad 1"}, {Name: "pad 0"}, {Name: "pad 1", Bytes: "x"}, {Name: "pad\x001"}, {Name: ""}, {Name: " "}, {Name: "sig m 1 2"}}
	for word, want := range map[string][]string{
		"pad": {"pad 1", "pad ", "pad 0", "pad 1"}, "sig": {"sig pad 1", "sig m 1 2"}, "sig pad": {"sig pad 1"}, "": {" pad 1", " "}, "pads": nil, "pa": nil, "pad ": nil, "pad 1": nil, "perm": nil, "m": nil, "sig m 1": {"sig m 1 2"},
	} {
		are(t, "Names of "+word, Names(l, word), want)
		are(t, "Names of nothing", Names(nil, word), nil)
	}
	all := []api.Cell{}
	for _, name := range someNames() {
		all = append(all, api.Cell{Name: name}, api.Cell{Name: name + " 7", Bytes: name})
	}
	for _, word := range someNames() {
		want := []string{}
		for _, c := range all {
			if len(c.Name) > len(word) && c.Name[:len(word)] == word && c.Name[len(word)] == ' ' {
				want = append(want, c.Name)
			}
		}
		are(t, "Names of "+word, Names(all, word), want)
	}
}

// Nothing that is handed in is changed, nor what lies behind a list's end, nor is it kept; what is answered is new each time.
func TestMemory(t *testing.T) { // R3, R4
	whole := []api.Cell{{Name: "a 1", Bytes: "1"}, {Name: "b 1", Bytes: "2"}, {Name: "a 1", Bytes: "3"}, {Name: "c 1", Bytes: "4"}, {Name: "d 1", Bytes: "5"}}
	was := slices.Clone(whole)
	for n := range len(whole) + 1 {
		for _, name := range []string{"a 1", "b 1", "c 1", "e"} {
			out := Put(whole[:n], name, "9")
			want := putKnown(was[:n], name, "9")
			are(t, "Put", out, want)
			again := Put(whole[:n], name, "9")
			clear(out)
			clear(out[:cap(out)])
			are(t, "handed in", whole, was)
			are(t, "Put again", again, want)
		}
		s, _ := Print(whole[:n])
		first, _ := Read(s)
		clear(first)
		reads(t, s, was[:n], api.OK)
		names := Names(whole[:n], "a")
		want := slices.Clone(names)
		clear(names)
		are(t, "Names again", Names(whole[:n], "a"), want)
		are(t, "handed in", whole, was)
	}
	out := Put(whole, "b 1", "9")
	clear(whole)
	are(t, "Put behind a change", out, putKnown(was, "b 1", "9"))
}

// What is far too long is told soon, and long lists are gone through but once.
func TestLongThings(t *testing.T) { // R1
	const n = 1 << 22
	begin, long, l := time.Now(), strings.Repeat("\x00", 1<<28), make([]api.Cell, n)
	odd := "\xff" + long
	for i := range l {
		l[i].Name = "a"
	}
	l[n/2].Name, l[n-1].Name = "b", "b c"
	for range 1000 {
		reads(t, long, nil, api.ErrLong)
		reads(t, odd, nil, api.ErrLong)
		is(t, "Fit", len(Fit(long, 1<<28)), 6000)
		prints(t, []api.Cell{{Name: long}}, api.ErrLong)
		prints(t, []api.Cell{{Name: "a", Bytes: long}}, api.ErrLong)
	}
	prints(t, l, api.ErrLong)
	_, there := Get(l, long)
	is(t, "Get", there, false)
	is(t, "Put", len(Put(l, "b", long)), n)
	are(t, "Put", Put(l[:n-1], "a", "9"), []api.Cell{{Name: "a", Bytes: "9"}, {Name: "b"}})
	is(t, "Put", len(Put(l, long, "")), n+1)
	are(t, "Names", Names(l, "b"), []string{"b c"})
	if took := time.Since(begin); took > time.Minute {
		t.Errorf("long things took %v", took)
	}
}
