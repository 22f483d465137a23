package phrase

import (
	"fmt"
	"math"
	"math/rand/v2"
	"slices"
	"strings"
	"testing"
	"time"
	"unicode/utf8"
)

const (
	capitals = "ABCDEFGHIJKLMNOPQRSTUVWXYZÀÁÂÃÄÅÆÇÈÉÊËÌÍÎÏÐÑÒÓÔÕÖØÙÚÛÜÝÞΑΒΓΔΕΖΗΘΙΚΛΜΝΞΟΠΡΣΤΥΦΧΨΩАБВГДЕЖЗИЙКЛМНОПРСТУФХЦЧШЩЪЫЬЭЮЯ"
	smalls   = "abcdefghijklmnopqrstuvwxyzàáâãäåæçèéêëìíîïðñòóôõöøùúûüýþαβγδεζηθικλμνξοπρστυφχψωабвгдежзийклмнопрстуфхцчшщъыьэюя"
	// Runes that Fold leaves, though some of them have a small letter elsewhere.
	plain = " !09@[`{~×ßàÿĀāŁłƒɏ«»÷ΪΫάςаяέϊόύώ¡®¬"
)

// knownAllowed is the chapter's runes, in decimal.
func knownAllowed(r rune) bool {
	return r >= 32 && r <= 126 || r >= 161 && r <= 172 || r >= 174 && r <= 591 || r >= 913 && r <= 929 || r >= 931 && r <= 969 || r >= 1040 && r <= 1103
}

// knownRunes is the runes of a text; none, if it may not be said.
func knownRunes(s string) []rune {
	if !utf8.ValidString(s) {
		return nil
	}
	out := []rune(s)
	for _, r := range out {
		if !knownAllowed(r) {
			return nil
		}
	}
	return out
}

// knownFold is the runes of a text, small.
func knownFold(s string) []rune {
	big, small := []rune(capitals), []rune(smalls)
	out := knownRunes(s)
	for i, r := range out {
		if at := slices.Index(big, r); at >= 0 {
			out[i] = small[at]
		}
	}
	return out
}

// knownSplit is the words of a text.
func knownSplit(s string) []string {
	out := []string{}
	for _, word := range strings.Split(string(knownRunes(s)), " ") {
		if word != "" {
			out = append(out, word)
		}
	}
	return out
}

// knownWrap is the chapter's sentence, step by step.
func knownWrap(s string, width int) []string {
	lines, line := []string{}, []rune{}
	if width < 1 {
		return lines
	}
	for _, word := range knownSplit(s) {
		rest := []rune(word)
		if len(line) > 0 {
			with := append(append(slices.Clone(line), ' '), rest...)
			if len(with) <= width {
				line = with
				continue
			}
			lines = append(lines, string(line))
		}
		for len(rest) > width {
			lines, rest = append(lines, string(rest[:width])), rest[width:]
		}
		line = rest
	}
	if len(line) > 0 {
		lines = append(lines, string(line))
	}
	return lines
}

// knownFind is the first place, each one looked at.
func knownFind(s, part string) int {
	all, wanted := knownFold(s), knownFold(part)
	for at := 0; at+len(wanted) <= len(all); at++ {
		if slices.Equal(all[at:at+len(wanted)], wanted) {
			return at
		}
	}
	return -1
}

// knownCompare is the chapter's order.
func knownCompare(a, b string) int {
	if by := slices.Compare(knownFold(a), knownFold(b)); by != 0 {
		return by
	}
	return slices.Compare([]byte(a), []byte(b))
}

// knownFill is the text with blanks, one by one.
func knownFill(s string, n int, left bool) string {
	out := knownRunes(s)
	out = out[:max(0, min(n, len(out)))]
	for len(out) < n && len(out) < 200 {
		if left {
			out = append([]rune{' '}, out...)
		} else {
			out = append(out, ' ')
		}
	}
	return string(out)
}

// is holds an answer against what is wanted.
func is[T comparable](t *testing.T, what string, got, want T) {
	t.Helper()
	if got != want {
		t.Errorf("%.200q: %.200q, want %.200q", what, fmt.Sprint(got), fmt.Sprint(want))
	}
}

// are holds a list against what is wanted.
func are(t *testing.T, what string, got, want []string) {
	t.Helper()
	if !slices.Equal(got, want) {
		t.Errorf("%.200q: %.200q, want %.200q", what, got, want)
	}
}

// wrongTexts is texts that may not be said, for one reason each.
func wrongTexts() []string {
	out := []string{"\n", "\t", "\x00", "\x1f", "\x7f", "a\x7f", "\u0080", "\u00a0", "\u00ad", "a\u00adb", "\u0250", "\u0390", "\u03a2", "\u03ca", "\u040f", "\u0450", "€", "\u2003", "日", "😀", "\U0010ffff", "\ufffd", "\ufeffa"}
	for _, s := range []string{
		"\x80", "\xbf", "\xc3", "\xe2\x82", "\xf0\x9f\x98", "\xff", "\xfe", // runes that are cut off, and bytes of none
		"\xc0\xa0", "\xc1\x81", "\xe0\x81\x81", "\xf0\x80\x81\x81", // longer than they need be
		"\xed\xa0\x80", "\xf4\x90\x80\x80", // of no rune
	} {
		out = append(out, s, s+"a", "a"+s, "ab cd"+s, "ab cd "+s, s+" ß")
	}
	return out
}

// smallTexts is all texts of at most so many pieces.
func smallTexts(most int, pieces ...string) []string {
	out, last := []string{""}, []string{""}
	for range most {
		longer := []string{}
		for _, s := range last {
			for _, p := range pieces {
				longer = append(longer, s+p)
			}
		}
		out, last = append(out, longer...), longer
	}
	return out
}

// someTexts is texts that follow no simple rule, and may be said.
func someTexts(n, most int) []string {
	src := rand.New(rand.NewPCG(3, 4))
	runes, out := []rune("    "+capitals+smalls+plain), []string{}
	for range n {
		s := make([]rune, src.IntN(most+1))
		for i := range s {
			s[i] = runes[src.IntN(len(runes))]
		}
		out = append(out, string(s))
	}
	return out
}

// allTexts is texts of all kinds.
func allTexts() []string {
	out := append(wrongTexts(), someTexts(200, 30)...)
	out = append(out, smallTexts(4, "a", "B", " ", "ß", "Я", "\xff")...)
	return append(out, capitals, smalls, plain, strings.Repeat("Σ ", 150), strings.Repeat("ab", 150), strings.Repeat(" ", 20))
}

// numbers is n at the ends of int and of a text, and in between.
func numbers() []int {
	return []int{math.MinInt, math.MinInt + 1, -200, -1, 0, 1, 2, 3, 4, 5, 7, 16, 30, 101, 199, 200, 201, 299, 300, 301, 1000, math.MaxInt - 1, math.MaxInt}
}

func TestEachRune(t *testing.T) { // P11.1, P11.2, P11.4
	big, small := []rune(capitals), []rune(smalls)
	if len(big) != len(small) || len(big) != 26+30+24+32 {
		t.Fatalf("%d capitals, %d small letters", len(big), len(small))
	}
	for r := rune(0); r <= utf8.MaxRune; r++ {
		s := string(r) // of a surrogate: U+FFFD
		if Right(s) != knownAllowed(r) || Right("a"+s+"b") != knownAllowed(r) {
			t.Fatalf("Right of the rune %x: %v, %v", r, Right(s), Right("a"+s+"b"))
		}
		want, fold := 0, ""
		if knownAllowed(r) {
			want, fold = 1, s
		}
		if at := slices.Index(big, r); at >= 0 {
			fold = string(small[at])
			is(t, "a small letter less its capital", small[at]-r, 32)
		}
		if Count(s) != want || Fold(s) != fold {
			t.Fatalf("the rune %x: Count %d, Fold %q", r, Count(s), Fold(s))
		}
	}
}

func TestRight(t *testing.T) { // P11.1
	for _, s := range []string{"a", " ", "~", "hello", "ßßßßßßßß", strings.Repeat("a", 16), strings.Repeat(" ", 16), "ßßßßßßßaa", "Ωω Яя ɏ"} {
		is(t, s, Right(s), true)
	}
	for _, s := range append(wrongTexts(), "", strings.Repeat("a", 17), "ßßßßßßßßa", "aßßßßßßßß", strings.Repeat("a", 1000), capitals) {
		is(t, s, Right(s), false)
	}
}

// All bytes that are a rune, or the begin or the middle of one.
func TestBytes(t *testing.T) { // P11.1, P11.7
	for a := range 256 {
		for b := range 256 {
			for _, s := range []string{string([]byte{byte(a)}), string([]byte{byte(a), byte(b)}), string([]byte{0xe1, byte(a), byte(b)})} {
				runes := knownRunes(s)
				if Right(s) != (len(runes) > 0) || Count(s) != len(runes) || Width(s) != len(string(runes)) {
					t.Fatalf("%x: %v, %d, %d", s, Right(s), Count(s), Width(s))
				}
			}
		}
	}
}

// A text that may not be said has no runes, whatever is asked of it.
func TestNoRunes(t *testing.T) { // P11.2 to P11.13, R2
	for _, s := range append(wrongTexts(), "") {
		is(t, "Count of "+s, Count(s), 0)
		is(t, "Width of "+s, Width(s), 0)
		for what, got := range map[string]string{"Fold": Fold(s), "Back": Back(s), "Bare": Bare(s), "Initials": Initials(s)} {
			is(t, what+" of "+s, got, "")
		}
		are(t, "Split of "+s, Split(s), nil)
		for _, n := range numbers() {
			is(t, "Cut of "+s, Cut(s, n), "")
			are(t, "Wrap of "+s, Wrap(s, n), nil)
			is(t, "Fill of "+s, Fill(s, n, false), strings.Repeat(" ", max(0, min(n, 200))))
			is(t, "Fill of "+s, Fill(s, n, true), strings.Repeat(" ", max(0, min(n, 200))))
		}
		is(t, "Find in "+s, Find(s, "a"), -1)
		is(t, "Find in "+s, Find(s, " "), -1)
		is(t, "Find in "+s, Find(s, "\xff"), 0)
		is(t, "Find of "+s, Find("abc", s), 0)
		is(t, "Compare with "+s, Compare(s, "!"), -1)
		is(t, "Compare with "+s, Compare("!", s), 1)
		is(t, "Compare with "+s, Compare(s, s), 0)
	}
}

func TestKnownOnes(t *testing.T) { // P11.2 to P11.13
	is(t, "Count", Count("aß"), 2)
	is(t, "Cut", Cut("ßx", 1), "ß")
	is(t, "Cut", Cut("aßЯ", 2), "aß")
	is(t, "Fold", Fold("ÀB"), "àb")
	is(t, "Fold", Fold("ЯΩ×ĀΪ"), "яω×ĀΪ")
	is(t, "Back", Back("aß"), "ßa")
	is(t, "Back", Back(" ab"), "ba ")
	are(t, "Split", Split("  a bc "), []string{"a", "bc"})
	is(t, "Width", Width("aßЯ"), 5)
	are(t, "Wrap", Wrap("ab cde fghij", 3), []string{"ab", "cde", "fgh", "ij"})
	are(t, "Wrap", Wrap("abcde f g hi", 3), []string{"abc", "de", "f g", "hi"})
	are(t, "Wrap", Wrap("abcd e fg", 3), []string{"abc", "d e", "fg"})
	are(t, "Wrap", Wrap("abcdef g", 3), []string{"abc", "def", "g"})
	are(t, "Wrap", Wrap("  a   b  ", 3), []string{"a b"})
	are(t, "Wrap", Wrap("ßß Я", 4), []string{"ßß Я"})
	are(t, "Wrap", Wrap("ab c", 1), []string{"a", "b", "c"})
	is(t, "Find", Find("hello", "LO"), 3)
	is(t, "Find", Find("ßßÀb", "àB"), 2)
	is(t, "Find", Find("aaa", "aa"), 0)
	is(t, "Find", Find("abc", ""), 0)
	is(t, "Find", Find("abc", "abcd"), -1)
	is(t, "Find", Find("abc", "ac"), -1)
	is(t, "Fill", Fill("abc", 2, false), "ab")
	is(t, "Fill", Fill("abc", 2, true), "ab")
	is(t, "Fill", Fill("aß", 4, false), "aß  ")
	is(t, "Fill", Fill("aß", 4, true), "  aß")
	is(t, "Bare", Bare("  a  bc "), "a bc")
	is(t, "Initials", Initials(" ab ßc  d"), "aßd")
}

func TestCompareKnownOnes(t *testing.T) { // P11.8
	for _, c := range []struct {
		less, more string
	}{
		{"A", "a"}, {"a", "B"}, {"A", "b"}, {"", "a"}, {"a", "ab"}, {"B", "bA"}, {"b", "BA"}, {"~", "¡"}, {"z", "à"}, {"Z", "À"}, {"ÿ", "Ā"}, {"Ā", "ā"},
		{"AB", "Ab"}, {"Ab", "aB"}, {"aB", "ab"}, {"ab", "AC"}, {"Zz", "zZ"}, {"@", "a"}, {"[", "A"}, {"`", "A"}, {"Ω", "А"}, {"Я", "я"}, {" ", "!"}, {" a", "a"},
		{"\xff", " "}, {"", "\xff"}, {"\x00", "\xff"}, {"\xfe", "\xff"}, {"\xff", "\xffa"}, {"\xffA", "\xffa"}, {"€", "a"},
	} {
		is(t, c.less+", "+c.more, Compare(c.less, c.more), -1)
		is(t, c.more+", "+c.less, Compare(c.more, c.less), 1)
		is(t, c.less, Compare(c.less, c.less), 0)
	}
}

func TestEachText(t *testing.T) { // P11.2 to P11.7, P11.12, P11.13
	for _, s := range allTexts() {
		runes, words := knownRunes(s), knownSplit(s)
		is(t, "Count of "+s, Count(s), len(runes))
		is(t, "Fold of "+s, Fold(s), string(knownFold(s)))
		are(t, "Split of "+s, Split(s), words)
		is(t, "Bare of "+s, Bare(s), strings.Join(words, " "))
		initials, width := []rune{}, 0
		for _, word := range words {
			initials = append(initials, []rune(word)[0])
		}
		for _, r := range runes {
			width += len(string(r))
		}
		is(t, "Initials of "+s, Initials(s), string(initials))
		is(t, "Width of "+s, Width(s), width)
		slices.Reverse(runes)
		is(t, "Back of "+s, Back(s), string(runes))
	}
}

func TestCutAndFill(t *testing.T) { // P11.3, P11.11
	for _, s := range allTexts() {
		runes := knownRunes(s)
		for _, n := range numbers() {
			is(t, "Cut of "+s, Cut(s, n), string(runes[:max(0, min(n, len(runes)))]))
			is(t, "Fill of "+s, Fill(s, n, false), knownFill(s, n, false))
			is(t, "Fill ahead of "+s, Fill(s, n, true), knownFill(s, n, true))
		}
	}
}

// Blanks are laid to 200 runes at most; a longer text is cut to n all the same.
func TestFillOfMuch(t *testing.T) { // P11.11
	for _, left := range []bool{false, true} {
		for _, n := range []int{200, 201, 1000, math.MaxInt} {
			is(t, "Fill", Count(Fill("ß", n, left)), 200)
		}
		long := strings.Repeat("ß", 250)
		is(t, "Fill", Fill(long, 199, left), long[:2*199])
		is(t, "Fill", Fill(long, 240, left), long[:2*240])
		is(t, "Fill", Fill(long, 300, left), long)
		is(t, "Fill", Fill(long, math.MaxInt, left), long)
		is(t, "Fill", Fill(long, math.MinInt, left), "")
	}
}

func TestWrap(t *testing.T) { // P11.9
	for _, s := range append(allTexts(), smallTexts(9, "a", " ")...) {
		for _, width := range numbers() {
			are(t, "Wrap of "+s, Wrap(s, width), knownWrap(s, width))
		}
	}
	for _, s := range someTexts(100, 60) {
		for width := range 62 {
			are(t, "Wrap of "+s, Wrap(s, width), knownWrap(s, width))
		}
	}
}

func TestFind(t *testing.T) { // P11.10
	parts := append(smallTexts(2, "a", "b", " ", "SS", "ß", "я", "\xff"), "aab", "aba", "a b", "яяя")
	for _, s := range append(smallTexts(5, "A", "b", "Я", " "), allTexts()...) {
		for _, part := range parts {
			is(t, "Find in "+s+" of "+part, Find(s, part), knownFind(s, part))
		}
	}
	for _, s := range someTexts(100, 20) {
		runes := knownRunes(s)
		for from := range runes {
			part := string(runes[from:min(len(runes), from+3)])
			is(t, "Find in "+s+" of "+part, Find(s, part), knownFind(s, part))
			is(t, "Find in "+s+" of small "+part, Find(s, Fold(part)), knownFind(s, part))
		}
	}
}

func TestTwice(t *testing.T) { // P11.14
	for _, s := range allTexts() {
		if knownRunes(s) != nil {
			is(t, "Back twice of "+s, Back(Back(s)), s)
		}
		is(t, "Fold twice of "+s, Fold(Fold(s)), Fold(s))
		for _, n := range numbers() {
			if knownRunes(s) == nil {
				continue
			}
			cut := Cut(s, n)
			rest := Back(Cut(Back(s), Count(s)-Count(cut)))
			is(t, "the cut and the rest of "+s, cut+rest, s)
		}
	}
}

func TestWidthIsLength(t *testing.T) { // P11.15
	for _, s := range allTexts() {
		if knownRunes(s) != nil {
			is(t, "Width of "+s, Width(s), len(s))
		}
	}
}

func TestCompareIsAnOrder(t *testing.T) { // P11.8, P11.16
	texts := append(smallTexts(2, "a", "A", "b", "Ω", "ω", " ", "\xff"), "abc", "ABC", "abd", "×", "÷", "aßЯ", "€", "\x7f", "\u00ad")
	slices.Sort(texts)
	texts = slices.Compact(texts)
	for _, a := range texts {
		for _, b := range texts {
			by := Compare(a, b)
			is(t, "Compare of "+a+", "+b, by, knownCompare(a, b))
			is(t, "Compare the other way of "+a+", "+b, Compare(b, a), -by)
			is(t, "Compare as the same of "+a+", "+b, by == 0, a == b)
			for _, c := range texts {
				if by < 0 && Compare(b, c) < 0 && Compare(a, c) >= 0 {
					t.Fatalf("%q, %q, %q are in no order", a, b, c)
				}
			}
		}
	}
	some := allTexts()
	for i, a := range some {
		b := some[(i*7+3)%len(some)]
		is(t, "Compare of "+a+", "+b, Compare(a, b), knownCompare(a, b))
	}
}

func TestLines(t *testing.T) { // P11.17
	for _, s := range allTexts() {
		for _, width := range numbers() {
			if width < 1 {
				continue
			}
			all := ""
			for _, line := range Wrap(s, width) {
				if n := Count(line); n > width || n < 1 || line[0] == ' ' || line[len(line)-1] == ' ' {
					t.Errorf("Wrap of %q to %d has the line %q", s, width, line)
				}
				all += line
			}
			is(t, "all lines of "+s, strings.ReplaceAll(all, " ", ""), strings.Join(knownSplit(s), ""))
		}
	}
}

// Long texts are gone through once, not once for each of their words or lines.
func TestLongTexts(t *testing.T) { // R1
	const n = 1 << 20
	begin := time.Now()
	words, word := strings.Repeat("ß ", n), strings.Repeat("Ω", n)
	is(t, "Split", len(Split(words)), n)
	is(t, "Wrap", len(Wrap(words, 1)), n)
	is(t, "Wrap", len(Wrap(words, math.MaxInt)), 1)
	is(t, "Wrap", len(Wrap(word, 1)), n)
	is(t, "Wrap", len(Wrap(word, n-1)), 2)
	is(t, "Initials", len(Initials(words)), 2*n)
	is(t, "Bare", len(Bare(words)), 3*n-1)
	is(t, "Find", Find(words, "ßß"), -1)
	is(t, "Find", Find(word+"a", strings.Repeat("ω", n/2)+"A"), n-n/2)
	is(t, "Back", Back(word+"a"), "a"+word)
	is(t, "Count", Count(Fill(word, n-1, true)), n-1)
	if took := time.Since(begin); took > time.Minute {
		t.Errorf("long texts took %v", took)
	}
}

// A list that was answered is nobody else's.
func TestMemory(t *testing.T) { // R3, R4
	const s = "ab cd  ef"
	for range 2 {
		words, lines := Split(s), Wrap(s, 2)
		are(t, "Split", words, []string{"ab", "cd", "ef"})
		are(t, "Wrap", lines, []string{"ab", "cd", "ef"})
		clear(words)
		are(t, "Wrap", lines, []string{"ab", "cd", "ef"})
		clear(lines)
	}
}
