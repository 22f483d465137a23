package parts

import (
	"encoding/binary"
	"io"
	"math"
	"math/rand/v2"
	"slices"
	"strings"
	"testing"

	"murmur/api"
)

// anyText is n bytes that follow no simple rule, the same ones for the same seed.
func anyText(n int, seed byte) string {
	out := make([]byte, n)
	rand.NewChaCha8([32]byte{seed}).Read(out)
	return string(out)
}

// knownNum is the five lowest bytes of n, the highest first.
func knownNum(n int) string {
	return string(binary.BigEndian.AppendUint64(nil, uint64(n))[3:])
}

// knownStr is a text with its length ahead.
func knownStr(s string) string {
	return string(binary.BigEndian.AppendUint16(nil, uint16(len(s)))) + s
}

// knownList is a list whose parts are laid already.
func knownList(laid []string) string {
	return string([]byte{byte(len(laid))}) + strings.Join(laid, "")
}

// each is what one makes of each of a list.
func each[T, U any](l []T, one func(T) U) []U {
	out := []U{}
	for _, x := range l {
		out = append(out, one(x))
	}
	return out
}

// reader is over s from the place at on, which is in it.
func reader(s string, at int) *strings.Reader {
	return strings.NewReader(s[at:])
}

// next is the next n bytes, and whether there are as many.
func next(r io.Reader, n int) ([]byte, bool) {
	out := make([]byte, n)
	_, err := io.ReadFull(r, out)
	return out, err == nil
}

// knownReadNum is the next number.
func knownReadNum(r io.Reader) (int, api.Errno) {
	told, there := next(r, 5)
	if !there {
		return 0, api.ErrShort
	}
	return int(binary.BigEndian.Uint64(append(make([]byte, 3), told...))), api.OK
}

// knownReadStr is the next text.
func knownReadStr(r io.Reader) (string, api.Errno) {
	size, there := next(r, 2)
	if !there {
		return "", api.ErrShort
	}
	long := int(binary.BigEndian.Uint16(size))
	if long > 6000 {
		return "", api.ErrLong
	}
	told, there := next(r, long)
	if !there {
		return "", api.ErrShort
	}
	return string(told), api.OK
}

// knownReadList is the next list, one reading each of its parts.
func knownReadList[T any](one func(io.Reader) (T, api.Errno)) func(io.Reader) ([]T, api.Errno) {
	return func(r io.Reader) ([]T, api.Errno) {
		many, there := next(r, 1)
		if !there {
			return nil, api.ErrShort
		}
		out := []T{}
		for range many[0] {
			x, err := one(r)
			if err != api.OK {
				return nil, err
			}
			out = append(out, x)
		}
		return out, api.OK
	}
}

// alike is whether two things of a plain type are the same.
func alike[T comparable](a, b T) bool {
	return a == b
}

// kind is one of the four kinds of parts: how it is laid and read, how this file reads it, and when two of them are the same.
type kind[T any] struct {
	name  string
	lay   func(T) (string, api.Errno)
	read  func(string, int) (T, int, api.Errno)
	known func(io.Reader) (T, api.Errno)
	same  func(a, b T) bool
}

var (
	numKind  = kind[int]{"Num", Num, ReadNum, knownReadNum, alike[int]}
	strKind  = kind[string]{"Str", Str, ReadStr, knownReadStr, alike[string]}
	numsKind = kind[[]int]{"Nums", Nums, ReadNums, knownReadList(knownReadNum), slices.Equal[[]int]}
	strsKind = kind[[]string]{"Strs", Strs, ReadStrs, knownReadList(knownReadStr), slices.Equal[[]string]}
)

// lays holds what is laid against what is wanted.
func (k kind[T]) lays(t *testing.T, x T, want string) {
	t.Helper()
	if got, err := k.lay(x); got != want || err != api.OK {
		t.Errorf("%s(%.60v): %.80q, %d, want %.80q, 0", k.name, x, got, err, want)
	}
}

// refuses wants just this error of what is not laid.
func (k kind[T]) refuses(t *testing.T, x T, want api.Errno) {
	t.Helper()
	if got, err := k.lay(x); got != "" || err != want {
		t.Errorf("%s(%.60v): %.80q, %d, want nothing, %d", k.name, x, got, err, want)
	}
}

// reads holds what is read against what is wanted.
func (k kind[T]) reads(t *testing.T, s string, at int, want T, behind int) {
	t.Helper()
	if got, to, err := k.read(s, at); !k.same(got, want) || to != behind || err != api.OK {
		t.Errorf("Read%s(%.80q, %d): %.60v, %d, %d, want %.60v, %d, 0", k.name, s, at, got, to, err, want, behind)
	}
}

// fails wants just this error of what is not read.
func (k kind[T]) fails(t *testing.T, s string, at int, want api.Errno) {
	t.Helper()
	var zero T
	if got, to, err := k.read(s, at); !k.same(got, zero) || to != 0 || err != want {
		t.Errorf("Read%s(%.80q, %d): %.60v, %d, %d, want nothing, 0, %d", k.name, s, at, got, to, err, want)
	}
}

// readsBack wants what is laid read again, wherever it stands, and nothing of it if it ends too soon.
func (k kind[T]) readsBack(t *testing.T, x T) {
	t.Helper()
	laid, err := k.lay(x)
	if err != api.OK {
		t.Fatalf("%s(%.60v): %d", k.name, x, err)
	}
	k.reads(t, laid, 0, x, len(laid))
	for _, ahead := range []string{"\x00", "\xff\xff", anyText(9, 1)} {
		k.reads(t, ahead+laid, len(ahead), x, len(ahead)+len(laid))
		k.reads(t, ahead+laid+anyText(9, 2), len(ahead), x, len(ahead)+len(laid))
	}
	for n := 0; n < len(laid); n += 1 + len(laid)/100 {
		k.fails(t, laid[:n], 0, api.ErrShort)
		k.fails(t, "\x00\x05"+laid[:n], 2, api.ErrShort)
	}
	k.fails(t, laid[:len(laid)-1], 0, api.ErrShort)
}

// refusesPlaces wants ErrArg of each place that is not in the text, whatever that has.
func (k kind[T]) refusesPlaces(t *testing.T) {
	t.Helper()
	for _, s := range []string{"", "\x00", "\x00\x00", "\xff\xff", strings.Repeat("\x00", 5), strings.Repeat("\x00", 20), anyText(100, 3)} {
		for _, at := range []int{-1, -2, -len(s) - 1, len(s) + 1, len(s) + 2, math.MinInt, math.MinInt + 1, math.MaxInt - 1, math.MaxInt} {
			k.fails(t, s, at, api.ErrArg)
		}
		k.fails(t, s, len(s), api.ErrShort)
	}
}

// readsAny holds the reading of any bytes, from each place, against that of this file, and lays what was read.
func (k kind[T]) readsAny(t *testing.T, s string) {
	t.Helper()
	for at := range len(s) + 1 {
		r := reader(s, at)
		want, err := k.known(r)
		if err != api.OK {
			k.fails(t, s, at, err)
			continue
		}
		behind := len(s) - r.Len()
		k.reads(t, s, at, want, behind)
		k.lays(t, want, s[at:behind])
	}
}

// numbers is numbers at their ends and in between.
func numbers() []int {
	out := []int{0, 1, 100, 258, 6000, 0x0102030405, 1<<40 - 1, 1<<40 - 2}
	for bit := range 40 {
		out = append(out, 1<<bit, 1<<bit-1, 1<<40-1-1<<bit)
	}
	return out
}

// wrongNumbers is numbers past the ends.
func wrongNumbers() []int {
	out := []int{-1, -2, -255, -256, 1 << 40, 1<<40 + 1, math.MinInt, math.MinInt + 1, math.MaxInt, math.MaxInt - 1}
	for bit := 40; bit < 63; bit++ {
		out = append(out, 1<<bit, 1<<bit+5, -1<<bit, -1<<bit+5)
	}
	return out
}

// texts is texts of all lengths at which something changes.
func texts() []string {
	out := []string{"", "a", "ab", "\x00", "\x00\x00", "\xff", "\xff\xff", "aß", strings.Repeat("\xff", 300), strings.Repeat("\x00", 6000)}
	for i, n := range []int{3, 5, 127, 128, 255, 256, 257, 511, 512, 4095, 4096, 5999, 6000} {
		out = append(out, anyText(n, byte(i)))
	}
	return out
}

// longTexts is texts that are too long; the lowest two bytes of some lengths would not show it.
func longTexts() []string {
	return each([]int{6001, 6002, 8192, 65535, 65536, 65537, 65538, 70000, 1 << 20}, func(n int) string { return anyText(n, 4) })
}

// chosen is n things, each one of l.
func chosen[T any](l []T, n int) []T {
	out := []T{}
	for i := range n {
		out = append(out, l[(7*i+n)%len(l)])
	}
	return out
}

// counts is how many a list may have.
func counts() []int {
	return []int{0, 1, 2, 3, 5, 127, 128, 254, 255}
}

// wrongCounts is how many it may not have; the lowest byte of some would not show it.
func wrongCounts() []int {
	return []int{256, 257, 300, 511, 512, 513, 1000, 65536}
}

// with is l with x at the place at.
func with[T any](l []T, at int, x T) []T {
	out := slices.Clone(l)
	out[at] = x
	return out
}

func TestKnownOnes(t *testing.T) { // P10.1, P10.3, P10.5
	numKind.lays(t, 0, "\x00\x00\x00\x00\x00")
	numKind.lays(t, 1, "\x00\x00\x00\x00\x01")
	numKind.lays(t, 0x0102030405, "\x01\x02\x03\x04\x05")
	numKind.lays(t, 1<<40-1, "\xff\xff\xff\xff\xff")
	strKind.lays(t, "", "\x00\x00")
	strKind.lays(t, "ab", "\x00\x02ab")
	strKind.lays(t, strings.Repeat("x", 6000), "\x17\x70"+strings.Repeat("x", 6000))
	numsKind.lays(t, nil, "\x00")
	numsKind.lays(t, []int{}, "\x00")
	numsKind.lays(t, []int{1}, "\x01\x00\x00\x00\x00\x01")
	numsKind.lays(t, []int{256, 2}, "\x02\x00\x00\x00\x01\x00\x00\x00\x00\x00\x02")
	strsKind.lays(t, nil, "\x00")
	strsKind.lays(t, []string{}, "\x00")
	strsKind.lays(t, []string{""}, "\x01\x00\x00")
	strsKind.lays(t, []string{"a", "", "bc"}, "\x03\x00\x01a\x00\x00\x00\x02bc")
}

func TestNum(t *testing.T) { // P10.1
	for _, n := range numbers() {
		numKind.lays(t, n, knownNum(n))
	}
	for _, n := range wrongNumbers() {
		numKind.refuses(t, n, api.ErrArg)
	}
}

func TestReadNum(t *testing.T) { // P10.2
	for _, n := range numbers() {
		s := "ab" + knownNum(n) + "c"
		numKind.reads(t, s, 2, n, 7)
		numKind.reads(t, s[2:7], 0, n, 5)
	}
	numKind.refusesPlaces(t)
	for n := range 5 {
		numKind.fails(t, anyText(n, 5), 0, api.ErrShort)
		numKind.fails(t, anyText(20+n, 5), 20, api.ErrShort)
	}
}

func TestStr(t *testing.T) { // P10.3
	for _, s := range texts() {
		strKind.lays(t, s, knownStr(s))
	}
	for _, s := range longTexts() {
		strKind.refuses(t, s, api.ErrLong)
	}
}

func TestReadStr(t *testing.T) { // P10.4
	for _, s := range texts() {
		laid := "ab" + knownStr(s) + "c"
		strKind.reads(t, laid, 2, s, 4+len(s))
		strKind.reads(t, laid[2:4+len(s)], 0, s, 2+len(s))
	}
	strKind.refusesPlaces(t)
	strKind.fails(t, "\x00", 0, api.ErrShort)
	strKind.fails(t, "\xff", 0, api.ErrShort)
	strKind.fails(t, "ab\x17", 2, api.ErrShort)
}

// A length that is too great is told ahead of bytes that are not there, and also if they are.
func TestReadStrOfLengths(t *testing.T) { // P10.4, R2
	all := anyText(65535, 6)
	for size := range 65536 {
		head := string(binary.BigEndian.AppendUint16(nil, uint16(size)))
		if size > 6000 {
			strKind.fails(t, head, 0, api.ErrLong)
			strKind.fails(t, head+all[:6001], 0, api.ErrLong)
			continue
		}
		strKind.reads(t, head+all[:size], 0, all[:size], 2+size)
		if size > 0 {
			strKind.fails(t, head, 0, api.ErrShort)
			strKind.fails(t, head+all[:size-1], 0, api.ErrShort)
		}
	}
	strKind.fails(t, "\xff\xff"+all, 0, api.ErrLong)
}

func TestNums(t *testing.T) { // P10.5
	for _, n := range counts() {
		l := chosen(numbers(), n)
		numsKind.lays(t, l, knownList(each(l, knownNum)))
		for at := range l {
			numsKind.refuses(t, with(l, at, wrongNumbers()[at%len(wrongNumbers())]), api.ErrArg)
		}
	}
}

func TestStrs(t *testing.T) { // P10.5
	long := longTexts()
	for _, n := range counts() {
		l := chosen(texts(), n)
		strsKind.lays(t, l, knownList(each(l, knownStr)))
		for at := range l {
			strsKind.refuses(t, with(l, at, long[at%len(long)]), api.ErrLong)
		}
	}
	full := chosen([]string{strings.Repeat("x", 6000)}, 255)
	strsKind.lays(t, full, knownList(each(full, knownStr)))
}

// How many there are is told ahead of what is wrong of one.
func TestListsOfTooMany(t *testing.T) { // P10.5, R2
	for _, n := range wrongCounts() {
		numsKind.refuses(t, chosen(numbers(), n), api.ErrLong)
		numsKind.refuses(t, chosen(wrongNumbers(), n), api.ErrLong)
		numsKind.refuses(t, with(chosen(numbers(), n), 0, -1), api.ErrLong)
		numsKind.refuses(t, with(chosen(numbers(), n), n-1, 1<<40), api.ErrLong)
		strsKind.refuses(t, chosen([]string{"", "ab"}, n), api.ErrLong)
		strsKind.refuses(t, with(chosen([]string{"a"}, n), 0, longTexts()[0]), api.ErrLong)
	}
}

func TestReadNums(t *testing.T) { // P10.6
	for _, n := range counts() {
		l := chosen(numbers(), n)
		laid := knownList(each(l, knownNum))
		numsKind.reads(t, laid, 0, l, 1+5*n)
		numsKind.reads(t, "abc"+laid+"d", 3, l, 4+5*n)
		for long := range laid {
			numsKind.fails(t, laid[:long], 0, api.ErrShort)
		}
	}
	numsKind.refusesPlaces(t)
	numsKind.reads(t, "\x02\x00\x00\x00\x00\x01\x00\x00\x00\x01\x00", 0, []int{1, 256}, 11)
	numsKind.reads(t, "\x00\x00", 1, nil, 2)
}

func TestReadStrs(t *testing.T) { // P10.6
	for _, n := range counts() {
		l := chosen([]string{"", "a", "bc", "\x00", "\xff\xff\xff", anyText(40, 7)}, n)
		laid := knownList(each(l, knownStr))
		strsKind.reads(t, laid, 0, l, len(laid))
		strsKind.reads(t, "abc"+laid+"d", 3, l, 3+len(laid))
		for long := range len(laid) {
			strsKind.fails(t, laid[:long], 0, api.ErrShort)
		}
	}
	strsKind.refusesPlaces(t)
	full := chosen([]string{strings.Repeat("x", 6000)}, 255)
	strsKind.reads(t, knownList(each(full, knownStr)), 0, full, 1+255*6002)
}

// Of several texts that are wrong the first one's error is told.
func TestReadStrsOfWrongTexts(t *testing.T) { // P10.6, R2
	long := "\x17\x71" + strings.Repeat("x", 6001)
	for _, c := range []struct {
		s    string
		want api.Errno
	}{
		{"\x01", api.ErrShort},
		{"\x01\x00", api.ErrShort},
		{"\x01\x00\x01", api.ErrShort},
		{"\x01\xff\xff", api.ErrLong},
		{"\x01" + long, api.ErrLong},
		{"\x02\x00\x00" + long, api.ErrLong},
		{"\x02" + long + "\x00\x00", api.ErrLong},
		{"\x03\x00\x01a\x17\x71", api.ErrLong},
		{"\x03\x00\x01a\x17\x70", api.ErrShort},
		{"\xff\x00\x05abcd", api.ErrShort},
		{"\x02\x00\x05abcd" + long[:2], api.ErrShort},
	} {
		strsKind.fails(t, c.s, 0, c.want)
		strsKind.fails(t, "\x00\x00"+c.s, 2, c.want)
	}
	strsKind.reads(t, "\x01\x00\x01a"+long, 0, []string{"a"}, 4)
}

func TestWhatIsLaidIsRead(t *testing.T) { // P10.7
	for _, n := range numbers() {
		numKind.readsBack(t, n)
	}
	for _, s := range texts() {
		strKind.readsBack(t, s)
	}
	for _, n := range counts() {
		numsKind.readsBack(t, chosen(numbers(), n))
		strsKind.readsBack(t, chosen(texts(), n))
	}
}

// Any bytes: small ones often, so that many of them are read.
func TestWhatIsReadIsLaidSo(t *testing.T) { // P10.2, P10.4, P10.6, P10.7, R1
	src := rand.New(rand.NewPCG(1, 2))
	for range 3000 {
		s := make([]byte, src.IntN(40))
		for i := range s {
			s[i] = byte([]int{0, src.IntN(4), src.IntN(256), 255}[src.IntN(4)] >> src.IntN(3))
		}
		numKind.readsAny(t, string(s))
		strKind.readsAny(t, string(s))
		numsKind.readsAny(t, string(s))
		strsKind.readsAny(t, string(s))
	}
	for _, s := range []string{strings.Repeat("\x00", 300), strings.Repeat("\x01", 300), strings.Repeat("\xff", 1300), anyText(2000, 8)} {
		numKind.readsAny(t, s)
		strKind.readsAny(t, s)
		numsKind.readsAny(t, s)
		strsKind.readsAny(t, s)
	}
}

// Parts lie one behind the other: the place behind one is where the next begins.
func TestPartAfterPart(t *testing.T) { // P10.2, P10.4, P10.6, P10.7
	ahead := knownStr("group")
	nums := knownList(each([]int{4, 5, 6}, knownNum))
	strs := knownList(each([]string{"", "x"}, knownStr))
	s := ahead + nums + strs + knownNum(7) + "\x00" + knownStr("")
	group, at, _ := ReadStr(s, 0)
	numbers, at, _ := ReadNums(s, at)
	words, at, _ := ReadStrs(s, at)
	if group != "group" || !slices.Equal(numbers, []int{4, 5, 6}) || !slices.Equal(words, []string{"", "x"}) {
		t.Errorf("read: %q, %v, %q", group, numbers, words)
	}
	numKind.reads(t, s, at, 7, at+5)
	strsKind.reads(t, s, at+5, nil, at+6)
	strKind.reads(t, s, at+6, "", len(s))
}

// Neither the lists nor what lies behind their ends is changed, and no two answers share their memory.
func TestMemory(t *testing.T) { // R3, R4
	nums, strs := []int{1, 2, 3, -4, 5}, []string{"a", "b", "c", "d", "e"}
	wasNums, wasStrs := slices.Clone(nums), slices.Clone(strs)
	numsKind.lays(t, nums[:3], knownList(each(wasNums[:3], knownNum)))
	strsKind.lays(t, strs[:3], knownList(each(wasStrs[:3], knownStr)))
	if !slices.Equal(nums, wasNums) || !slices.Equal(strs, wasStrs) {
		t.Errorf("what was handed in is changed: %v, %q", nums, strs)
	}
	laidNums, laidStrs := knownList(each(wasNums[:3], knownNum)), knownList(each(wasStrs[:3], knownStr))
	readNums, _, _ := ReadNums(laidNums, 0)
	readStrs, _, _ := ReadStrs(laidStrs, 0)
	clear(readNums)
	clear(readStrs)
	numsKind.reads(t, laidNums, 0, wasNums[:3], len(laidNums))
	strsKind.reads(t, laidStrs, 0, wasStrs[:3], len(laidStrs))
}
