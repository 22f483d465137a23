package letter

import (
	"encoding/binary"
	"io"
	"math"
	"math/rand/v2"
	"reflect"
	"slices"
	"strings"
	"testing"
	"time"

	"murmur/api"
)

// anyText is n bytes that follow no simple rule, the same ones for the same seed.
func anyText(n int, seed byte) string {
	out := make([]byte, n)
	rand.NewChaCha8([32]byte{seed}).Read(out)
	return string(out)
}

// someTexts is texts as long as all that the chapter names, and about it.
func someTexts() []string {
	out := []string{}
	for i, n := range []int{0, 1, 2, 31, 32, 33, 255, 256, 257, 5993, 5998, 5999, 6000, 6001, 65535, 65536, 65538} {
		out = append(out, anyText(n, byte(i)))
	}
	return append(out, strings.Repeat("\x00", 32), strings.Repeat("À", 16), strings.Repeat("À", 32))
}

// someNumbers is numbers about the ends of what five bytes hold, and of int.
func someNumbers() []int {
	out := []int{math.MinInt, math.MinInt + 1, math.MaxInt - 1, math.MaxInt, -1 << 40, -256}
	for _, end := range []int{0, 100, 256, 1 << 16, 1 << 32, 1 << 39, 1 << 40} {
		out = append(out, end-1, end, end+1)
	}
	return out
}

// someLists is lists of all that a list's bytes count, and about it, with odd numbers at their first, middle and last places.
func someLists() [][]int {
	out := [][]int{nil, {}, make([]int, 65536), make([]int, 65537)}
	for _, many := range []int{1, 2, 3, 127, 254, 255, 256, 257, 511} {
		rising := make([]int, many)
		for i := range rising {
			rising[i] = 100 + i
		}
		out = append(out, rising)
		for i, n := range someNumbers() {
			odd := slices.Clone(rising)
			odd[[]int{0, many / 2, many - 1}[i%3]] = n
			out = append(out, odd)
		}
	}
	return out
}

// someStrs is the same of texts.
func someStrs() [][]string {
	out := [][]string{nil, {}, someTexts()[:12], {"", "", ""}, make([]string, 65536), make([]string, 65537)}
	for _, many := range []int{1, 2, 3, 254, 255, 256, 257, 511} {
		alike := slices.Repeat([]string{"ab"}, many)
		out = append(out, alike)
		for i, s := range someTexts() {
			odd := slices.Clone(alike)
			odd[[]int{0, many / 2, many - 1}[i%3]] = s
			out = append(out, odd)
		}
	}
	return append(out, slices.Repeat([]string{anyText(6000, 1)}, 255), []string{anyText(2997, 1), anyText(2998, 2)}, []string{anyText(2998, 1), anyText(2998, 2)})
}

// someValues is values of all six types, right and wrong, each field at all that the above have.
func someValues() []any {
	out, lists, strs, numbers := []any{}, someLists(), someStrs(), someNumbers()
	for i, s := range someTexts() {
		out = append(out, api.Cast{Bytes: s}, api.Pledge{Digest: s}, api.Out{Certs: []string{s}})
		for _, l := range strs[:40] {
			out = append(out, api.Share{Bytes: s, Opened: l})
		}
		for at, l := range lists {
			out = append(out, api.Cert{Out: s, Who: l, Clock: numbers[(i+at)%len(numbers)]})
		}
	}
	for _, n := range numbers {
		for _, l := range lists {
			out = append(out, api.Listing{Who: l, Clock: n}, api.Cert{Out: "ab", Who: l, Clock: n})
		}
	}
	for _, l := range strs {
		out = append(out, api.Out{Certs: l}, api.Share{Bytes: "ab", Opened: l})
	}
	return out
}

// smallValues is values that can be laid, in few bytes.
func smallValues() []any {
	out := []any{api.Cast{}, api.Listing{}, api.Pledge{Digest: anyText(32, 1)}, api.Share{}, api.Cert{}, api.Out{}}
	src := rand.New(rand.NewPCG(1, 2))
	for i := range 400 {
		text, list, strs := anyText(src.IntN(9), byte(i)), make([]int, src.IntN(4)), make([]string, src.IntN(4))
		for at := range list {
			list[at] = src.IntN(1 << (1 + src.IntN(40)))
		}
		for at := range strs {
			strs[at] = anyText(src.IntN(9), byte(i+at))
		}
		n := src.IntN(1 << (1 + src.IntN(40)))
		out = append(out, api.Cast{Bytes: text}, api.Listing{Who: list, Clock: n}, api.Pledge{Digest: anyText(32, byte(i))})
		out = append(out, api.Share{Bytes: text, Opened: strs}, api.Cert{Out: text, Who: list, Clock: n}, api.Out{Certs: strs})
	}
	return out
}

// Types that are much like one of the six, and are none.
type (
	ownCast    api.Cast
	ownPledge  api.Pledge
	holdsCast  struct{ api.Cast }
	holdsCerts struct{ api.Out }
)

// otherValues is values of no type that is laid.
func otherValues() []any {
	return []any{
		nil, 0, 1, 1.5, "", "cast", true, api.OK, api.KindCast, []any{}, map[int]int{}, func() {}, make(chan int), math.NaN(),
		&api.Cast{}, &api.Listing{}, &api.Pledge{}, &api.Share{}, &api.Cert{}, &api.Out{}, (*api.Cast)(nil),
		[]api.Cast{{}}, [1]api.Out{}, struct{}{}, struct{ Bytes string }{}, struct{ Certs []string }{}, any(nil), error(nil),
		ownCast{}, ownPledge{Digest: anyText(32, 1)}, holdsCast{}, holdsCerts{},
		api.Seal{}, api.Round{}, api.List{There: true}, api.Lay{}, api.Accusation{}, api.Act{}, api.Mail{}, api.Keeper{},
	}
}

// layer lays parts by the words of the document's chapter on them, up to the first error.
type layer struct {
	out []byte
	err api.Errno
}

// need is an error, if it is the first, and something is not as it must be.
func (l *layer) need(is bool, err api.Errno) {
	if l.err == api.OK && !is {
		l.err = err
	}
}

func (l *layer) num(n int) {
	l.need(n >= 0 && n <= 1<<40-1, api.ErrArg)
	l.out = append(l.out, binary.BigEndian.AppendUint64(nil, uint64(n))[3:]...)
}

func (l *layer) str(s string) {
	l.need(len(s) <= 6000, api.ErrLong)
	l.out = append(binary.BigEndian.AppendUint16(l.out, uint16(len(s))), s...)
}

func (l *layer) nums(list []int) {
	l.need(len(list) <= 255, api.ErrLong)
	l.out = append(l.out, byte(len(list)))
	for _, n := range list {
		l.num(n)
	}
}

func (l *layer) strs(list []string) {
	l.need(len(list) <= 255, api.ErrLong)
	l.out = append(l.out, byte(len(list)))
	for _, s := range list {
		l.str(s)
	}
}

// wanted is what the chapter says of a value.
type wanted struct {
	kind, long int
	bytes      string
	err        api.Errno
}

// wantOf is the chapter's sentences.
func wantOf(v any) wanted {
	l, w := &layer{}, wanted{}
	switch x := v.(type) {
	case api.Cast:
		w.kind, w.long = 1, 2+len(x.Bytes)
		l.str(x.Bytes)
	case api.Listing:
		w.kind, w.long = 2, 6+5*len(x.Who)
		l.nums(x.Who)
		l.num(x.Clock)
	case api.Pledge:
		w.kind, w.long = 3, len(x.Digest)
		l.need(len(x.Digest) == 32, api.ErrArg)
		l.out = []byte(x.Digest)
	case api.Share:
		w.kind, w.long = 4, 3+len(x.Bytes)
		for _, s := range x.Opened {
			w.long += 2 + len(s)
		}
		l.str(x.Bytes)
		l.strs(x.Opened)
	case api.Cert:
		w.kind, w.long = 5, 8+len(x.Out)+5*len(x.Who)
		l.str(x.Out)
		l.nums(x.Who)
		l.num(x.Clock)
	case api.Out:
		w.kind, w.long = 6, 1
		for _, s := range x.Certs {
			w.long += 2 + len(s)
		}
		l.strs(x.Certs)
	default:
		l.need(false, api.ErrArg)
	}
	if w.err = l.err; w.err == api.OK {
		w.bytes = string(l.out)
	}
	return w
}

// source reads parts by the words of the document's chapter on them, up to the first error.
type source struct {
	from *strings.Reader
	err  api.Errno
}

// next is the next n bytes.
func (s *source) next(n int) []byte {
	out := make([]byte, n)
	if s.err != api.OK {
		return out
	}
	if _, err := io.ReadFull(s.from, out); err != nil {
		s.err = api.ErrShort
		clear(out)
	}
	return out
}

func (s *source) num() int {
	return int(binary.BigEndian.Uint64(append(make([]byte, 3), s.next(5)...)))
}

func (s *source) str() string {
	long := int(binary.BigEndian.Uint16(s.next(2)))
	if s.err == api.OK && long > 6000 {
		s.err = api.ErrLong
	}
	return string(s.next(long))
}

func (s *source) nums() []int {
	out := []int{}
	for range s.next(1)[0] {
		out = append(out, s.num())
	}
	return out
}

func (s *source) strs() []string {
	out := []string{}
	for range s.next(1)[0] {
		out = append(out, s.str())
	}
	return out
}

// knownRead is the chapter's sentences: what is read as a kind, nil with an error.
func knownRead(kind int, bytes string) (any, api.Errno) {
	s := &source{from: strings.NewReader(bytes)}
	var v any
	switch kind {
	case 1:
		v = api.Cast{Bytes: s.str()}
	case 2:
		v = api.Listing{Who: s.nums(), Clock: s.num()}
	case 3:
		if len(bytes) != 32 {
			return nil, api.ErrForm
		}
		v = api.Pledge{Digest: string(s.next(32))}
	case 4:
		v = api.Share{Bytes: s.str(), Opened: s.strs()}
	case 5:
		v = api.Cert{Out: s.str(), Who: s.nums(), Clock: s.num()}
	case 6:
		v = api.Out{Certs: s.strs()}
	default:
		return nil, api.ErrArg
	}
	if s.err == api.OK && s.from.Len() > 0 {
		s.err = api.ErrForm
	}
	if s.err != api.OK {
		return nil, s.err
	}
	return v, api.OK
}

// tidy is v with nil instead of a list without anything, as both are the same.
func tidy(v any) any {
	switch x := v.(type) {
	case api.Listing:
		return api.Listing{Who: append([]int(nil), x.Who...), Clock: x.Clock}
	case api.Share:
		return api.Share{Bytes: x.Bytes, Opened: append([]string(nil), x.Opened...)}
	case api.Cert:
		return api.Cert{Out: x.Out, Who: append([]int(nil), x.Who...), Clock: x.Clock}
	case api.Out:
		return api.Out{Certs: append([]string(nil), x.Certs...)}
	}
	return v
}

// alike is whether two values are of one type, and the same.
func alike(a, b any) bool {
	return reflect.DeepEqual(tidy(a), tidy(b))
}

// layOne is the call that lays values of just this one's type.
func layOne(v any) (string, api.Errno) {
	switch x := v.(type) {
	case api.Cast:
		return LayCast(x)
	case api.Listing:
		return LayList(x)
	case api.Pledge:
		return LayPledge(x)
	case api.Share:
		return LayShare(x)
	case api.Cert:
		return LayCert(x)
	case api.Out:
		return LayOut(x)
	}
	return "", api.ErrArg
}

// readOne is what the call that reads just this kind answers, also beside an error.
func readOne(kind int, s string) (any, api.Errno) {
	switch kind {
	case 1:
		return anyOf(ReadCast(s))
	case 2:
		return anyOf(ReadList(s))
	case 3:
		return anyOf(ReadPledge(s))
	case 4:
		return anyOf(ReadShare(s))
	case 5:
		return anyOf(ReadCert(s))
	}
	return anyOf(ReadOut(s))
}

func anyOf[T any](x T, err api.Errno) (any, api.Errno) {
	return x, err
}

// nought is the zero value of each kind.
func nought(kind int) any {
	return []any{nil, api.Cast{}, api.Listing{}, api.Pledge{}, api.Share{}, api.Cert{}, api.Out{}}[kind]
}

// lays holds all that is said of a value against what is wanted.
func lays(t *testing.T, v any, want wanted) {
	t.Helper()
	if got, err := layOne(v); got != want.bytes || err != want.err {
		t.Fatalf("%T %.80v is laid as %.60q, %d, want %.60q, %d", v, v, got, err, want.bytes, want.err)
	}
	if got, err := Lay(v); got != want.bytes || err != want.err {
		t.Fatalf("Lay(%T %.80v): %.60q, %d, want %.60q, %d", v, v, got, err, want.bytes, want.err)
	}
	if kind, long := Kind(v), Long(v); kind != want.kind || long != want.long {
		t.Fatalf("%T %.80v: Kind %d, Long %d, want %d, %d", v, v, kind, long, want.kind, want.long)
	}
	if fits := want.err == api.OK && len(want.bytes) <= 6000; Fits(v) != fits {
		t.Fatalf("Fits(%T %.80v) of %d bytes, error %d: not %v", v, v, len(want.bytes), want.err, fits)
	}
}

// reads holds what is read as a kind, by its own call and by Read, against what is wanted: nil beside an error.
func reads(t *testing.T, kind int, s string, want any, wanted api.Errno) {
	t.Helper()
	if got, err := Read(kind, s); !alike(got, want) || err != wanted {
		t.Fatalf("Read(%d, %.60q): %T %.80v, %d, want %T %.80v, %d", kind, s, got, got, err, want, want, wanted)
	}
	if want == nil {
		want = nought(kind)
	}
	got, err := readOne(kind, s)
	if !alike(got, want) || err != wanted {
		t.Fatalf("%.60q is read as the kind %d: %.80v, %d, want %.80v, %d", s, kind, got, err, want, wanted)
	}
	if wanted != api.OK && !reflect.ValueOf(got).IsZero() {
		t.Fatalf("%.60q is read as the kind %d: %#v beside the error %d", s, kind, got, err)
	}
}

// fails holds what is read as a kind against an error.
func fails(t *testing.T, kind int, s string, want api.Errno) {
	t.Helper()
	if _, err := knownRead(kind, s); err != want {
		t.Fatalf("%.60q as the kind %d: the chapter asks for %d, not %d", s, kind, err, want)
	}
	reads(t, kind, s, nil, want)
}

func TestKind(t *testing.T) { // P14.1
	for want, v := range []any{nil, api.Cast{}, api.Listing{}, api.Pledge{}, api.Share{}, api.Cert{}, api.Out{}} {
		if got := Kind(v); got != want {
			t.Errorf("Kind(%T): %d, want %d", v, got, want)
		}
	}
	for _, v := range otherValues() {
		if got := Kind(v); got != 0 {
			t.Errorf("Kind(%T %v): %d", v, v, got)
		}
	}
	for _, v := range []any{api.Cast{Bytes: anyText(9000, 1)}, api.Listing{Clock: -1}, api.Pledge{Digest: "short"}, api.Out{Certs: make([]string, 256)}} {
		if got := Kind(v); got != wantOf(v).kind {
			t.Errorf("Kind(%T), which can't be laid: %d", v, got)
		}
	}
}

func TestLay(t *testing.T) { // P14.2, P14.3
	digest := anyText(32, 7)
	for _, c := range []struct {
		v    any
		want string
	}{
		{api.Cast{Bytes: "ab"}, "\x00\x02ab"},
		{api.Cast{}, "\x00\x00"},
		{api.Listing{Who: []int{100, 258}, Clock: 7}, "\x02\x00\x00\x00\x00\x64\x00\x00\x00\x01\x02\x00\x00\x00\x00\x07"},
		{api.Listing{}, "\x00\x00\x00\x00\x00\x00"},
		{api.Pledge{Digest: digest}, digest},
		{api.Share{Bytes: "ab", Opened: []string{"c", "", "def"}}, "\x00\x02ab\x03\x00\x01c\x00\x00\x00\x03def"},
		{api.Share{}, "\x00\x00\x00"},
		{api.Cert{Out: "ab", Who: []int{1}, Clock: 1<<40 - 1}, "\x00\x02ab\x01\x00\x00\x00\x00\x01\xff\xff\xff\xff\xff"},
		{api.Cert{}, "\x00\x00\x00\x00\x00\x00\x00\x00"},
		{api.Out{Certs: []string{"ab", "c"}}, "\x02\x00\x02ab\x00\x01c"},
		{api.Out{}, "\x00"},
	} {
		want := wantOf(c.v)
		if want.bytes != c.want {
			t.Fatalf("%T %v: the chapter asks for %q, not %q", c.v, c.v, want.bytes, c.want)
		}
		lays(t, c.v, want)
	}
}

// All fields of all types, at and past their ends.
func TestLayOfSomeValues(t *testing.T) { // P14.1, P14.2, P14.3, P14.6, P14.7
	met := map[[2]int]int{}
	for _, v := range someValues() {
		want := wantOf(v)
		lays(t, v, want)
		met[[2]int{want.kind, int(want.err)}]++
	}
	for kind := 1; kind <= 6; kind++ {
		if met[[2]int{kind, 0}] < 3 || met[[2]int{kind, 1}]+met[[2]int{kind, 4}] < 3 {
			t.Errorf("the kind %d: too few values: %v", kind, met)
		}
	}
}

// What is wrong of the part ahead is told first.
func TestLayOfWrongParts(t *testing.T) { // P14.2, R2
	long, many, wrong := strings.Repeat("x", 6001), make([]int, 256), []int{1, -1}
	for i, c := range []struct {
		v    any
		want api.Errno
	}{
		{api.Cast{Bytes: long}, api.ErrLong},
		{api.Listing{Who: many, Clock: -1}, api.ErrLong},
		{api.Listing{Who: wrong, Clock: 1}, api.ErrArg},
		{api.Listing{Who: []int{1}, Clock: 1 << 40}, api.ErrArg},
		{api.Listing{Who: append([]int{-1}, many...)}, api.ErrLong},
		{api.Pledge{}, api.ErrArg},
		{api.Pledge{Digest: anyText(31, 1)}, api.ErrArg},
		{api.Pledge{Digest: anyText(33, 1)}, api.ErrArg},
		{api.Pledge{Digest: long}, api.ErrArg},
		{api.Share{Bytes: long}, api.ErrLong},
		{api.Share{Opened: []string{"", long}}, api.ErrLong},
		{api.Share{Opened: make([]string, 256)}, api.ErrLong},
		{api.Cert{Out: long, Who: wrong, Clock: -1}, api.ErrLong},
		{api.Cert{Out: long[1:], Who: wrong}, api.ErrArg},
		{api.Cert{Who: wrong, Clock: 1}, api.ErrArg},
		{api.Cert{Who: many, Clock: -1}, api.ErrLong},
		{api.Cert{Clock: -1}, api.ErrArg},
		{api.Out{Certs: []string{long}}, api.ErrLong},
		{api.Out{Certs: make([]string, 256)}, api.ErrLong},
	} {
		want := wantOf(c.v)
		if want.err != c.want {
			t.Fatalf("the case %d: the chapter asks for %d, not %d", i, want.err, c.want)
		}
		lays(t, c.v, want)
	}
}

func TestOtherValues(t *testing.T) { // P14.1, P14.3, P14.6, P14.7
	for _, v := range otherValues() {
		lays(t, v, wanted{err: api.ErrArg})
	}
}

func TestRead(t *testing.T) { // P14.3, P14.4
	digest := anyText(32, 7)
	for _, c := range []struct {
		kind int
		s    string
		want any
	}{
		{1, "\x00\x02ab", api.Cast{Bytes: "ab"}},
		{2, "\x02\x00\x00\x00\x00\x64\x00\x00\x00\x01\x02\x00\x00\x00\x00\x07", api.Listing{Who: []int{100, 258}, Clock: 7}},
		{2, "\x00\xff\xff\xff\xff\xff", api.Listing{Clock: 1<<40 - 1}},
		{3, digest, api.Pledge{Digest: digest}},
		{4, "\x00\x02ab\x03\x00\x01c\x00\x00\x00\x03def", api.Share{Bytes: "ab", Opened: []string{"c", "", "def"}}},
		{5, "\x00\x02ab\x01\x00\x00\x00\x00\x01\x00\x00\x00\x00\x07", api.Cert{Out: "ab", Who: []int{1}, Clock: 7}},
		{6, "\x02\x00\x02ab\x00\x01c", api.Out{Certs: []string{"ab", "c"}}},
		{6, "\x00", api.Out{}},
	} {
		reads(t, c.kind, c.s, c.want, api.OK)
		fails(t, c.kind, c.s+"\x00", api.ErrForm)
	}
}

// The error of each part is told ahead of that of the next, and of bytes that are left.
func TestReadOfWrongBytes(t *testing.T) { // P14.3, R2
	over := "\x17\x71" + strings.Repeat("x", 6001)
	for _, c := range []struct {
		kind int
		s    string
		want api.Errno
	}{
		{1, "", api.ErrShort}, {1, "\x00", api.ErrShort}, {1, "\x00\x02a", api.ErrShort}, {1, "\x17\x70" + over[4:], api.ErrShort},
		{1, "\x17\x71", api.ErrLong}, {1, over, api.ErrLong}, {1, over + "x", api.ErrLong}, {1, "\x00\x00x", api.ErrForm},
		{2, "", api.ErrShort}, {2, "\x00", api.ErrShort}, {2, "\x00\x00\x00\x00\x00", api.ErrShort},
		{2, "\x01\x00\x00\x00\x00\x01\x00\x00\x00\x00", api.ErrShort}, {2, "\x02\x00\x00\x00\x00\x01\x00\x00\x00\x00\x01", api.ErrShort},
		{2, "\x00\x00\x00\x00\x00\x00\x00", api.ErrForm},
		{3, "", api.ErrForm}, {3, anyText(31, 1), api.ErrForm}, {3, anyText(33, 1), api.ErrForm}, {3, over, api.ErrForm},
		{4, "", api.ErrShort}, {4, "\x00\x00", api.ErrShort}, {4, "\x00\x00\x01", api.ErrShort}, {4, "\x00\x00\x01\x00", api.ErrShort},
		{4, over + "\x01", api.ErrLong}, {4, "\x00\x00\x01" + over, api.ErrLong}, {4, "\x00\x00\x02" + over, api.ErrLong},
		{4, "\x00\x00\x02\x00\x00\xff\xff", api.ErrLong}, {4, "\x00\x05\x00\x17\x71ab\x00" + over, api.ErrForm}, {4, "\x00\x00\x00\x00", api.ErrForm},
		{5, "", api.ErrShort}, {5, "\x00\x00", api.ErrShort}, {5, "\x00\x00\x00", api.ErrShort}, {5, "\x00\x00\x00\x00\x00\x00\x00", api.ErrShort},
		{5, over, api.ErrLong}, {5, "\xff\xff\x01", api.ErrLong}, {5, "\x00\x00\x01\x00\x00\x00\x00\x01\x00\x00\x00\x00", api.ErrShort},
		{5, "\x00\x00\x00\x00\x00\x00\x00\x00\x00", api.ErrForm},
		{6, "", api.ErrShort}, {6, "\x01", api.ErrShort}, {6, "\x01\x00", api.ErrShort}, {6, "\x01\x00\x01", api.ErrShort},
		{6, "\x01" + over, api.ErrLong}, {6, "\x02\x00\x00\x17\x71", api.ErrLong}, {6, "\x00\x00", api.ErrForm}, {6, "\x00" + over, api.ErrForm},
	} {
		fails(t, c.kind, c.s, c.want)
	}
}

func TestReadOfOtherKinds(t *testing.T) { // P14.4
	for _, kind := range []int{math.MinInt, -6, -1, 0, 7, 8, 256, 257, 1 << 32, 1<<32 + 1, math.MaxInt} {
		for _, s := range []string{"", "\x00", "\x00\x00", "\x00\x02ab", "\x00\x00\x00\x00\x00\x00", anyText(32, 1)} {
			if got, err := Read(kind, s); got != nil || err != api.ErrArg {
				t.Errorf("Read(%d, %q): %v, %d", kind, s, got, err)
			}
		}
	}
}

func TestName(t *testing.T) { // P14.5
	for i, want := range []string{"", "cast", "list", "pledge", "share", "cert", "out", ""} {
		if got := Name(i); got != want {
			t.Errorf("Name(%d): %q, want %q", i, got, want)
		}
	}
	for _, kind := range []int{math.MinInt, -256, -6, -2, -1, 8, 9, 256, 257, 1 << 32, 1<<32 + 1, math.MaxInt} {
		if got := Name(kind); got != "" {
			t.Errorf("Name(%d): %q", kind, got)
		}
	}
}

// Also of what can't be laid it is what the fields come to.
func TestLong(t *testing.T) { // P14.6
	for _, c := range []struct {
		v    any
		want int
	}{
		{api.Cast{Bytes: "ab"}, 4}, {api.Cast{}, 2}, {api.Cast{Bytes: anyText(6001, 1)}, 6003},
		{api.Listing{}, 6}, {api.Listing{Who: []int{1, 2}, Clock: 9}, 16}, {api.Listing{Who: make([]int, 256), Clock: -1}, 1286},
		{api.Pledge{Digest: anyText(32, 1)}, 32}, {api.Pledge{}, 0}, {api.Pledge{Digest: "abc"}, 3},
		{api.Share{}, 3}, {api.Share{Bytes: "ab", Opened: []string{"c"}}, 8}, {api.Share{Opened: make([]string, 300)}, 603},
		{api.Cert{}, 8}, {api.Cert{Out: "ab", Who: []int{-1}, Clock: 7}, 15},
		{api.Out{}, 1}, {api.Out{Certs: []string{"ab", "", "c"}}, 10}, {api.Out{Certs: []string{anyText(7000, 1)}}, 7003},
		{nil, 0}, {"ab", 0}, {&api.Cast{Bytes: "ab"}, 0},
	} {
		if got := Long(c.v); got != c.want {
			t.Errorf("Long(%T %.60v): %d, want %d", c.v, c.v, got, c.want)
		}
	}
}

func TestFits(t *testing.T) { // P14.7
	two := func(n int) []string { return []string{anyText(n, 1), anyText(n, 2)} }
	for _, c := range []struct {
		v    any
		want bool
	}{
		{api.Cast{}, true}, {api.Cast{Bytes: anyText(5998, 1)}, true}, {api.Cast{Bytes: anyText(5999, 1)}, false}, {api.Cast{Bytes: anyText(6001, 1)}, false},
		{api.Listing{Who: make([]int, 255)}, true}, {api.Listing{Who: make([]int, 256)}, false}, {api.Listing{Clock: -1}, false}, {api.Listing{Who: []int{-1}}, false},
		{api.Pledge{Digest: anyText(32, 1)}, true}, {api.Pledge{}, false}, {api.Pledge{Digest: anyText(31, 1)}, false}, {api.Pledge{Digest: anyText(33, 1)}, false},
		{api.Share{Bytes: "a", Opened: two(2996)}, true}, {api.Share{Bytes: "ab", Opened: two(2996)}, false}, {api.Share{Opened: make([]string, 256)}, false},
		{api.Cert{Out: anyText(5992, 1)}, true}, {api.Cert{Out: anyText(5993, 1)}, false}, {api.Cert{Out: anyText(5987, 1), Who: []int{1}}, true}, {api.Cert{Out: anyText(5988, 1), Who: []int{1}}, false}, {api.Cert{Clock: 1 << 40}, false},
		{api.Out{Certs: []string{anyText(5997, 1)}}, true}, {api.Out{Certs: []string{anyText(5998, 1)}}, false}, {api.Out{Certs: two(2998)}, false}, {api.Out{Certs: two(2997)}, true},
		{nil, false}, {1, false}, {"", false}, {&api.Cast{}, false},
	} {
		if got := Fits(c.v); got != c.want {
			t.Errorf("Fits(%T %.60v): %v", c.v, c.v, got)
		}
	}
}

func TestWhatIsLaidIsRead(t *testing.T) { // P14.8, P14.9
	laid, small := 0, smallValues()
	for _, v := range append(small, someValues()...) {
		s, err := Lay(v)
		if err != api.OK {
			continue
		}
		laid++
		if len(s) != Long(v) {
			t.Fatalf("%T %.80v: %d bytes, Long %d", v, v, len(s), Long(v))
		}
		reads(t, Kind(v), s, v, api.OK)
		reads(t, Kind(v), s+"\x00", nil, api.ErrForm)
		if laid > len(small) || Kind(v) == api.KindCommit {
			continue
		}
		for n := range s {
			fails(t, Kind(v), s[:n], api.ErrShort)
		}
	}
	if laid < len(small)+500 {
		t.Errorf("only %d values are laid", laid)
	}
}

// Any bytes, read as any kind: what is read is laid so.
func TestWhatIsReadIsLaidSo(t *testing.T) { // P14.3, P14.4, P14.8, R1
	src, many := rand.New(rand.NewPCG(5, 6)), map[int]int{}
	for i, v := range smallValues() {
		for try := range 20 {
			b := []byte(wantOf(v).bytes)
			for range try % 3 {
				b[src.IntN(len(b))] = []byte{0, byte(src.IntN(8)), byte(src.IntN(256))}[src.IntN(3)]
			}
			if try > 15 {
				b = []byte(anyText(src.IntN(40), byte(i+try)))
			}
			for kind := range 8 {
				want, err := knownRead(kind, string(b))
				if kind%7 == 0 {
					if got, told := Read(kind, string(b)); got != nil || told != err {
						t.Fatalf("Read(%d, %q): %v, %d", kind, b, got, told)
					}
					continue
				}
				reads(t, kind, string(b), want, err)
				if err == api.OK {
					many[kind]++
					lays(t, want, wanted{kind: kind, long: len(b), bytes: string(b)})
				}
			}
		}
	}
	for kind := 1; kind <= 6; kind++ {
		if many[kind] < 1000 {
			t.Errorf("only %d were read as the kind %d", many[kind], kind)
		}
	}
}

// Nothing that is handed in is changed, nor what lies behind a list's end; what is read is new each time.
func TestMemory(t *testing.T) { // R3
	numbers, texts := []int{1, 2, 3, 4}, []string{"a", "b", "c", "d"}
	for _, v := range []any{api.Listing{Who: numbers[:2]}, api.Cert{Who: numbers[:2]}, api.Share{Opened: texts[:2]}, api.Out{Certs: texts[:2]}} {
		lays(t, v, wantOf(v))
		Fits(v)
	}
	if !slices.Equal(numbers, []int{1, 2, 3, 4}) || !slices.Equal(texts, []string{"a", "b", "c", "d"}) {
		t.Errorf("changed: %v %v", numbers, texts)
	}
	for _, v := range []any{api.Listing{Who: numbers}, api.Share{Opened: texts}, api.Cert{Who: numbers}, api.Out{Certs: texts}} {
		s := wantOf(v).bytes
		first, _ := Read(Kind(v), s)
		switch x := first.(type) {
		case api.Listing:
			x.Who[0] = 9
		case api.Share:
			x.Opened[0] = "x"
		case api.Cert:
			x.Who[0] = 9
		case api.Out:
			x.Certs[0] = "x"
		}
		reads(t, Kind(v), s, v, api.OK)
	}
}

// What is far too long is told fast.
func TestLongValues(t *testing.T) { // R1
	begin, long := time.Now(), strings.Repeat("x", 1<<28)
	for _, v := range []any{api.Cast{Bytes: long}, api.Pledge{Digest: long}, api.Share{Bytes: long}, api.Cert{Out: long}, api.Out{Certs: []string{long}}, api.Listing{Who: make([]int, 1<<24)}} {
		want := wanted{kind: Kind(v), long: Long(v), err: api.ErrLong}
		if want.kind == api.KindCommit {
			want.err = api.ErrArg
		}
		for range 1000 {
			lays(t, v, want)
		}
	}
	for kind, want := range []api.Errno{1: api.ErrLong, 2: api.ErrForm, 3: api.ErrForm, 4: api.ErrLong, 5: api.ErrLong, 6: api.ErrLong} {
		if kind > 0 {
			reads(t, kind, long, nil, want)
		}
	}
	reads(t, api.KindOut, "\x00"+long, nil, api.ErrForm)
	if took := time.Since(begin); took > time.Minute {
		t.Errorf("long values took %v", took)
	}
}
