package seal

import (
	"encoding/binary"
	"io"
	"math"
	"math/rand/v2"
	"slices"
	"strings"
	"testing"
	"time"

	"murmur/api"
)

// example is the chapter's: a letter of the group "g".
func example() api.Seal {
	return api.Seal{Group: "g", Epoch: 1, Round: 2, Kind: 5, From: 3, Body: "body", Sig: "sig"}
}

// with is the example altered.
func with(alter func(s *api.Seal)) api.Seal {
	s := example()
	alter(&s)
	return s
}

// numberFields and textFields are the fields of a letter, each by its place in it.
func numberFields(s *api.Seal) []*int {
	return []*int{&s.Epoch, &s.Round, &s.Kind, &s.From}
}

func textFields(s *api.Seal) []*string {
	return []*string{&s.Group, &s.Body, &s.Sig}
}

// numberEnds is, for each number of a letter, the least and the greatest that is right.
func numberEnds() [][2]int {
	return [][2]int{{0, 1073741823}, {0, 1073741823}, {1, 6}, {0, 199}}
}

// textEnds is, for each text of a letter, how many bytes are right.
func textEnds() [][2]int {
	return [][2]int{{1, 8}, {0, 6000}, {0, 6000}}
}

// anyText is n bytes that follow no simple rule, the same ones for the same seed.
func anyText(n int, seed byte) string {
	out := make([]byte, n)
	rand.NewChaCha8([32]byte{seed}).Read(out)
	return string(out)
}

// oddNumbers is numbers about all ends of a letter's, and of what its bytes hold, to the ends of int.
func oddNumbers() []int {
	out := []int{math.MinInt, math.MinInt + 1, math.MaxInt - 1, math.MaxInt, -1 << 32, -1 << 30, -256}
	for _, end := range []int{0, 3, 6, 100, 106, 199, 256, 455, 1 << 16, 1 << 29, 1 << 30, 1 << 31, 1 << 32, 1 << 39, 1 << 40} {
		for n := -2; n <= 2; n++ {
			out = append(out, end+n)
		}
	}
	return out
}

// oddSizes is how long texts are about all ends of a letter's, and of what its bytes hold.
func oddSizes() []int {
	return []int{0, 1, 2, 7, 8, 9, 10, 255, 256, 257, 264, 5999, 6000, 6001, 6002, 65535, 65536, 65537, 65544}
}

// alteredOnce is the example with one field altered, by all that oddNumbers and oddSizes have.
func alteredOnce() []api.Seal {
	out := []api.Seal{example()}
	for at := range 4 {
		for _, n := range oddNumbers() {
			out = append(out, with(func(s *api.Seal) { *numberFields(s)[at] = n }))
		}
	}
	for at := range 3 {
		for _, size := range oddSizes() {
			out = append(out, with(func(s *api.Seal) { *textFields(s)[at] = anyText(size, byte(at)) }))
		}
	}
	return out
}

// rightLetters is the letters with each field at its ends, in all ways, and letters whose fields follow no rule.
func rightLetters() []api.Seal {
	src, out := rand.New(rand.NewPCG(1, 2)), []api.Seal{example()}
	for choice := range 1 << 7 {
		s := api.Seal{}
		for at, field := range numberFields(&s) {
			*field = numberEnds()[at][choice>>at&1]
		}
		for at, field := range textFields(&s) {
			*field = anyText(textEnds()[at][choice>>(4+at)&1], byte(at))
		}
		out = append(out, s)
	}
	for i := range 1500 {
		s := api.Seal{Group: anyText(1+i%8, byte(i)), Epoch: src.IntN(1 << (i % 31)), Round: src.IntN(1 << (i * 7 % 31)), Kind: 1 + src.IntN(6), From: src.IntN(200)}
		s.Body, s.Sig = anyText(src.IntN(40), byte(i+1)), anyText(src.IntN(40), byte(i+2))
		out = append(out, s)
	}
	return out
}

// someLetters is right ones, and any others, of which one field or many are not.
func someLetters() []api.Seal {
	out := slices.Concat([]api.Seal{{}}, alteredOnce(), rightLetters())
	src, numbers, sizes := rand.New(rand.NewPCG(3, 4)), oddNumbers(), oddSizes()
	for i := range 3000 {
		s := example()
		for _, field := range numberFields(&s) {
			if src.IntN(4) == 0 {
				*field = numbers[src.IntN(len(numbers))]
			}
		}
		for _, field := range textFields(&s) {
			if src.IntN(4) == 0 {
				*field = anyText(sizes[src.IntN(len(sizes))], byte(i))
			}
		}
		out = append(out, s)
	}
	return out
}

// knownRight is the chapter's sentence.
func knownRight(s api.Seal) bool {
	for at, field := range numberFields(&s) {
		if ends := numberEnds()[at]; *field < ends[0] || *field > ends[1] {
			return false
		}
	}
	for at, field := range textFields(&s) {
		if ends := textEnds()[at]; len(*field) < ends[0] || len(*field) > ends[1] {
			return false
		}
	}
	return true
}

// knownStr is a text with its length ahead, in two bytes.
func knownStr(s string) string {
	return string(binary.BigEndian.AppendUint16(nil, uint16(len(s)))) + s
}

// knownNums is how many there are, and the five lowest bytes of each.
func knownNums(l ...int) string {
	out := []byte{byte(len(l))}
	for _, n := range l {
		out = append(out, binary.BigEndian.AppendUint64(nil, uint64(n))[3:]...)
	}
	return string(out)
}

// knownText is what is signed of a letter.
func knownText(s api.Seal) string {
	return knownStr(s.Group) + knownNums(s.Epoch, s.Round, s.Kind, s.From) + knownStr(s.Body)
}

// knownBytes is a letter as bytes.
func knownBytes(s api.Seal) string {
	return knownText(s) + knownStr(s.Sig)
}

// layable is whether these bytes hold all that the letter is, right or not.
func layable(s api.Seal) bool {
	for _, field := range numberFields(&s) {
		if *field < 0 || *field >= 1<<40 {
			return false
		}
	}
	return max(len(s.Group), len(s.Body), len(s.Sig)) <= 6000
}

// next is the next n bytes, ErrShort if there are fewer.
func next(r io.Reader, n int) ([]byte, api.Errno) {
	out := make([]byte, n)
	if _, err := io.ReadFull(r, out); err != nil {
		return nil, api.ErrShort
	}
	return out, api.OK
}

// nextStr is the next text.
func nextStr(r io.Reader) (string, api.Errno) {
	size, err := next(r, 2)
	if err != api.OK {
		return "", err
	}
	long := int(binary.BigEndian.Uint16(size))
	if long > 6000 {
		return "", api.ErrLong
	}
	told, err := next(r, long)
	return string(told), err
}

// nextNums is the next list of numbers.
func nextNums(r io.Reader) ([]int, api.Errno) {
	many, err := next(r, 1)
	if err != api.OK {
		return nil, err
	}
	out := []int{}
	for range many[0] {
		told, err := next(r, 5)
		if err != api.OK {
			return nil, err
		}
		out = append(out, int(binary.BigEndian.Uint64(append(make([]byte, 3), told...))))
	}
	return out, api.OK
}

// knownRead is the chapter's sentence, over a reader that goes on from part to part.
func knownRead(bytes string) (api.Seal, api.Errno) {
	r := strings.NewReader(bytes)
	group, err := nextStr(r)
	if err != api.OK {
		return api.Seal{}, err
	}
	numbers, err := nextNums(r)
	if err != api.OK {
		return api.Seal{}, err
	}
	body, err := nextStr(r)
	if err != api.OK {
		return api.Seal{}, err
	}
	sig, err := nextStr(r)
	if err != api.OK {
		return api.Seal{}, err
	}
	if r.Len() > 0 || len(numbers) != 4 {
		return api.Seal{}, api.ErrForm
	}
	s := api.Seal{Group: group, Epoch: numbers[0], Round: numbers[1], Kind: numbers[2], From: numbers[3], Body: body, Sig: sig}
	if !knownRight(s) {
		return api.Seal{}, api.ErrForm
	}
	return s, api.OK
}

// short is the beginning of a letter, for what a test tells.
func short(s api.Seal) api.Seal {
	for _, field := range textFields(&s) {
		*field = (*field)[:min(len(*field), 20)]
	}
	return s
}

// lays holds what one of the calls lays of a letter against what is wanted.
func lays(t *testing.T, what string, lay func(api.Seal) (string, api.Errno), s api.Seal, want string, wanted api.Errno) {
	t.Helper()
	if got, err := lay(s); got != want || err != wanted {
		t.Fatalf("%s of %#v: %.60q, %d, want %.60q, %d", what, short(s), got, err, want, wanted)
	}
}

// reads holds what is read against what is wanted.
func reads(t *testing.T, bytes string, want api.Seal, wanted api.Errno) {
	t.Helper()
	if got, err := Read(bytes); got != want || err != wanted {
		t.Fatalf("Read(%.60q): %#v, %d, want %#v, %d", bytes, short(got), err, short(want), wanted)
	}
}

// fails holds what is read against an error.
func fails(t *testing.T, bytes string, want api.Errno) {
	t.Helper()
	reads(t, bytes, api.Seal{}, want)
}

func TestRight(t *testing.T) { // P13.1
	if !Right(example()) || Right(api.Seal{}) {
		t.Error("the example is not right, or nothing is")
	}
	if !Right(api.Seal{Group: "g", Kind: 1}) {
		t.Error("a letter that has nothing but what it must have is not right")
	}
	many := 0
	for _, s := range someLetters() {
		if got := Right(s); got != knownRight(s) {
			t.Errorf("Right(%#v): %v, of texts of %d, %d, %d bytes", short(s), got, len(s.Group), len(s.Body), len(s.Sig))
		} else if got {
			many++
		}
	}
	if many < 1500 || many > len(someLetters())-2000 {
		t.Errorf("%d of %d are right", many, len(someLetters()))
	}
}

// Each end of each field: the last that is right, and the first that is not.
func TestRightAtTheEnds(t *testing.T) { // P13.1
	for at, ends := range numberEnds() {
		for n, want := range map[int]bool{ends[0] - 1: false, ends[0]: true, ends[1]: true, ends[1] + 1: false} {
			if s := with(func(s *api.Seal) { *numberFields(s)[at] = n }); Right(s) != want {
				t.Errorf("Right(%#v): not %v", s, want)
			}
		}
	}
	for at, ends := range textEnds() {
		for n, want := range map[int]bool{0: ends[0] == 0, ends[0]: true, ends[1]: true, ends[1] + 1: false} {
			if s := with(func(s *api.Seal) { *textFields(s)[at] = strings.Repeat("x", n) }); Right(s) != want {
				t.Errorf("Right of %d bytes at the place %d: not %v", n, at, want)
			}
		}
	}
}

// Bytes are counted, not runes, and any bytes are as good as others.
func TestRightOfAnyBytes(t *testing.T) { // P13.1
	for group, want := range map[string]bool{"ÀÀÀÀ": true, "ÀÀÀÀa": false, "\xff\xfe": true, "\x00": true, " ": true, "\x00\x00\x00\x00\x00\x00\x00\x00\x00": false, "        ": true, "         ": false} {
		if s := with(func(s *api.Seal) { s.Group = group }); Right(s) != want {
			t.Errorf("Right of the group %q: not %v", group, want)
		}
	}
}

func TestText(t *testing.T) { // P13.2
	want := "\x00\x01g" + "\x04\x00\x00\x00\x00\x01\x00\x00\x00\x00\x02\x00\x00\x00\x00\x05\x00\x00\x00\x00\x03" + "\x00\x04body"
	lays(t, "Text", Text, example(), want, api.OK)
	great := api.Seal{Group: "murmurer", Epoch: 1<<30 - 1, Round: 1 << 16, Kind: 6, From: 199}
	want = "\x00\x08murmurer" + "\x04\x00\x3f\xff\xff\xff\x00\x00\x01\x00\x00\x00\x00\x00\x00\x06\x00\x00\x00\x00\xc7" + "\x00\x00"
	lays(t, "Text", Text, great, want, api.OK)
	for _, s := range someLetters() {
		want, wanted := knownText(s), api.OK
		if !knownRight(s) {
			want, wanted = "", api.ErrArg
		}
		lays(t, "Text", Text, s, want, wanted)
	}
}

func TestBytes(t *testing.T) { // P13.3
	want := "\x00\x01g" + "\x04\x00\x00\x00\x00\x01\x00\x00\x00\x00\x02\x00\x00\x00\x00\x05\x00\x00\x00\x00\x03" + "\x00\x04body" + "\x00\x03sig"
	lays(t, "Bytes", Bytes, example(), want, api.OK)
	unsigned := with(func(s *api.Seal) { s.Sig = "" })
	lays(t, "Bytes", Bytes, unsigned, want[:len(want)-5]+"\x00\x00", api.OK)
	for _, s := range someLetters() {
		want, wanted := knownBytes(s), api.OK
		if !knownRight(s) {
			want, wanted = "", api.ErrArg
		}
		lays(t, "Bytes", Bytes, s, want, wanted)
	}
}

func TestRead(t *testing.T) { // P13.4
	reads(t, knownBytes(example()), example(), api.OK)
	reads(t, "\x00\x01g"+knownNums(0, 0, 1, 0)+"\x00\x00\x00\x00", api.Seal{Group: "g", Kind: 1}, api.OK)
	fails(t, knownText(example()), api.ErrShort)
}

// What has the form of a letter, but is none that is right.
func TestReadOfWrongLetters(t *testing.T) { // P13.4
	wrong := 0
	for _, s := range someLetters() {
		if knownRight(s) || !layable(s) {
			continue
		}
		wrong++
		fails(t, knownBytes(s), api.ErrForm)
		fails(t, knownBytes(s)+"x", api.ErrForm)
	}
	if wrong < 200 {
		t.Errorf("only %d letters are wrong", wrong)
	}
	for many := range 256 {
		if many == 4 {
			continue
		}
		ones := slices.Repeat([]int{1}, many)
		fails(t, "\x00\x01g"+knownNums(ones...)+"\x00\x04body\x00\x03sig", api.ErrForm)
	}
}

// The error of each part is told ahead of that of the next, and of what is wrong of the whole.
func TestReadOfWrongParts(t *testing.T) { // P13.4, R2
	group, numbers, body, sig := "\x00\x01g", knownNums(1, 2, 5, 3), "\x00\x04body", "\x00\x03sig"
	few, many, over := knownNums(1, 2, 5), knownNums(1, 2, 5, 3, 0), "\x17\x71"+strings.Repeat("x", 6001)
	for s, want := range map[string]api.Errno{
		"":                                api.ErrShort,
		"\x00":                            api.ErrShort,
		"\x00\x01":                        api.ErrShort,
		"\x17\x70" + over[3:]:             api.ErrShort,
		"\x17\x71":                        api.ErrLong,
		"\xff\xff":                        api.ErrLong,
		over + numbers + body + sig:       api.ErrLong,
		group:                             api.ErrShort,
		group + few:                       api.ErrShort,
		group + "\x05" + numbers[1:]:      api.ErrShort,
		group + "\xff" + numbers + body:   api.ErrShort,
		group + many + "\xff\xff":         api.ErrLong,
		group + few + over + sig:          api.ErrLong,
		group + numbers + over:            api.ErrLong,
		group + numbers + "\x17\x71":      api.ErrLong,
		group + numbers + "\x17\x70":      api.ErrShort,
		group + numbers + body:            api.ErrShort,
		group + few + body:                api.ErrShort,
		group + numbers + body + over:     api.ErrLong,
		group + few + body + over:         api.ErrLong,
		"\x00\x00" + numbers + body:       api.ErrShort,
		"\x00\x00" + numbers + over:       api.ErrLong,
		"\x00\x00" + numbers + body + sig: api.ErrForm,
		"\x00\x09murmurers" + numbers + body + sig: api.ErrForm,
		group + few + body + sig:                   api.ErrForm,
		group + many + body + sig:                  api.ErrForm,
		group + "\x00" + body + sig:                api.ErrForm,
		group + numbers + body + sig + "\x00":      api.ErrForm,
		group + few + body + sig + sig:             api.ErrForm,
		numbers + group + body + sig:               api.ErrShort,
		group + body + numbers + sig:               api.ErrShort,
	} {
		if _, err := knownRead(s); err != want {
			t.Fatalf("%.60q: the chapter asks for %d, not %d", s, err, want)
		}
		fails(t, s, want)
	}
	reads(t, group+numbers+body+sig, example(), api.OK)
}

func TestWhatIsWrittenIsRead(t *testing.T) { // P13.5
	for _, s := range rightLetters() {
		bytes, err := Bytes(s)
		if err != api.OK {
			t.Fatalf("Bytes(%#v): %d", short(s), err)
		}
		reads(t, bytes, s, api.OK)
		fails(t, bytes+"\x00", api.ErrForm)
		fails(t, bytes+bytes, api.ErrForm)
		if text, _ := Text(s); !strings.HasPrefix(bytes, text) || text == bytes {
			t.Fatalf("%#v: its bytes do not begin with its text", short(s))
		}
		if len(bytes) > 200 {
			continue
		}
		for n := range bytes {
			fails(t, bytes[:n], api.ErrShort)
		}
	}
}

// Any bytes: what is read of them is right, and written so.
func TestWhatIsReadIsWrittenSo(t *testing.T) { // P13.4, P13.5, R1
	src, many := rand.New(rand.NewPCG(5, 6)), 0
	for _, s := range rightLetters() {
		for range 40 {
			b := []byte(knownBytes(s))
			for range 1 + src.IntN(3) {
				b[src.IntN(min(len(b), 60))] = []byte{0, byte(src.IntN(8)), byte(src.IntN(256))}[src.IntN(3)]
			}
			bytes := string(b[:len(b)-src.IntN(9)/8])
			want, wanted := knownRead(bytes)
			reads(t, bytes, want, wanted)
			if wanted == api.OK {
				many++
				lays(t, "Bytes", Bytes, want, bytes, api.OK)
			}
		}
	}
	if many < 10000 {
		t.Errorf("only %d were read", many)
	}
	for i := range 20000 {
		bytes := anyText(src.IntN(60), byte(i))
		want, wanted := knownRead(bytes)
		reads(t, bytes, want, wanted)
	}
}

func TestLettersWhoseTextsAreAlike(t *testing.T) { // P13.6
	letters := slices.Concat(rightLetters(), alteredOnce())
	for _, group := range []string{"g", "gg", "\x00\x01g"} {
		for _, body := range []string{"", "\x00", "\x00\x00", "g", "gg"} {
			for n := range 1 << 4 {
				letters = append(letters, api.Seal{Group: group, Epoch: n & 1, Round: n >> 1 & 1, Kind: 1 + n>>2&1, From: n >> 3, Body: body})
			}
		}
	}
	met, texts := map[string]api.Seal{}, map[api.Seal]string{}
	for _, s := range letters {
		text, err := Text(s)
		if err != api.OK {
			continue
		}
		for _, sig := range []string{"", "sig", "another", strings.Repeat("s", 6000)} {
			s.Sig = sig
			lays(t, "Text", Text, s, text, api.OK)
		}
		s.Sig = ""
		if other, there := met[text]; there && other != s {
			t.Errorf("%#v and %#v have one text", short(s), short(other))
		}
		if other, there := texts[s]; there && other != text {
			t.Errorf("%#v has two texts", short(s))
		}
		met[text], texts[s] = s, text
	}
	if len(met) != len(texts) || len(met) < 1500 {
		t.Errorf("%d letters have %d texts", len(texts), len(met))
	}
}

// Texts that are far too long are told by their length alone.
func TestLongTexts(t *testing.T) { // R1
	begin, long := time.Now(), strings.Repeat("x", 1<<28)
	for at := range 3 {
		s := with(func(s *api.Seal) { *textFields(s)[at] = long })
		for range 10000 {
			if Right(s) {
				t.Fatal("a letter is right that is too long")
			}
			lays(t, "Text", Text, s, "", api.ErrArg)
			lays(t, "Bytes", Bytes, s, "", api.ErrArg)
		}
	}
	fails(t, long, api.ErrLong)
	fails(t, knownBytes(example())+long, api.ErrForm)
	if took := time.Since(begin); took > time.Minute {
		t.Errorf("long texts took %v", took)
	}
}
