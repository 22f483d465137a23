package roster

import (
	"encoding/binary"
	"fmt"
	"math"
	"math/big"
	"math/rand/v2"
	"slices"
	"strings"
	"testing"
	"time"

	"murmur/api"
)

// The limits, as numbers of their own.
const (
	base        = 100
	mostServers = 4
	mostClients = 6
)

// example is the chapter's: of three clients the first two are buddies.
func example() api.Roster {
	return api.Roster{Group: "g", Servers: 2, Clients: 3, Buddies: []int{1, 1, 2}}
}

// with is the example altered.
func with(alter func(r *api.Roster)) api.Roster {
	r := example()
	alter(&r)
	return r
}

// gone is the example with these gone.
func gone(l ...int) api.Roster {
	return with(func(r *api.Roster) { r.Gone = l })
}

// copied is r in memory of its own.
func copied(r api.Roster) api.Roster {
	r.Buddies, r.Gone = slices.Clone(r.Buddies), slices.Clone(r.Gone)
	return r
}

// same is whether two rosters are alike; an empty list is no list.
func same(a, b api.Roster) bool {
	return a.Group == b.Group && a.Servers == b.Servers && a.Clients == b.Clients && slices.Equal(a.Buddies, b.Buddies) && slices.Equal(a.Gone, b.Gone)
}

// rightRosters is rosters of all sizes, with buddies of many kinds, and with any who may be gone.
func rightRosters() []api.Roster {
	src, out := rand.New(rand.NewPCG(5, 6)), []api.Roster{example()}
	for i := range 1200 {
		r := api.Roster{Group: anyText(1+i%8, byte(i)), Servers: 1 + i%mostServers, Clients: 1 + i/mostServers%mostClients}
		sorts := []int{1, 2, 3, 1000}[src.IntN(4)]
		for range r.Clients {
			r.Buddies = append(r.Buddies, []int{0, 1, -5, 1 << 50}[src.IntN(4)]*(src.IntN(8)/7)+src.IntN(sorts))
		}
		often := 1 + src.IntN(5)
		for _, m := range knownMembers(r) {
			if src.IntN(often) == 0 {
				r.Gone = append(r.Gone, m)
			}
		}
		out = append(out, r)
	}
	return out
}

// wrongRosters is rosters that are not right, for one reason each.
func wrongRosters() []api.Roster {
	out := []api.Roster{{}}
	for _, group := range []string{"", "123456789", strings.Repeat("g", 256), strings.Repeat("g", 6001)} {
		out = append(out, with(func(r *api.Roster) { r.Group = group }))
	}
	for _, n := range []int{0, -1, 5, 6, 7, 99, 100, 101, 256, 257, math.MinInt, math.MaxInt} {
		out = append(out, with(func(r *api.Roster) { r.Servers = n }))
	}
	for _, n := range []int{0, -1, 1, 2, 4, 5, 6, 7, 100, 259, math.MinInt, math.MaxInt, math.MaxInt - base, math.MaxInt - base + 1} {
		out = append(out, with(func(r *api.Roster) { r.Clients = n }))
	}
	for _, l := range [][]int{nil, {1}, {1, 1}, {1, 1, 2, 2}, make([]int, 6), make([]int, 7)} {
		out = append(out, with(func(r *api.Roster) { r.Buddies = l }))
	}
	out = append(out, with(func(r *api.Roster) { r.Clients, r.Buddies = 7, make([]int, 7) }), with(func(r *api.Roster) { r.Clients, r.Buddies = 0, nil }))
	for _, l := range [][]int{{-1}, {2}, {3}, {99}, {103}, {104}, {0, 2}, {0, 103}, {-1, 0}, {0, 0}, {1, 0}, {100, 0}, {100, 100}, {0, 1, 1}, {0, 101, 100}, {0, 1, 100, 101, 102, 103}, {math.MinInt}, {math.MaxInt}, {0, math.MaxInt}, {math.MinInt, 0}} {
		out = append(out, gone(l...))
	}
	return append(out, gone(0, 0, 0, 0, 0, 0, 0, 0, 0, 0, 0), gone(0, 1, 2, 3, 100, 101, 102, 103, 104, 105, 106))
}

// someRosters is right ones, wrong ones, and such whose numbers follow no rule.
func someRosters() []api.Roster {
	out := append(rightRosters(), wrongRosters()...)
	src, odd := rand.New(rand.NewPCG(7, 8)), oddNumbers()
	for range 1500 {
		r := api.Roster{Group: anyText(src.IntN(10), 9), Servers: src.IntN(9) - 1, Clients: src.IntN(11) - 1}
		for range src.IntN(10) {
			r.Buddies = append(r.Buddies, src.IntN(3))
		}
		for range src.IntN(14) {
			r.Gone = append(r.Gone, []int{src.IntN(7) - 1, 98 + src.IntN(12), odd[src.IntN(len(odd))]}[src.IntN(3)])
		}
		if src.IntN(8) == 0 {
			r.Servers = odd[src.IntN(len(odd))]
		}
		if src.IntN(8) == 0 {
			r.Clients = odd[src.IntN(len(odd))]
		}
		out = append(out, r)
	}
	return out
}

// oddNumbers is numbers of members and of nobody, to the ends of int.
func oddNumbers() []int {
	out := []int{math.MinInt, math.MinInt + 1, math.MinInt + base, math.MaxInt, math.MaxInt - 1, math.MaxInt - base, math.MaxInt - base + 1, 50, 199, 200, 205, 1 << 32, 1<<32 + base, -1 << 32}
	for n := -2; n <= 9; n++ {
		out = append(out, n, base+n)
	}
	return out
}

// anyText is n bytes that follow no simple rule, the same ones for the same seed.
func anyText(n int, seed byte) string {
	out := make([]byte, n)
	rand.NewChaCha8([32]byte{seed}).Read(out)
	return string(out)
}

// knownMember is the chapter's sentence, in numbers without an end.
func knownMember(r api.Roster, m int) bool {
	number, servers, clients := big.NewInt(int64(m)), big.NewInt(int64(r.Servers)), big.NewInt(int64(r.Clients))
	first := big.NewInt(base)
	behind := new(big.Int).Add(first, clients)
	return number.Sign() >= 0 && number.Cmp(servers) < 0 || number.Cmp(first) >= 0 && number.Cmp(behind) < 0
}

// knownMembers is all members of a roster that has no more than it may.
func knownMembers(r api.Roster) []int {
	out := []int{}
	for m := range base + mostClients {
		if knownMember(r, m) {
			out = append(out, m)
		}
	}
	return out
}

// knownRight is the chapter's sentence.
func knownRight(r api.Roster) bool {
	for at, m := range r.Gone {
		if !knownMember(r, m) || at > 0 && r.Gone[at-1] >= m {
			return false
		}
	}
	return len(r.Group) > 0 && len(r.Group) < 9 && r.Servers > 0 && r.Servers < 5 && r.Clients > 0 && r.Clients < 7 && len(r.Buddies) == r.Clients && len(r.Gone) < 11
}

// knownLive is the chapter's sentence.
func knownLive(r api.Roster, m int) bool {
	return knownMember(r, m) && !slices.Contains(r.Gone, m)
}

// knownLiving is those that live of so many numbers from first on, each one asked.
func knownLiving(r api.Roster, first, many, most int) []int {
	out := []int{}
	for i := 0; i < most && i < many; i++ {
		if knownLive(r, first+i) {
			out = append(out, first+i)
		}
	}
	return out
}

func knownServers(r api.Roster) []int { return knownLiving(r, 0, r.Servers, mostServers) }
func knownClients(r api.Roster) []int { return knownLiving(r, base, r.Clients, mostClients) }

// knownFriends is by the place of each client.
func knownFriends(r api.Roster, c int) []int {
	out := []int{}
	for at, number := range r.Buddies {
		if at == c-base && c >= base {
			for other, f := range r.Buddies {
				if f == number && slices.Contains(knownClients(r), base+other) {
					out = append(out, base+other)
				}
			}
		}
	}
	return out
}

// knownClosed is by all pairs of clients.
func knownClosed(r api.Roster, l []int) []int {
	out := []int{}
	for _, c := range knownClients(r) {
		is := slices.Contains(l, c)
		for _, f := range knownFriends(r, c) {
			is = is && slices.Contains(l, f)
		}
		if is {
			out = append(out, c)
		}
	}
	return out
}

// knownNums is a list as bytes: how many, and five bytes of each.
func knownNums(l ...int) string {
	out := []byte{byte(len(l))}
	for _, n := range l {
		out = append(out, binary.BigEndian.AppendUint64(nil, uint64(n))[3:]...)
	}
	return string(out)
}

// knownPrint is the bytes of a roster, be it right or not.
func knownPrint(r api.Roster) string {
	return "\x00" + string(rune(len(r.Group))) + r.Group + knownNums(r.Servers, r.Clients) + knownNums(r.Buddies...) + knownNums(r.Gone...)
}

// printable is whether all numbers among Buddies have place in five bytes.
func printable(r api.Roster) bool {
	for _, n := range r.Buddies {
		if n < 0 || n >= 1<<40 {
			return false
		}
	}
	return true
}

// subsets is all lists of some of l, in order.
func subsets(l []int) [][]int {
	out := [][]int{nil}
	for _, m := range l {
		for _, s := range slices.Clone(out) {
			out = append(out, append(slices.Clone(s), m))
		}
	}
	return out
}

// is holds an answer against what is wanted.
func is[T comparable](t *testing.T, what any, got, want T) {
	t.Helper()
	if got != want {
		t.Errorf("%.300s: %.200q, want %.200q", fmt.Sprint(what), fmt.Sprint(got), fmt.Sprint(want))
	}
}

// are holds a list against what is wanted.
func are(t *testing.T, what any, got, want []int) {
	t.Helper()
	if !slices.Equal(got, want) {
		t.Errorf("%.300s: %v, want %v", fmt.Sprint(what), got, want)
	}
}

// alters wants this roster and error.
func alters(t *testing.T, what string, got api.Roster, err api.Errno, want api.Roster, wanted api.Errno) {
	t.Helper()
	if !same(got, want) || err != wanted {
		t.Errorf("%s: %v, %d, want %v, %d", what, got, err, want, wanted)
	}
}

// reads wants this roster of s.
func reads(t *testing.T, s string, want api.Roster) {
	t.Helper()
	if got, err := Read(s); !same(got, want) || err != api.OK {
		t.Errorf("Read(%q): %v, %d, want %v, 0", s, got, err, want)
	}
}

// fails wants just this error of s.
func fails(t *testing.T, s string, want api.Errno) {
	t.Helper()
	if got, err := Read(s); !same(got, api.Roster{}) || err != want {
		t.Errorf("Read(%.200q): %v, %d, want nothing, %d", s, got, err, want)
	}
}

func TestKnownOnes(t *testing.T) { // P12.1 to P12.7, P12.10
	r := example()
	is(t, "Right", Right(r), true)
	are(t, "Servers", Servers(r), []int{0, 1})
	are(t, "Clients", Clients(r), []int{100, 101, 102})
	are(t, "Friends", Friends(r, 100), []int{100, 101})
	are(t, "Friends", Friends(r, 102), []int{102})
	are(t, "Friends", Friends(r, 99), nil)
	are(t, "Friends", Friends(r, 103), nil)
	are(t, "Closed", Closed(r, []int{100, 102}), []int{102})
	are(t, "Closed", Closed(r, []int{102, 101, 100}), []int{100, 101, 102})
	are(t, "Closed", Closed(r, nil), nil)
	are(t, "Servers", Servers(gone(0)), []int{1})
	are(t, "Clients", Clients(gone(0, 101)), []int{100, 102})
	are(t, "Friends", Friends(gone(101), 100), []int{100})
	are(t, "Friends of who is gone", Friends(gone(101), 101), []int{100})
	are(t, "Closed", Closed(gone(101), []int{100}), []int{100})
	are(t, "Closed", Closed(gone(101), []int{101}), nil)
	for c, want := range map[int]int{100: 0, 101: 1, 102: 0, 103: 1, 200: 0, 99: -1, 0: -1, -2: -1} {
		is(t, c, Upstream(r, c), want)
	}
	is(t, "Upstream", Upstream(gone(0), 100), 1)
	is(t, "Upstream", Upstream(gone(0, 1), 100), -1)
	is(t, "Upstream of who is gone", Upstream(gone(101), 101), 1)
}

func TestRight(t *testing.T) { // P12.1
	for _, r := range rightRosters() {
		is(t, r, Right(r), true)
	}
	for _, r := range wrongRosters() {
		is(t, r, Right(r), false)
	}
	for _, r := range someRosters() {
		is(t, r, Right(r), knownRight(r))
	}
	for servers := -2; servers < 9; servers++ {
		for clients := range 10 {
			r := api.Roster{Group: "12345678", Servers: servers, Clients: clients, Buddies: make([]int, clients)}
			is(t, r, Right(r), servers >= 1 && servers <= 4 && clients >= 1 && clients <= 6)
		}
	}
}

func TestRightOfGone(t *testing.T) { // P12.1
	all := api.Roster{Group: "g", Servers: 4, Clients: 6, Buddies: make([]int, 6), Gone: []int{0, 1, 2, 3, 100, 101, 102, 103, 104, 105}}
	for _, l := range subsets(all.Gone) {
		r := copied(all)
		r.Gone = l
		is(t, r, Right(r), true)
		for at := range l {
			r.Gone = slices.Insert(slices.Clone(l), at, l[at])
			is(t, r, Right(r), false)
			r.Gone = slices.Clone(l)
			slices.Reverse(r.Gone[at:])
			is(t, r, Right(r), at == len(l)-1)
		}
	}
	for _, m := range oddNumbers() {
		is(t, m, Right(gone(m)), slices.Contains([]int{0, 1, 100, 101, 102}, m))
	}
}

func TestLive(t *testing.T) { // P12.2
	for _, r := range someRosters() {
		for _, m := range append(oddNumbers(), r.Gone...) {
			if Live(r, m) != knownLive(r, m) {
				t.Errorf("Live(%v, %d): %v", r, m, Live(r, m))
			}
		}
	}
	for _, n := range []int{base, base + 1, 1 << 40, math.MaxInt - base, math.MaxInt - base + 1, math.MaxInt - 1, math.MaxInt} {
		many := api.Roster{Clients: n, Gone: []int{104}}
		is(t, n, Live(many, math.MaxInt), n > math.MaxInt-base)
		is(t, n, Live(many, base-1), false)
		is(t, n, Live(many, base+min(n, math.MaxInt-base)-1), true)
		is(t, n, Live(many, 104), false)
		is(t, n, Live(many, 105), true)
		is(t, n, Live(api.Roster{Servers: n}, n-1), true)
		is(t, n, Live(api.Roster{Servers: n}, n), false)
		is(t, n, Live(api.Roster{Servers: n}, base-1), true)
	}
	is(t, "a server as a client's number", Live(api.Roster{Servers: 105, Clients: 1}, 104), true)
	is(t, "Gone in no order", Live(gone(102, 0, 0, 101, -7), 0), false)
	is(t, "Gone in no order", Live(gone(102, 0, 0, 101, -7), 101), false)
	is(t, "Gone in no order", Live(gone(102, 0, 0, 101, -7), 100), true)
}

func TestServersAndClients(t *testing.T) { // P12.3
	for _, r := range someRosters() {
		are(t, r, Servers(r), knownServers(r))
		are(t, r, Clients(r), knownClients(r))
		for _, m := range append(Servers(r), Clients(r)...) {
			is(t, r, Live(r, m), true)
		}
	}
	many := api.Roster{Servers: 1 << 40, Clients: math.MaxInt, Gone: []int{1, 104, 100, 1}}
	are(t, "Servers of many", Servers(many), []int{0, 2, 3})
	are(t, "Clients of many", Clients(many), []int{101, 102, 103, 105})
	few := api.Roster{Servers: math.MinInt, Clients: -1}
	are(t, "Servers of less than none", Servers(few), nil)
	are(t, "Clients of less than none", Clients(few), nil)
	are(t, "Clients of servers that have their numbers", Clients(api.Roster{Servers: 200}), nil)
}

func TestUpstream(t *testing.T) { // P12.4
	for _, r := range someRosters() {
		servers := knownServers(r)
		for _, c := range oddNumbers() {
			want := -1
			if c >= base && len(servers) > 0 {
				want = servers[(c-base)%len(servers)]
			}
			if got := Upstream(r, c); got != want {
				t.Errorf("Upstream(%v, %d): %d, want %d", r, c, got, want)
			}
		}
	}
}

func TestFriends(t *testing.T) { // P12.5
	for _, r := range someRosters() {
		for _, c := range oddNumbers() {
			are(t, r, Friends(r, c), knownFriends(r, c))
		}
		if Right(r) {
			for _, c := range Clients(r) {
				is(t, r, slices.Contains(Friends(r, c), c), true)
			}
		}
	}
	short := api.Roster{Clients: 4, Buddies: []int{0, 7, 0}}
	are(t, "no number", Friends(short, 103), nil)
	are(t, "the number 0 is not that of who has none", Friends(short, 100), []int{100, 102})
	long := api.Roster{Clients: 2, Buddies: []int{1, 2, 1}}
	are(t, "a number beyond the clients", Friends(long, 102), []int{100})
	are(t, "a number beyond the clients", Friends(long, 100), []int{100})
}

func TestClosed(t *testing.T) { // P12.6
	for i, r := range someRosters() {
		lists := append(subsets(knownClients(r)), oddNumbers(), r.Gone, r.Buddies, []int{102, 100, 102, 101, 100}, []int{0, 1, 2, 3})
		for at, l := range lists {
			if at%3 == i%3 || len(lists) < 10 {
				are(t, r, Closed(r, l), knownClosed(r, l))
			}
		}
	}
	short := api.Roster{Clients: 4, Buddies: []int{0, 7, 0}}
	are(t, "who has no number has nobody to miss", Closed(short, []int{103, 100}), []int{103})
	is(t, "nobody who is no client", len(Closed(example(), []int{0, 1, 99, 103, math.MaxInt, math.MinInt})), 0)
}

// All that follows of who is closed, of each two lists of clients where the one has the other.
func TestClosedAgain(t *testing.T) { // P12.11
	for _, r := range rightRosters()[:200] {
		all := subsets(knownClients(r))
		for _, l := range all {
			closed := Closed(r, l)
			for _, c := range closed {
				for _, f := range Friends(r, c) {
					is(t, r, slices.Contains(closed, f), true)
				}
			}
			are(t, r, Closed(r, closed), closed)
			for _, c := range knownClients(r) {
				more := Closed(r, append(slices.Clone(l), c))
				for _, had := range closed {
					if !slices.Contains(more, had) {
						t.Errorf("%v: Closed(%v) has %d, but not with %d", r, l, had, c)
					}
				}
			}
		}
	}
}

func TestExpel(t *testing.T) { // P12.7
	got, err := Expel(example(), 1)
	alters(t, "Expel", got, err, gone(1), api.OK)
	got, err = Expel(gone(1, 101), 100)
	alters(t, "Expel", got, err, gone(1, 100, 101), api.OK)
	got, err = Expel(gone(1, 101), 0)
	alters(t, "Expel", got, err, gone(0, 1, 101), api.OK)
	got, err = Expel(gone(1, 101), 102)
	alters(t, "Expel", got, err, gone(1, 101, 102), api.OK)
	got, err = Expel(gone(1, 101), 101)
	alters(t, "Expel of who is gone", got, err, gone(1, 101), api.ErrNone)
	got, err = Expel(gone(1, 101), 103)
	alters(t, "Expel of nobody", got, err, gone(1, 101), api.ErrNone)
	got, err = Expel(gone(102, -1, 0, 102, 500, 0), 101)
	alters(t, "Expel among others in no order", got, err, gone(-1, 0, 0, 101, 102, 102, 500), api.OK)
	got, err = Expel(gone(100, 0, 200, 102), 101)
	alters(t, "Expel keeps their order", got, err, gone(100, 0, 101, 200, 102), api.OK)
}

func TestWhoIsExpelled(t *testing.T) { // P12.7, P12.12
	for _, r := range someRosters() {
		for _, m := range append(oddNumbers(), r.Gone...) {
			got, err := Expel(r, m)
			if !knownLive(r, m) {
				alters(t, "Expel", got, err, r, api.ErrNone)
				continue
			}
			is(t, r, err, api.OK)
			is(t, r, Live(got, m), false)
			is(t, r, !Right(r) || Right(got), true)
			is(t, r, len(got.Gone), len(r.Gone)+1)
			for _, other := range oddNumbers() {
				is(t, r, Live(got, other), other != m && Live(r, other))
			}
			got.Gone = slices.Clone(r.Gone)
			is(t, r, same(got, r), true)
		}
	}
}

func TestBack(t *testing.T) { // P12.10
	got, err := Back(gone(0, 101), 0)
	alters(t, "Back", got, err, gone(101), api.OK)
	got, err = Back(gone(0, 101), 101)
	alters(t, "Back", got, err, gone(0), api.OK)
	got, err = Back(gone(0, 101), 1)
	alters(t, "Back of who lives", got, err, gone(0, 101), api.ErrNone)
	got, err = Back(gone(0, 50, 101, 103), 50)
	alters(t, "Back of nobody", got, err, gone(0, 50, 101, 103), api.ErrNone)
	got, err = Back(gone(0, 50, 101, 103), 103)
	alters(t, "Back of nobody", got, err, gone(0, 50, 101, 103), api.ErrNone)
	got, err = Back(gone(102, 1, 0, 1, 50, 1), 1)
	alters(t, "Back of who is there often", got, err, gone(102, 0, 50), api.OK)
}

func TestWhoIsBroughtBack(t *testing.T) { // P12.10, P12.13
	for _, r := range someRosters() {
		for _, m := range append(oddNumbers(), r.Gone...) {
			back, err := Back(r, m)
			if !knownMember(r, m) || knownLive(r, m) {
				alters(t, "Back", back, err, r, api.ErrNone)
			} else {
				is(t, r, err, api.OK)
				is(t, r, Live(back, m), true)
				is(t, r, !Right(r) || Right(back), true)
				want := slices.DeleteFunc(slices.Clone(r.Gone), func(g int) bool { return g == m })
				are(t, r, back.Gone, want)
			}
			expelled, err := Expel(r, m)
			if err != api.OK {
				continue
			}
			back, err = Back(expelled, m)
			is(t, r, err, api.OK)
			for _, other := range oddNumbers() {
				is(t, r, Live(back, other), Live(r, other))
			}
			if Right(r) {
				alters(t, "Back behind Expel", back, err, r, api.OK)
			}
		}
	}
}

func TestPrint(t *testing.T) { // P12.8
	want := "\x00\x01g" + "\x02\x00\x00\x00\x00\x02\x00\x00\x00\x00\x03" + "\x03\x00\x00\x00\x00\x01\x00\x00\x00\x00\x01\x00\x00\x00\x00\x02" + "\x02\x00\x00\x00\x00\x01\x00\x00\x00\x00\x65"
	got, err := Print(gone(1, 101))
	is(t, "Print", got, want)
	is(t, "Print", err, api.OK)
	for _, r := range someRosters() {
		want, wanted := knownPrint(r), api.OK
		if !knownRight(r) || !printable(r) {
			want, wanted = "", api.ErrArg
		}
		got, err := Print(r)
		is(t, r, got, want)
		is(t, r, err, wanted)
	}
	for _, n := range []int{-1, 1 << 40, math.MinInt, math.MaxInt} {
		for at := range 3 {
			r := example()
			r.Buddies[at] = n
			got, err := Print(r)
			is(t, r, got, "")
			is(t, r, err, api.ErrArg)
			is(t, r, Right(r), true)
		}
	}
	ends := with(func(r *api.Roster) { r.Buddies = []int{0, 1<<40 - 1, 1<<40 - 2} })
	got, err = Print(ends)
	is(t, ends, got, knownPrint(ends))
	is(t, ends, err, api.OK)
}

func TestWhatIsPrintedIsRead(t *testing.T) { // P12.9, P12.13
	for _, r := range someRosters() {
		if !knownRight(r) || !printable(r) {
			continue
		}
		s, _ := Print(r)
		reads(t, s, r)
		fails(t, s+"x", api.ErrForm)
		fails(t, s+"\x00", api.ErrForm)
		fails(t, s+s, api.ErrForm)
		for n := range len(s) {
			fails(t, s[:n], api.ErrShort)
		}
	}
}

// What has the form of a roster, but is none that is right.
func TestReadOfWrongRosters(t *testing.T) { // P12.9
	for _, r := range append(wrongRosters(), someRosters()...) {
		numbers := append([]int{r.Servers, r.Clients}, append(r.Gone, r.Buddies...)...)
		if knownRight(r) || len(r.Group) > 100 || slices.Min(numbers) < 0 || slices.Max(numbers) >= 1<<40 {
			continue
		}
		fails(t, knownPrint(r), api.ErrForm)
		fails(t, knownPrint(r)+"x", api.ErrForm)
	}
	rest := knownNums(1, 1, 2) + knownNums(1)
	for _, l := range [][]int{nil, {2}, {2, 3, 0}, {2, 3, 3}, {2, 3, 1, 1}} {
		fails(t, "\x00\x01g"+knownNums(l...)+rest, api.ErrForm)
	}
}

// The error of each part is told ahead of that of the next, and of what is wrong of the whole.
func TestReadOfWrongParts(t *testing.T) { // P12.9, R2
	group, many, wrong := "\x00\x01g", knownNums(2, 3), knownNums(2)
	long := "\x17\x71" + strings.Repeat("g", 6001)
	buddies, left := knownNums(1, 1, 2), knownNums(1)
	for s, want := range map[string]api.Errno{
		"":                                     api.ErrShort,
		"\x00":                                 api.ErrShort,
		"\x00\x01":                             api.ErrShort,
		group:                                  api.ErrShort,
		group + wrong:                          api.ErrShort,
		group + many:                           api.ErrShort,
		group + many + buddies:                 api.ErrShort,
		group + wrong + buddies:                api.ErrShort,
		group + wrong + buddies + left[:5]:     api.ErrShort,
		group + many + "\xff" + buddies:        api.ErrShort,
		group + "\x03" + many[1:]:              api.ErrShort,
		"\xff\xff":                             api.ErrLong,
		"\x17\x71":                             api.ErrLong,
		long:                                   api.ErrLong,
		long + wrong:                           api.ErrLong,
		long + many + buddies + left:           api.ErrLong,
		"\x17\x70" + long[3:]:                  api.ErrShort,
		"\x00\x00" + many + buddies + left:     api.ErrForm,
		group + wrong + buddies + left:         api.ErrForm,
		group + buddies + many + left:          api.ErrForm,
		group + many + left + buddies:          api.ErrForm,
		group + many + buddies + left + "\x00": api.ErrForm,
	} {
		fails(t, s, want)
	}
	reads(t, group+many+buddies+left, gone(1))
	reads(t, group+many+buddies+"\x00", example())
}

// Any bytes: what is read of them is right, and printed so.
func TestWhatIsReadIsPrintedSo(t *testing.T) { // P12.9, P12.13, R1
	src, many := rand.New(rand.NewPCG(9, 10)), 0
	for _, r := range rightRosters() {
		if !printable(r) {
			continue
		}
		for range 20 {
			s := []byte(knownPrint(r))
			for range 1 + src.IntN(3) {
				s[src.IntN(len(s))] = byte([]int{0, src.IntN(8), 98 + src.IntN(10), src.IntN(256)}[src.IntN(4)])
			}
			read, err := Read(string(s))
			if err != api.OK {
				fails(t, string(s), err)
				continue
			}
			many++
			is(t, read, Right(read), true)
			printed, err := Print(read)
			is(t, read, printed, string(s))
			is(t, read, err, api.OK)
		}
	}
	if many < 1000 {
		t.Errorf("only %d were read", many)
	}
}

// fenced is r, its lists ahead of numbers that are not theirs, and these numbers.
func fenced(r api.Roster) (api.Roster, []int) {
	all := slices.Concat(r.Buddies, []int{-3, -4}, r.Gone, []int{-5, -6, -7})
	r.Buddies, r.Gone = all[:len(r.Buddies)], all[len(r.Buddies)+2:len(all)-3]
	return r, all
}

// Neither the lists nor what lies behind their ends is changed.
func TestWhatIsHandedIn(t *testing.T) { // R3
	for _, plain := range rightRosters() {
		r, all := fenced(plain)
		was := slices.Clone(all)
		list := []int{102, 100, 101, 100, 7, 8}
		for _, m := range append(oddNumbers(), plain.Gone...) {
			Live(r, m)
			Upstream(r, m)
			Friends(r, m)
			Expel(r, m)
			Back(r, m)
		}
		Right(r)
		Servers(r)
		Clients(r)
		Print(r)
		Closed(r, list[:4])
		are(t, plain, all, was)
		are(t, plain, list, []int{102, 100, 101, 100, 7, 8})
	}
}

// What was answered is nobody else's: it can be altered, and what was handed in, and what is answered next, stay as they were.
func TestMemory(t *testing.T) { // R3, R4
	for _, m := range []int{0, 1, 2, 50, 100, 101, 102, 103} {
		r := gone(1, 101)
		for _, alter := range []func(api.Roster, int) (api.Roster, api.Errno){Expel, Back} {
			first, err := alter(r, m)
			want := copied(first)
			clear(first.Buddies)
			clear(first.Gone)
			alters(t, "what was handed in", r, api.OK, gone(1, 101), api.OK)
			again, _ := alter(r, m)
			alters(t, "what is answered next", again, err, want, err)
			clear(r.Buddies)
			clear(r.Gone)
			alters(t, "what was answered", again, err, want, err)
			r = gone(1, 101)
		}
	}
	r, list := example(), []int{100, 101, 102}
	for range 2 {
		lists := [][]int{Servers(r), Clients(r), Friends(r, 100), Closed(r, list)}
		for i, want := range [][]int{{0, 1}, {100, 101, 102}, {100, 101}, {100, 101, 102}} {
			are(t, i, lists[i], want)
			clear(lists[i])
		}
		are(t, "the list", list, []int{100, 101, 102})
	}
	s, _ := Print(gone(1, 101))
	read, _ := Read(s)
	clear(read.Buddies)
	clear(read.Gone)
	reads(t, s, gone(1, 101))
}

// Long lists are gone through no more often than once for each member.
func TestLongLists(t *testing.T) { // R1
	const n = 1 << 22
	begin := time.Now()
	r, list := api.Roster{Group: "g", Servers: n, Clients: n, Buddies: make([]int, n), Gone: make([]int, n)}, make([]int, n)
	for i := range n {
		r.Gone[i], list[i] = -i, n+i
	}
	r.Gone[n/2], list[n/2] = 103, 102
	is(t, "Right", Right(r), false)
	is(t, "Live", Live(r, 1), true)
	is(t, "Live", Live(r, 0), false)
	are(t, "Servers", Servers(r), []int{1, 2, 3})
	are(t, "Clients", Clients(r), []int{100, 101, 102, 104, 105})
	are(t, "Friends", Friends(r, base+n-1), []int{100, 101, 102, 104, 105})
	is(t, "Upstream", Upstream(r, base+n), 1+n%3)
	are(t, "Closed", Closed(r, list), nil)
	r.Buddies[2] = 1
	are(t, "Closed", Closed(r, list), []int{102})
	out, err := Expel(r, 5)
	is(t, "Expel", len(out.Gone), n+1)
	is(t, "Expel", err, api.OK)
	out, err = Back(r, 103)
	is(t, "Back", len(out.Gone), n-1)
	is(t, "Back", err, api.OK)
	if took := time.Since(begin); took > time.Minute {
		t.Errorf("long lists took %v", took)
	}
}
