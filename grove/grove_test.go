package grove

import (
	"crypto/sha256"
	"encoding/binary"
	"encoding/hex"
	"maps"
	"math"
	"math/rand/v2"
	"slices"
	"strings"
	"testing"

	"murmur/api"
	"murmur/chains"
)

// anyText is n bytes that follow no simple rule, the same ones for the same seed.
func anyText(n int, seed byte) string {
	out := make([]byte, n)
	rand.NewChaCha8([32]byte{seed}).Read(out)
	return string(out)
}

// turned is s with one bit turned.
func turned(s string, bit int) string {
	out := []byte(s)
	out[bit/8] ^= 1 << (bit % 8)
	return string(out)
}

// rightShapes is shapes at the ends and in between, whose trees are not too great to be gone through whole.
func rightShapes() []api.Shape {
	return []api.Shape{{N: 2}, {N: 2, H: 1}, {N: 3, H: 2}, {N: 4, H: 3}, {N: 16, H: 3}, {N: 5, H: 4}, {N: 2, H: 8}, {N: 31, H: 1}, {N: 32}, {N: 32, H: 2}}
}

// wrongShapes is shapes with one number or both past an end.
func wrongShapes() []api.Shape {
	return []api.Shape{
		{}, {N: 1}, {N: 1, H: 8}, {N: 33}, {N: 33, H: 4}, {N: -2}, {N: math.MinInt}, {N: math.MaxInt},
		{N: 2, H: -1}, {N: 2, H: 9}, {N: 16, H: -1}, {N: 32, H: 9}, {N: 16, H: 64}, {N: 16, H: math.MinInt}, {N: 16, H: math.MaxInt},
		{N: 1, H: -1}, {N: 33, H: 9}, {N: math.MaxInt, H: math.MaxInt}, {N: 0, H: 8}, {N: 0, H: 1}, {H: -1},
	}
}

// rooms is rooms of all kinds of length.
func rooms() []string {
	return []string{"", "room", "roomroom", strings.Repeat("\x00", 8), anyText(70, 1), anyText(300, 2)}
}

// knownParts is the digest of parts, by Go's own SHA-256.
func knownParts(parts ...string) string {
	all := []byte{}
	for _, s := range parts {
		all = append(binary.BigEndian.AppendUint32(all, uint32(len(s))), s...)
	}
	sum := sha256.Sum256(all)
	return string(sum[:])
}

// knownOne is two nodes as one, of that height and place.
func knownOne(p api.Shape, room string, height, place int, left, right string) string {
	return knownParts("node", room, string([]byte{byte(height)}), string(binary.BigEndian.AppendUint32(nil, uint32(place))), left+right)[:p.N]
}

// knownTree is all nodes: of each height, from the leaves on.
func knownTree(p api.Shape, seed, room string) [][]string {
	row := []string{}
	for leaf := range 1 << p.H {
		row = append(row, chains.Leaf(p, seed, room, leaf))
	}
	tree := [][]string{row}
	for height := 1; height <= p.H; height++ {
		row = []string{}
		for place := range 1 << (p.H - height) {
			below := tree[height-1]
			row = append(row, knownOne(p, room, height, place, below[2*place], below[2*place+1]))
		}
		tree = append(tree, row)
	}
	return tree
}

// top is the root of a tree.
func top(tree [][]string) string {
	return tree[len(tree)-1][0]
}

// knownPath is what lies beside the way from the leaf to the root.
func knownPath(tree [][]string, leaf int) string {
	path := ""
	for _, row := range tree[:len(tree)-1] {
		path += row[leaf^1]
		leaf /= 2
	}
	return path
}

// knownClimb is where the path leads.
func knownClimb(p api.Shape, room string, leaf int, node, path string) string {
	for height := 1; height <= p.H; height++ {
		beside := path[:p.N]
		path = path[p.N:]
		if leaf%2 == 0 {
			node = knownOne(p, room, height, leaf/2, node, beside)
		} else {
			node = knownOne(p, room, height, leaf/2, beside, node)
		}
		leaf /= 2
	}
	return node
}

// knownProof goes through all numbers of each height, at hand or not.
func knownProof(tree [][]string, leaves []int) string {
	proof, hand := "", map[int]int{}
	for _, leaf := range leaves {
		hand[leaf]++
	}
	for _, row := range tree[:len(tree)-1] {
		above := map[int]int{}
		for number := range row {
			if hand[number] > 0 {
				above[number/2]++
				if hand[number^1] == 0 {
					proof += row[number^1]
				}
			}
		}
		hand = above
	}
	return proof
}

// knownMany fills what is at hand up from the proof, height by height, and then puts each two as one; the bool says whether the proof has just the bytes that it needs.
func knownMany(p api.Shape, room string, leaves []int, nodes []string, proof string) (string, bool) {
	hand := map[int]string{}
	for i, leaf := range leaves {
		hand[leaf] = nodes[i]
	}
	for height := 1; height <= p.H; height++ {
		above := map[int]string{}
		for _, number := range slices.Sorted(maps.Keys(hand)) {
			if _, has := hand[number^1]; has {
				continue
			}
			if len(proof) < p.N {
				return "", false
			}
			hand[number^1], proof = proof[:p.N], proof[p.N:]
		}
		for number := range hand {
			above[number/2] = knownOne(p, room, height, number/2, hand[number&^1], hand[number|1])
		}
		hand = above
	}
	return hand[0], proof == ""
}

// choices is all choices of leaves of a tree that is that high, but for none; of a higher one than 4 only some.
func choices(high int) [][]int {
	all := 1 << high
	out := [][]int{}
	if high <= 4 {
		for bits := 1; bits < 1<<all; bits++ {
			out = append(out, chosen(all, func(leaf int) bool { return bits>>leaf&1 == 1 }))
		}
		return out
	}
	r := rand.New(rand.NewPCG(8, uint64(high)))
	for odds := 2; odds < 2*all; odds *= 2 {
		for range 5 {
			if one := chosen(all, func(int) bool { return r.IntN(odds) == 0 }); len(one) > 0 {
				out = append(out, one)
			}
		}
	}
	every := func(int) bool { return true }
	return append(out, chosen(all, every), chosen(all-1, every), []int{0}, []int{all - 1}, []int{0, all - 1}, []int{all/2 - 1, all / 2}, []int{all/2 - 2, all/2 - 1})
}

// chosen is the numbers below all for which is says so.
func chosen(all int, is func(int) bool) []int {
	out := []int{}
	for leaf := range all {
		if is(leaf) {
			out = append(out, leaf)
		}
	}
	return out
}

// wrongChoices is lists that are no choices of leaves of a tree that is that high.
func wrongChoices(high int) [][]int {
	all := 1 << high
	out := [][]int{
		nil, {}, {-1}, {all}, {math.MinInt}, {math.MaxInt}, {all + 1}, {1 << 32}, {-all}, {0, 0}, {0, all}, {-1, 0}, {all - 1, all}, {all - 1, all - 1},
		{math.MinInt, 0}, {0, math.MaxInt}, {math.MaxInt, math.MinInt}, {math.MinInt, math.MaxInt}, {0, math.MinInt}, {all - 1, math.MaxInt, 0}, {math.MaxInt, math.MaxInt},
	}
	if high > 0 {
		out = append(out, []int{1, 0}, []int{0, 1, 1}, []int{0, 0, 1}, []int{0, 1, 0}, []int{0, 1, all}, []int{-1, 0, 1}, []int{all - 1, 0})
	}
	return out
}

// picked is what the numbers of a row have.
func picked(row []string, numbers []int) []string {
	out := []string{}
	for _, n := range numbers {
		out = append(out, row[n])
	}
	return out
}

// says holds an answer against what is wanted.
func says(t *testing.T, what, got, want string) {
	t.Helper()
	if got != want {
		t.Errorf("%s: %x, want %x", what, got, want)
	}
}

// hexed is the digest of s, as it is written.
func hexed(s string) string {
	sum := sha256.Sum256([]byte(s))
	return hex.EncodeToString(sum[:])
}

// What another program, with another SHA-256, came to.
func TestKnownOnes(t *testing.T) { // P8.1, P8.2, P8.4
	for _, c := range []struct {
		p         api.Shape
		root      string
		leaf      int
		pathSum   string
		leaves    []int
		proofLong int
		proofSum  string
	}{
		{api.Shape{N: 2}, "1e6e", 0, "e3b0c44298fc1c149afbf4c8996fb92427ae41e4649b934ca495991b7852b855",
			[]int{0}, 0, "e3b0c44298fc1c149afbf4c8996fb92427ae41e4649b934ca495991b7852b855"},
		{api.Shape{N: 2, H: 1}, "ccd7", 1, "e96caba2eccb8a752ee50294aaf3f25c9101934cf4ff5cccb75e21ac9ec8a4a3",
			[]int{0}, 2, "3b1cf76455ea69c901d33672237f01d4dc5ea9e288f383a813caa18860ccf933"},
		{api.Shape{N: 16, H: 3}, "be88cbf3d8f63bb160637e5fc894b252", 5, "2c7a6061d614fd18a5ee60681f7d02829a203f5e754d0d9d9d0d5a6f415cbade",
			[]int{1, 2, 6}, 64, "45059577686a215afe1b575c586d4bf8d2756b808f0a8bd94e873548cf3a6f02"},
		{api.Shape{N: 32, H: 8}, "b031fe788f92da4a08c172f543870bd31336673f977e01b864918e9d2b9f3d70", 200, "75c1a0714ab7b60f5f7f190580370d021e636439c0a5dc90da0ecc76dcea2449",
			[]int{0, 1, 17, 100, 101, 102, 255}, 640, "2c6d555dec2ef2fb40f9eef18988bcbd8b76eecf354bdf19bb9dc60b31968078"},
	} {
		if got := hex.EncodeToString([]byte(Node(c.p, "seed", "room", [2]int{c.p.H, 0}))); got != c.root {
			t.Errorf("the root of the shape %v: %s, want %s", c.p, got, c.root)
		}
		path, proof := Path(c.p, "seed", "room", c.leaf), Proof(c.p, "seed", "room", c.leaves)
		if hexed(path) != c.pathSum || len(path) != c.p.N*c.p.H {
			t.Errorf("the path of the shape %v has %d bytes, %x", c.p, len(path), path)
		}
		if hexed(proof) != c.proofSum || len(proof) != c.proofLong {
			t.Errorf("the proof of the shape %v has %d bytes, %x", c.p, len(proof), proof)
		}
	}
}

func TestNode(t *testing.T) { // P8.1
	for _, p := range rightShapes() {
		for height, row := range knownTree(p, "seed", "room") {
			for place, want := range row {
				if p.H == 8 && place%7 != 0 {
					continue
				}
				says(t, "Node", Node(p, "seed", "room", [2]int{height, place}), want)
			}
		}
	}
}

func TestNodeOfAnySeedAndRoom(t *testing.T) { // P8.1
	p := api.Shape{N: 9, H: 2}
	for _, room := range rooms() {
		for _, seed := range []string{"", "room", anyText(32, 3), anyText(100, 4)} {
			for height, row := range knownTree(p, seed, room) {
				for place, want := range row {
					says(t, "Node", Node(p, seed, room, [2]int{height, place}), want)
				}
			}
		}
	}
}

// The greatest and the least tree: of the height 0 the root is the leaf 0.
func TestNodeAtItsEnds(t *testing.T) { // P8.1
	for _, n := range []int{2, 16, 32} {
		p := api.Shape{N: n}
		says(t, "the root of the height 0", Node(p, "seed", "room", [2]int{0, 0}), chains.Leaf(p, "seed", "room", 0))
		says(t, "the path of the height 0", Path(p, "seed", "room", 0), "")
	}
	p := api.Shape{N: 32, H: 8}
	tree := knownTree(p, "seed", "room")
	for _, where := range [][2]int{{8, 0}, {7, 0}, {7, 1}, {0, 0}, {0, 255}, {1, 127}, {4, 15}} {
		says(t, "Node of the greatest tree", Node(p, "seed", "room", where), tree[where[0]][where[1]])
	}
}

func TestNodeThatIsNotThere(t *testing.T) { // P8.1
	for _, p := range rightShapes() {
		for height := range p.H + 1 {
			all := 1 << (p.H - height)
			for _, place := range []int{-1, -2, -all, all, all + 1, 2 * all, 256, 1 << 32, math.MinInt, math.MaxInt} {
				if place >= 0 && place < all {
					continue
				}
				says(t, "Node of no place", Node(p, "seed", "room", [2]int{height, place}), "")
			}
		}
		for _, height := range []int{-1, -2, -64, p.H + 1, p.H + 2, 9, 64, math.MinInt, math.MaxInt} {
			for _, place := range []int{0, 1, -1, math.MinInt, math.MaxInt} {
				says(t, "Node of no height", Node(p, "seed", "room", [2]int{height, place}), "")
			}
		}
	}
}

// A node hangs on the seed, the room, the shape's bytes, its height and its place; the tree's height says nothing of it.
func TestNodeOfAllThatCounts(t *testing.T) { // P8.1
	p := api.Shape{N: 16, H: 3}
	met := map[string]int{}
	for _, node := range []string{
		Node(p, "seed", "room", [2]int{1, 1}), Node(p, "seee", "room", [2]int{1, 1}), Node(p, "seed", "roon", [2]int{1, 1}),
		Node(p, "seed", "room", [2]int{1, 2}), Node(p, "seed", "room", [2]int{2, 1}), Node(p, "seedr", "oom", [2]int{1, 1}),
		Node(p, "seed", "room", [2]int{0, 1}), Node(p, "seed", "room", [2]int{3, 0}),
	} {
		met[node]++
		if len(node) != 16 {
			t.Errorf("a node of %d bytes, want 16", len(node))
		}
	}
	if len(met) != 8 {
		t.Errorf("8 nodes are %d", len(met))
	}
	for h := 1; h <= 8; h++ {
		says(t, "Node of another tree", Node(api.Shape{N: 16, H: h}, "seed", "room", [2]int{1, 0}), Node(p, "seed", "room", [2]int{1, 0}))
	}
}

func TestPath(t *testing.T) { // P8.2
	for _, p := range rightShapes() {
		tree := knownTree(p, "seed", "room")
		for leaf := range 1 << p.H {
			if p.H == 8 && leaf%9 != 0 && leaf != 254 {
				continue
			}
			path := Path(p, "seed", "room", leaf)
			says(t, "Path", path, knownPath(tree, leaf))
			if len(path) != p.N*p.H {
				t.Errorf("Path of the shape %v has %d bytes", p, len(path))
			}
		}
	}
	p := api.Shape{N: 7, H: 2}
	for _, room := range rooms() {
		for _, seed := range []string{"", "room", anyText(32, 3), anyText(100, 4)} {
			says(t, "Path", Path(p, seed, room, 2), knownPath(knownTree(p, seed, room), 2))
		}
	}
}

func TestPathOfNoLeaf(t *testing.T) { // P8.2, P8.3
	for _, p := range rightShapes() {
		all := 1 << p.H
		for _, leaf := range []int{-1, -2, -all, all, all + 1, 2 * all, 256, 1 << 32, math.MinInt, math.MaxInt} {
			says(t, "Path of no leaf", Path(p, "seed", "room", leaf), "")
			says(t, "Climb from no leaf", Climb(p, "room", leaf, "node", anyText(p.N*p.H, 5)), "")
		}
	}
}

func TestClimb(t *testing.T) { // P8.3
	for _, p := range rightShapes() {
		path := anyText(p.N*p.H, 6)
		for leaf := range 1 << p.H {
			for _, n := range []int{0, 1, p.N, p.N + 1, 100} {
				node := anyText(n, 7)
				says(t, "Climb", Climb(p, "room", leaf, node, path), knownClimb(p, "room", leaf, node, path))
			}
		}
		for _, room := range rooms() {
			says(t, "Climb", Climb(p, room, 0, "node", path), knownClimb(p, room, 0, "node", path))
		}
	}
	says(t, "Climb of the height 0", Climb(api.Shape{N: 5}, "room", 0, "any node", ""), "any node")
}

func TestClimbOfOtherLengths(t *testing.T) { // P8.3
	for _, p := range rightShapes() {
		path := anyText(p.N*p.H+2*p.N, 8)
		for n := range len(path) + 1 {
			if n != p.N*p.H {
				says(t, "Climb by a path of another length", Climb(p, "room", 0, "node", path[:n]), "")
			}
		}
	}
}

// Whatever is altered, the climb ends elsewhere.
func TestClimbOfOthers(t *testing.T) { // P8.3, P8.6
	p := api.Shape{N: 16, H: 3}
	root, node, path := Node(p, "seed", "room", [2]int{3, 0}), chains.Leaf(p, "seed", "room", 5), Path(p, "seed", "room", 5)
	says(t, "Climb", Climb(p, "room", 5, node, path), root)
	for leaf := range 8 {
		if leaf != 5 && Climb(p, "room", leaf, node, path) == root {
			t.Errorf("the leaf 5 climbs to the root from %d", leaf)
		}
	}
	for bit := range 8 * len(path) {
		if Climb(p, "room", 5, node, turned(path, bit)) == root {
			t.Errorf("the root is there with the bit %d of the path turned", bit)
		}
	}
	for bit := range 8 * len(node) {
		if Climb(p, "room", 5, turned(node, bit), path) == root {
			t.Errorf("the root is there with the bit %d of the leaf turned", bit)
		}
	}
	if Climb(p, "roon", 5, node, path) == root || Climb(p, "room", 5, node, path[16:]+path[:16]) == root {
		t.Errorf("the root is there in another room, or by another path")
	}
}

func TestClimbEndsAtTheRoot(t *testing.T) { // P8.6
	for i, p := range rightShapes() {
		room := rooms()[i%len(rooms())]
		root := Node(p, "seed", room, [2]int{p.H, 0})
		for leaf := range 1 << p.H {
			if p.H == 8 && leaf%17 != 0 {
				continue
			}
			says(t, "Climb from a leaf", Climb(p, room, leaf, chains.Leaf(p, "seed", room, leaf), Path(p, "seed", room, leaf)), root)
		}
	}
}

func TestProof(t *testing.T) { // P8.4
	for _, p := range []api.Shape{{N: 2}, {N: 5, H: 1}, {N: 3, H: 2}, {N: 4, H: 3}, {N: 2, H: 8}, {N: 32, H: 2}} {
		tree := knownTree(p, "seed", "room")
		for _, leaves := range choices(p.H) {
			says(t, "Proof", Proof(p, "seed", "room", leaves), knownProof(tree, leaves))
		}
	}
	p := api.Shape{N: 7, H: 2}
	for _, room := range rooms() {
		for _, seed := range []string{"", "room", anyText(32, 3), anyText(100, 4)} {
			says(t, "Proof", Proof(p, seed, room, []int{0, 3}), knownProof(knownTree(p, seed, room), []int{0, 3}))
		}
	}
}

// The proof of one leaf is its path, that of all leaves has nothing; in between, node by node.
func TestProofByHand(t *testing.T) { // P8.4
	p := api.Shape{N: 6, H: 3}
	node := func(height, place int) string { return Node(p, "seed", "room", [2]int{height, place}) }
	for leaf := range 8 {
		says(t, "the proof of a leaf", Proof(p, "seed", "room", []int{leaf}), Path(p, "seed", "room", leaf))
	}
	says(t, "the proof of all", Proof(p, "seed", "room", []int{0, 1, 2, 3, 4, 5, 6, 7}), "")
	says(t, "the proof of a half", Proof(p, "seed", "room", []int{4, 5, 6, 7}), node(2, 0))
	says(t, "the proof of two beside", Proof(p, "seed", "room", []int{2, 3}), node(1, 0)+node(2, 1))
	says(t, "the proof of two that meet", Proof(p, "seed", "room", []int{1, 2}), node(0, 0)+node(0, 3)+node(2, 1))
	says(t, "the proof of two apart", Proof(p, "seed", "room", []int{1, 6}), node(0, 0)+node(0, 7)+node(1, 1)+node(1, 2))
	says(t, "the proof of three", Proof(p, "seed", "room", []int{0, 1, 7}), node(0, 6)+node(1, 1)+node(1, 2))
}

func TestProofOfNoLeaves(t *testing.T) { // P8.4
	for _, p := range rightShapes() {
		for _, leaves := range wrongChoices(p.H) {
			says(t, "Proof of no leaves", Proof(p, "seed", "room", leaves), "")
		}
	}
}

func TestMany(t *testing.T) { // P8.5
	for _, p := range []api.Shape{{N: 2}, {N: 5, H: 1}, {N: 3, H: 2}, {N: 4, H: 3}, {N: 2, H: 8}, {N: 32, H: 2}} {
		tree := knownTree(p, "seed", "room")
		for i, leaves := range choices(p.H) {
			nodes, proof := []string{}, anyText(len(knownProof(tree, leaves)), byte(i))
			for at := range leaves {
				nodes = append(nodes, anyText([]int{p.N, p.N, p.N, 0, 1, 70}[(i+at)%6], byte(at)))
			}
			room := rooms()[i%len(rooms())]
			want, just := knownMany(p, room, leaves, nodes, proof)
			if !just {
				t.Fatalf("the proof of %v has not the bytes that it needs", leaves)
			}
			says(t, "Many", Many(p, room, leaves, nodes, proof), want)
		}
	}
	says(t, "Many of the height 0", Many(api.Shape{N: 5}, "room", []int{0}, []string{"any node"}, ""), "any node")
}

func TestManyOfOtherLengths(t *testing.T) { // P8.5
	for _, p := range []api.Shape{{N: 2}, {N: 5, H: 1}, {N: 3, H: 2}, {N: 4, H: 3}} {
		tree := knownTree(p, "seed", "room")
		for _, leaves := range choices(p.H) {
			nodes, long := picked(tree[0], leaves), len(knownProof(tree, leaves))
			proof := knownProof(tree, leaves) + anyText(2*p.N, 9)
			for n := range len(proof) + 1 {
				if n != long {
					says(t, "Many by a proof of another length", Many(p, "room", leaves, nodes, proof[:n]), "")
				}
			}
			for _, other := range [][]string{nil, {}, nodes[1:], nodes[:len(nodes)-1], append(slices.Clone(nodes), nodes[0]), append(slices.Clone(nodes), "")} {
				says(t, "Many of more or fewer nodes", Many(p, "room", leaves, other, proof[:long]), "")
			}
		}
	}
}

func TestManyOfNoLeaves(t *testing.T) { // P8.5
	for _, p := range rightShapes() {
		for _, leaves := range wrongChoices(p.H) {
			nodes := []string{}
			for i := range leaves {
				nodes = append(nodes, anyText(p.N, byte(i)))
			}
			for n := range 2*p.H + 3 {
				says(t, "Many of no leaves", Many(p, "room", leaves, nodes, anyText(n*p.N, 10)), "")
			}
		}
	}
}

// Whatever is altered, the climb ends elsewhere.
func TestManyOfOthers(t *testing.T) { // P8.5, P8.7
	p := api.Shape{N: 16, H: 3}
	tree, leaves := knownTree(p, "seed", "room"), []int{1, 2, 6}
	nodes, proof := picked(tree[0], leaves), Proof(p, "seed", "room", leaves)
	says(t, "Many", Many(p, "room", leaves, nodes, proof), top(tree))
	for bit := range 8 * len(proof) {
		if Many(p, "room", leaves, nodes, turned(proof, bit)) == top(tree) {
			t.Errorf("the root is there with the bit %d of the proof turned", bit)
		}
	}
	for i := range nodes {
		for bit := range 8 * p.N {
			others := slices.Clone(nodes)
			others[i] = turned(nodes[i], bit)
			if Many(p, "room", leaves, others, proof) == top(tree) {
				t.Errorf("the root is there with the bit %d of the node %d turned", bit, i)
			}
		}
	}
	for _, others := range [][]int{{0, 2, 6}, {1, 3, 6}, {1, 2, 7}, {1, 2, 5}, {2, 5, 6}} {
		if Many(p, "room", others, nodes, proof) == top(tree) {
			t.Errorf("the root is there from %v", others)
		}
	}
	if Many(p, "roon", leaves, nodes, proof) == top(tree) || Many(p, "room", leaves, []string{nodes[1], nodes[0], nodes[2]}, proof) == top(tree) {
		t.Errorf("the root is there in another room, or of nodes in another order")
	}
}

func TestManyEndAtTheRoot(t *testing.T) { // P8.7
	for _, p := range []api.Shape{{N: 2}, {N: 5, H: 1}, {N: 3, H: 2}, {N: 4, H: 3}, {N: 2, H: 8}, {N: 32, H: 2}} {
		tree := knownTree(p, "seed", "room")
		for _, leaves := range choices(p.H) {
			proof := Proof(p, "seed", "room", leaves)
			says(t, "Many", Many(p, "room", leaves, picked(tree[0], leaves), proof), top(tree))
			if len(proof) > len(leaves)*p.N*p.H {
				t.Errorf("the proof of %v has %d bytes, more than their paths", leaves, len(proof))
			}
		}
	}
}

// All choices of a tree with 16 leaves; their proofs are taken from the tree, so as not to make it 65535 times.
func TestManyOfAllChoices(t *testing.T) { // P8.5, P8.7
	p := api.Shape{N: 2, H: 4}
	tree := knownTree(p, "seed", "room")
	for i, leaves := range choices(p.H) {
		if i%5 == 0 {
			says(t, "Many", Many(p, "room", leaves, picked(tree[0], leaves), knownProof(tree, leaves)), top(tree))
		}
	}
}

func TestNothingOfWrongShapes(t *testing.T) { // P8.1, P8.2, P8.3, P8.4, P8.5
	for _, p := range wrongShapes() {
		for _, where := range [][2]int{{0, 0}, {1, 0}, {0, 1}, {8, 0}, {9, 0}, {p.H, 0}, {-1, 0}} {
			says(t, "Node", Node(p, "seed", "room", where), "")
		}
		for _, leaf := range []int{0, 1, -1, 255} {
			says(t, "Path", Path(p, "seed", "room", leaf), "")
			says(t, "Proof", Proof(p, "seed", "room", []int{leaf}), "")
			for _, n := range []int{0, 1, 2, 8, 16, 33 * 4, 32 * 9, 33 * 9} {
				says(t, "Climb", Climb(p, "room", leaf, "node", anyText(n, 1)), "")
				says(t, "Many", Many(p, "room", []int{leaf}, []string{"node"}, anyText(n, 1)), "")
			}
		}
		says(t, "Proof", Proof(p, "seed", "room", nil), "")
		says(t, "Many", Many(p, "room", nil, nil, ""), "")
	}
}

// Neither the lists nor what lies behind their ends is changed.
func TestArgumentsStay(t *testing.T) { // R3
	p := api.Shape{N: 4, H: 3}
	tree := knownTree(p, "seed", "room")
	leaves, nodes := []int{0, 1, 3, 6, 77, 78}, append(picked(tree[0], []int{0, 1, 3, 6}), "behind", "it")
	wasLeaves, wasNodes := slices.Clone(leaves), slices.Clone(nodes)
	proof := Proof(p, "seed", "room", leaves[:4])
	says(t, "Many", Many(p, "room", leaves[:4], nodes[:4], proof), top(tree))
	says(t, "Many once more", Many(p, "room", leaves[:4], nodes[:4], Proof(p, "seed", "room", leaves[:4])), top(tree))
	if !slices.Equal(leaves, wasLeaves) || !slices.Equal(nodes, wasNodes) {
		t.Errorf("what was handed in is changed: %v, %q", leaves, nodes)
	}
}
