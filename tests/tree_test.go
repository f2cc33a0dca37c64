package tests

import (
	"math"
	"math/bits"
	"slices"
	"strconv"
	"strings"
	"testing"

	"loop.example/g00392/impl"
)

// grown is a tree in the form of the tests: a leaf has pairs, a branch kids.
type grown struct {
	pairs []impl.Pair
	kids  []grown
}

func (g grown) first() string {
	if len(g.kids) > 0 {
		return g.kids[0].first()
	}
	return g.pairs[0].Key
}

func (g grown) all() []impl.Pair {
	l := slices.Clone(g.pairs)
	for _, kid := range g.kids {
		l = append(l, kid.all()...)
	}
	return l
}

// laid is the tree of the document's form.
func laid(g grown) impl.Tree {
	if len(g.pairs)+len(g.kids) == 0 {
		return impl.Tree{}
	}
	nodes := []impl.Node{{Pairs: slices.Clone(g.pairs)}}
	for i, kid := range g.kids {
		at := len(nodes)
		nodes[0].Kids = append(nodes[0].Kids, at)
		if i > 0 {
			nodes[0].Keys = append(nodes[0].Keys, kid.first())
		}
		for _, n := range laid(kid).Nodes {
			for j := range n.Kids {
				n.Kids[j] += at
			}
			nodes = append(nodes, n)
		}
	}
	return impl.Tree{Nodes: nodes}
}

// sprout reads a shape: keys of one letter side by side are a leaf, what stands
// in parentheses is a branch. It answers what is behind, too.
func sprout(shape string) (grown, string) {
	var g grown
	if !strings.HasPrefix(shape, "(") {
		for shape != "" && strings.IndexByte(" )", shape[0]) < 0 {
			g.pairs = append(g.pairs, impl.Pair{Key: shape[:1], Val: "v" + shape[:1]})
			shape = shape[1:]
		}
		return g, shape
	}
	for shape[0] != ')' {
		var kid grown
		kid, shape = sprout(shape[1:])
		g.kids = append(g.kids, kid)
	}
	return g, shape[1:]
}

func plant(shape string) impl.Tree {
	g, _ := sprout(shape)
	return laid(g)
}

// shapeOf tells a tree that is right as a shape.
func shapeOf(t impl.Tree, place int) string {
	if len(t.Nodes) == 0 {
		return ""
	}
	var parts []string
	for _, kid := range t.Nodes[place].Kids {
		parts = append(parts, shapeOf(t, kid))
	}
	if len(parts) > 0 {
		return "(" + strings.Join(parts, " ") + ")"
	}
	s := ""
	for _, p := range t.Nodes[place].Pairs {
		s += p.Key
	}
	return s
}

func sameTree(a, b impl.Tree) bool {
	return slices.EqualFunc(a.Nodes, b.Nodes, func(m, n impl.Node) bool {
		return slices.Equal(m.Pairs, n.Pairs) && slices.Equal(m.Keys, n.Keys) && slices.Equal(m.Kids, n.Kids)
	})
}

func cloneTree(t impl.Tree) impl.Tree {
	var c impl.Tree
	for _, n := range t.Nodes {
		c.Nodes = append(c.Nodes, impl.Node{Pairs: slices.Clone(n.Pairs), Keys: slices.Clone(n.Keys), Kids: slices.Clone(n.Kids)})
	}
	return c
}

// shared cuts a list as the document does: five are three and two.
func shared[T any](l []T) [][]T {
	if len(l) <= 4 {
		return [][]T{l}
	}
	return [][]T{slices.Clone(l[:3]), slices.Clone(l[3:])}
}

func leaves(l []impl.Pair) []grown {
	var nodes []grown
	for _, part := range shared(l) {
		nodes = append(nodes, grown{pairs: part})
	}
	return nodes
}

func branches(l []grown) []grown {
	var nodes []grown
	for _, part := range shared(l) {
		nodes = append(nodes, grown{kids: part})
	}
	return nodes
}

func (g grown) wayOf(k string) int {
	way := 0
	for i, kid := range g.kids {
		if i > 0 && kid.first() <= k {
			way++
		}
	}
	return way
}

// withPut is what comes in the place of g: one node or two.
func (g grown) withPut(p impl.Pair) []grown {
	if len(g.kids) > 0 {
		way := g.wayOf(p.Key)
		return branches(slices.Concat(g.kids[:way], g.kids[way].withPut(p), g.kids[way+1:]))
	}
	l := slices.DeleteFunc(slices.Clone(g.pairs), func(q impl.Pair) bool { return q.Key == p.Key })
	l = append(l, p)
	slices.SortFunc(l, func(a, b impl.Pair) int { return strings.Compare(a.Key, b.Key) })
	return leaves(l)
}

func (g grown) rootPut(p impl.Pair) grown {
	l := g.withPut(p)
	if len(l) == 1 {
		return l[0]
	}
	return grown{kids: l}
}

func (g grown) withDrop(k string) grown {
	if len(g.kids) == 0 {
		return grown{pairs: slices.DeleteFunc(slices.Clone(g.pairs), func(q impl.Pair) bool { return q.Key == k })}
	}
	kids := slices.Clone(g.kids)
	way := g.wayOf(k)
	kids[way] = kids[way].withDrop(k)
	if len(kids[way].pairs) != 1 && len(kids[way].kids) != 1 {
		return grown{kids: kids}
	}
	ahead := way - 1
	if way == 0 {
		ahead = 0
	}
	a, b := kids[ahead], kids[ahead+1]
	if len(a.kids) > 0 {
		return grown{kids: slices.Concat(kids[:ahead], branches(slices.Concat(a.kids, b.kids)), kids[ahead+2:])}
	}
	return grown{kids: slices.Concat(kids[:ahead], leaves(slices.Concat(a.pairs, b.pairs)), kids[ahead+2:])}
}

func (g grown) rootDrop(k string) grown {
	g = g.withDrop(k)
	if len(g.kids) == 1 {
		return g.kids[0]
	}
	return g
}

// stands: what TreeOk asks, looked at from the last node to the first.
func stands(t impl.Tree) bool {
	size := make([]int, len(t.Nodes))
	deep := make([]int, len(t.Nodes))
	least := make([]string, len(t.Nodes))
	var all []impl.Pair
	for i := len(t.Nodes) - 1; i >= 0; i-- {
		n := t.Nodes[i]
		size[i], deep[i] = 1, 1
		if len(n.Kids) == 0 {
			if len(n.Keys) > 0 || len(n.Pairs) < 1 || len(n.Pairs) > 4 || len(n.Pairs) == 1 && i > 0 {
				return false
			}
			least[i] = n.Pairs[0].Key
			all = append(slices.Clone(n.Pairs), all...)
			continue
		}
		if len(n.Pairs) > 0 || len(n.Kids) == 1 || len(n.Kids) > 4 || len(n.Keys)+1 != len(n.Kids) {
			return false
		}
		for j, kid := range n.Kids {
			if kid != i+size[i] || kid >= len(t.Nodes) || deep[kid] != deep[n.Kids[0]] || j > 0 && n.Keys[j-1] != least[kid] {
				return false
			}
			size[i] += size[kid]
		}
		deep[i] = 1 + deep[i+1]
		least[i] = least[i+1]
	}
	if len(t.Nodes) > 0 && size[0] != len(t.Nodes) || len(all) > 200 {
		return false
	}
	for i, p := range all {
		if len(p.Key) < 1 || len(p.Key) > 16 || len(p.Val) > 60 || i > 0 && strings.Compare(all[i-1].Key, p.Key) >= 0 {
			return false
		}
	}
	return true
}

// dice tells numbers that look thrown, the same ones each time.
type dice uint64

func (d *dice) below(n int) int {
	*d = *d*6364136223846793005 + 1442695040888963407
	high, _ := bits.Mul64(uint64(*d), uint64(n))
	return int(high)
}

func numbered(n int) string { return "k" + strconv.Itoa(1000+n) }

// numberedPairs: n pairs of rising keys, each second number left free.
func numberedPairs(n int) []impl.Pair {
	l := make([]impl.Pair, n)
	for i := range l {
		l[i] = impl.Pair{Key: numbered(2 * i), Val: strconv.Itoa(i)}
	}
	return l
}

// thin has leaves of two pairs and branches of two kids (three at the end where
// they don't come out even): no right tree of so many pairs has more nodes.
func thin(l []impl.Pair) grown {
	var level []grown
	for part := range slices.Chunk(l, 2) {
		level = append(level, grown{pairs: part})
	}
	for len(level) > 1 {
		var above []grown
		for len(level) > 3 || len(level) == 2 {
			above = append(above, grown{kids: level[:2]})
			level = level[2:]
		}
		if len(level) > 0 {
			above = append(above, grown{kids: level})
		}
		level = above
	}
	return level[0]
}

func wantTree(t *testing.T, what string, got impl.Tree, ok bool, want impl.Tree) {
	t.Helper()
	if !ok || !sameTree(got, want) {
		t.Errorf("%s: %+v %v, want %+v", what, got, ok, want)
	}
}

func wantNoTree(t *testing.T, what string, got impl.Tree, ok bool) {
	t.Helper()
	if ok || len(got.Nodes) != 0 {
		t.Errorf("%s: %+v %v, want nothing and false", what, got, ok)
	}
}

func wantPairs(t *testing.T, what string, got, want []impl.Pair) {
	t.Helper()
	if !slices.Equal(got, want) {
		t.Errorf("%s: %q, want %q", what, got, want)
	}
}

func wantGet(t *testing.T, tree impl.Tree, k, want string, there bool) {
	t.Helper()
	if v, ok := impl.TreeGet(tree, k); v != want || ok != there {
		t.Errorf("TreeGet of %q is %q %v, want %q %v", k, v, ok, want, there)
	}
}

// checkHolds: the tree is right, has these pairs and no others, and is no deeper
// than the logarithm of how many they are.
func checkHolds(t *testing.T, tree impl.Tree, want []impl.Pair) {
	t.Helper()
	if !stands(tree) || !impl.TreeOk(tree) {
		t.Fatalf("not right: %+v", tree)
	}
	if got := impl.TreeAll(tree); !slices.Equal(got, want) {
		t.Fatalf("the tree has %q, want %q", got, want)
	}
	deep := impl.Depth(tree)
	most := max(bits.Len(uint(len(want)))-1, min(len(want), 1))
	if deep > most || deep < 1 && len(want) > 0 {
		t.Fatalf("%d pairs are %d deep", len(want), deep)
	}
}

func TestP7TreesKeepAllPairsAndStayRight(t *testing.T) {
	for seed := range 12 {
		d := dice(seed)
		keys := []int{3, 6, 12, 30, 70, 200}[seed%6]
		var tree impl.Tree
		var model grown
		held := make([]string, keys)
		for step := range 700 {
			i := d.below(keys)
			if d.below(100) < []int{50, 80, 20, 60, 35}[step/60%5] {
				held[i] = "v" + strconv.Itoa(step)
				model = model.rootPut(impl.Pair{Key: numbered(i), Val: held[i]})
				tree, _ = impl.TreePut(tree, numbered(i), held[i])
			} else {
				held[i] = ""
				model = model.rootDrop(numbered(i))
				tree, _ = impl.TreeDrop(tree, numbered(i))
			}
			if !sameTree(tree, laid(model)) {
				t.Fatalf("seed %d, step %d: the tree is %+v, want %+v", seed, step, tree, laid(model))
			}
			checkHolds(t, tree, heldPairs(held))
		}
		for i, v := range held {
			wantGet(t, tree, numbered(i), v, v != "")
		}
	}
}

func heldPairs(held []string) []impl.Pair {
	var l []impl.Pair
	for i, v := range held {
		if v != "" {
			l = append(l, impl.Pair{Key: numbered(i), Val: v})
		}
	}
	return l
}

// orders: ways to go through n things.
func orders(n int) [][]int {
	rising, thrown, ends := make([]int, n), make([]int, n), make([]int, n)
	d := dice(n)
	for i := range n {
		rising[i], thrown[i] = i, i
		ends[i] = i / 2
		if i%2 == 1 {
			ends[i] = n - 1 - i/2
		}
		j := d.below(i + 1)
		thrown[i], thrown[j] = thrown[j], thrown[i]
	}
	falling := slices.Clone(rising)
	slices.Reverse(falling)
	inner := slices.Clone(ends)
	slices.Reverse(inner)
	return [][]int{rising, falling, thrown, ends, inner}
}

func TestP7TreesGrowAndGoInAnyOrder(t *testing.T) {
	for _, in := range orders(impl.MaxPairs) {
		for _, out := range orders(impl.MaxPairs) {
			held := make([]string, impl.MaxPairs)
			var tree impl.Tree
			for _, i := range in {
				held[i] = "v" + strconv.Itoa(i)
				tree, _ = impl.TreePut(tree, numbered(i), held[i])
				checkHolds(t, tree, heldPairs(held))
			}
			for _, i := range out {
				held[i] = ""
				tree, _ = impl.TreeDrop(tree, numbered(i))
				checkHolds(t, tree, heldPairs(held))
			}
			if len(tree.Nodes) != 0 {
				t.Errorf("behind the last drop there are nodes: %+v", tree)
			}
		}
	}
}

// TestP7EveryEditOfSmallTrees holds each put and each drop at trees of poor and
// full leaves and branches against the model.
func TestP7EveryEditOfSmallTrees(t *testing.T) {
	var branch [][]int
	for kids := 2; kids <= 4; kids++ {
		for full := range 1 << kids {
			sizes := make([]int, kids)
			for i := range sizes {
				sizes[i] = 2 + full>>i&1*2
			}
			branch = append(branch, sizes)
		}
	}
	for _, a := range branch {
		checkEveryEdit(t, [][]int{a})
		for _, b := range branch {
			checkEveryEdit(t, [][]int{a, b})
		}
	}
	for _, a := range [][]int{{2, 2}, {4, 4, 4, 4}, {2, 4}} {
		for _, b := range [][]int{{2, 2}, {4, 4, 4, 4}, {4, 2}} {
			for _, c := range [][]int{{2, 2}, {4, 4, 4, 4}} {
				checkEveryEdit(t, [][]int{a, b, c})
				checkEveryEdit(t, [][]int{a, b, c, a})
			}
		}
	}
}

// grove is a tree of branches whose leaves have these sizes; a single branch is
// the root.
func grove(sizes [][]int) grown {
	var root grown
	n := 0
	for _, branch := range sizes {
		var b grown
		for _, size := range branch {
			b.kids = append(b.kids, grown{pairs: numberedPairs(n + size)[n:]})
			n += size
		}
		root.kids = append(root.kids, b)
	}
	if len(root.kids) == 1 {
		return root.kids[0]
	}
	return root
}

func checkEveryEdit(t *testing.T, sizes [][]int) {
	t.Helper()
	g := grove(sizes)
	tree := laid(g)
	if !impl.TreeOk(tree) {
		t.Fatalf("%v isn't right", sizes)
	}
	for i := -1; i <= 2*len(g.all()); i++ {
		k := numbered(i)
		put, ok := impl.TreePut(tree, k, "new")
		if want := laid(g.rootPut(impl.Pair{Key: k, Val: "new"})); !ok || !sameTree(put, want) {
			t.Fatalf("%v with %q is %+v, want %+v", sizes, k, put, want)
		}
		drop, ok := impl.TreeDrop(tree, k)
		if want := laid(g.rootDrop(k)); !ok || !sameTree(drop, want) {
			t.Fatalf("%v without %q is %+v, want %+v", sizes, k, drop, want)
		}
	}
}

func TestP7ScansTellWhatIsThereFromBothEnds(t *testing.T) {
	keys := slices.Sorted(slices.Values(someKeys()))
	for size := range len(keys) + 1 {
		var l []impl.Pair
		for _, k := range keys[:size] {
			l = append(l, impl.Pair{Key: k, Val: "v" + k})
		}
		tree, _ := impl.TreeOf(l)
		for _, r := range rightRanges() {
			in := slices.DeleteFunc(slices.Clone(l), func(p impl.Pair) bool { return !isIn(r, p.Key) })
			from := slices.Clone(in)
			slices.Reverse(from)
			for _, most := range []int{1, 2, len(in) - 1, len(in), len(in) + 1, 1000, math.MaxInt64} {
				if most > 0 {
					wantPairs(t, "a scan", impl.TreeScan(tree, r, most, false), in[:min(most, len(in))])
					wantPairs(t, "a scan from the last", impl.TreeScan(tree, r, most, true), from[:min(most, len(in))])
				}
			}
		}
	}
}

func TestP15TreeLimits(t *testing.T) {
	if impl.MaxLeaf != 4 || impl.MaxKids != 4 || impl.MaxPairs != 200 {
		t.Error("a constant isn't as the document says")
	}
}

// wrongPairLists: keys and values that aren't right or don't rise, at each place
// of a list.
func wrongPairLists() [][]impl.Pair {
	l := [][]impl.Pair{{{Key: ""}}, {{Key: "", Val: "v"}}, {{Key: longEnd}}, {{Key: "a", Val: strings.Repeat("v", 61)}},
		{{Key: "a"}, {Key: "a"}}, {{Key: "b"}, {Key: "a"}}, {{Key: "a", Val: "1"}, {Key: "a", Val: "2"}}, {{Key: "\x80"}, {Key: "\x7f"}}, {{Key: "a\x00"}, {Key: "a"}}, {{Key: "b"}, {Key: "ab"}},
		numberedPairs(201), numberedPairs(202), numberedPairs(5000)}
	for i := range 4 {
		for _, p := range []impl.Pair{{Key: ""}, {Key: tooLong}, {Key: numbered(2*i) + strings.Repeat("0", 12)}, {Key: numbered(2 * i), Val: strings.Repeat("\x00", 61)}, {Key: numbered(2*i - 2)}, {Key: numbered(2*i + 2)}} {
			bad := numberedPairs(4)
			bad[i] = p
			if !(i == 0 && p.Key == numbered(-2)) && !(i == 3 && p.Key == numbered(8)) {
				l = append(l, bad)
			}
		}
	}
	return l
}

func TestP15PairsOk(t *testing.T) {
	wantBool(t, "PairsOk of nil", impl.PairsOk(nil), true)
	wantBool(t, "PairsOk of none", impl.PairsOk([]impl.Pair{}), true)
	for _, l := range [][]impl.Pair{{{Key: "a"}}, {{Key: longKey, Val: strings.Repeat("v", 60)}}, {{Key: "a"}, {Key: "a\x00"}}, {{Key: "\x7f"}, {Key: "\x80"}}, {{Key: "\x00"}, {Key: topKey}},
		{{Key: "a", Val: "z"}, {Key: "b", Val: "y"}, {Key: "c", Val: "y"}}, numberedPairs(5), numberedPairs(199), numberedPairs(200)} {
		if !impl.PairsOk(l) {
			t.Errorf("PairsOk(%q) is false", l)
		}
	}
	for _, l := range wrongPairLists() {
		if impl.PairsOk(l) {
			t.Errorf("PairsOk(%q) is true", l)
		}
	}
}

func rightShapes() []string {
	return []string{"", "a", "ab", "abc", "abcd", "(ab cd)", "(abcd efgh)", "(ab cd ef)", "(ab cd ef gh)", "(abcd efgh ijkl mnop)", "(ab cdef gh)",
		"((ab cd) (ef gh))", "((ab cd ef gh) (ij kl))", "((ab cd) (ef gh ij) (kl mn op qr))", "((ab cd) (ef gh) (ij kl) (mn op))",
		"(((ab cd) (ef gh)) ((ij kl) (mn op)))", "(((ab cd) (ef gh)) ((ij kl mno) (pq rstu) (vw xyz)))"}
}

func TestP15TreeOkOfRightTrees(t *testing.T) {
	for _, shape := range rightShapes() {
		tree := plant(shape)
		if !impl.TreeOk(tree) {
			t.Errorf("TreeOk of %s is false: %+v", shape, tree)
		}
		if got := shapeOf(tree, 0); got != shape {
			t.Errorf("the shape %s is planted as %s", shape, got)
		}
	}
	wantBool(t, "TreeOk of no nodes", impl.TreeOk(impl.Tree{Nodes: []impl.Node{}}), true)
	empty := impl.Tree{Nodes: []impl.Node{{Pairs: []impl.Pair{{Key: longKey, Val: strings.Repeat("v", 60)}}, Keys: []string{}, Kids: []int{}}}}
	wantBool(t, "TreeOk of a leaf with lists without elements", impl.TreeOk(empty), true)
	for n := 2; n <= 200; n += 2 {
		checkHolds(t, laid(thin(numberedPairs(n))), numberedPairs(n))
	}
}

// wrongShapes: leaves and branches with too few or too many, or not equally far,
// and keys that don't rise.
func wrongShapes() []string {
	return []string{"abcde", "abcdefgh", "(a bc)", "(ab c)", "(a b)", "(abcde fg)", "(ab cdefg)", "(abcd)", "(ab cd ef gh ij)", "(ab cd ef gh ij kl)",
		"((ab cd))", "((ab cd) (ef))", "((ab) (cd ef))", "((ab cd ef gh ij) (kl mn))", "((ab cd) (ef gh ij kl mn))", "(((ab cd) (ef gh)))",
		"(ab (cd ef))", "((ab cd) ef)", "((ab cd) (ef (gh ij)))", "(((ab cd) (ef gh)) (ij kl))", "((ab cd) ((ef gh) (ij kl)))", "(ab cd (ef gh))", "((ab cd) (ef gh) ij)",
		"aa", "ba", "acb", "(ab ba)", "(ab bc)", "(cd ab)", "(ab dc)", "(ab ef cd)", "((ab cd) (cd ef))", "((ab ef) (cd gh))", "((cd ef) (ab gh))", "((ab cd) (ef ef))"}
}

func TestP15TreeOkOfWrongTrees(t *testing.T) {
	for _, shape := range wrongShapes() {
		if tree := plant(shape); impl.TreeOk(tree) {
			t.Errorf("TreeOk of %s is true: %+v", shape, tree)
		}
	}
	for what, tree := range wrongTrees() {
		if impl.TreeOk(tree) {
			t.Errorf("TreeOk of %s is true: %+v", what, tree)
		}
	}
}

// changed is a planted tree with one thing done to its nodes.
func changed(shape string, change func(nodes []impl.Node) []impl.Node) impl.Tree {
	return impl.Tree{Nodes: change(plant(shape).Nodes)}
}

// wrongTrees: each is wrong in one way, told by its name.
func wrongTrees() map[string]impl.Tree {
	leaf := impl.Node{Pairs: []impl.Pair{{Key: "y"}, {Key: "z"}}}
	two := "((ab cd) (ef gh))"
	m := map[string]impl.Tree{
		"a root without anything": {Nodes: []impl.Node{{}}},
		"three empty nodes":       {Nodes: make([]impl.Node, 3)},
		"a root of its own":       {Nodes: []impl.Node{{Keys: []string{"a"}, Kids: []int{0, 0}}}},
		"a leaf too many":         changed("(ab cd)", func(n []impl.Node) []impl.Node { return append(n, leaf) }),
		"a leaf beside the root":  changed("ab", func(n []impl.Node) []impl.Node { return append(n, leaf) }),
		"a node too few":          changed("(ab cd)", func(n []impl.Node) []impl.Node { return n[:2] }),
		"a branch without leaves": changed(two, func(n []impl.Node) []impl.Node { return n[:4] }),
		"nothing but the root":    changed(two, func(n []impl.Node) []impl.Node { return n[:1] }),
		"the root last":           changed("(ab cd)", func(n []impl.Node) []impl.Node { return append(n[1:], n[0]) }),
		"a root's key with leaf":  changed("ab", func(n []impl.Node) []impl.Node { n[0].Keys = []string{"a"}; return n }),
		"a leaf with keys":        changed("(ab cd)", func(n []impl.Node) []impl.Node { n[2].Keys = []string{"c"}; return n }),
		"a branch with pairs":     changed("(cd ef)", func(n []impl.Node) []impl.Node { n[0].Pairs = []impl.Pair{{Key: "a"}, {Key: "b"}}; return n }),
		"a deep one with pairs":   changed(two, func(n []impl.Node) []impl.Node { n[4].Pairs = leaf.Pairs; return n }),
		"a leaf without pairs":    changed("(ab cd)", func(n []impl.Node) []impl.Node { n[1].Pairs = nil; return n }),
		"a last leaf without":     changed("(ab cd)", func(n []impl.Node) []impl.Node { n[2].Pairs = nil; return n }),
		"leaves in another order": changed("(ab cd)", func(n []impl.Node) []impl.Node { n[1], n[2] = n[2], n[1]; n[0].Kids = []int{2, 1}; return n }),
		"branches ahead of leaves": {Nodes: []impl.Node{{Keys: []string{"e"}, Kids: []int{1, 2}}, {Keys: []string{"c"}, Kids: []int{3, 4}}, {Keys: []string{"g"}, Kids: []int{5, 6}},
			plant("ab").Nodes[0], plant("cd").Nodes[0], plant("ef").Nodes[0], plant("gh").Nodes[0]}},
		"a ring of branches": {Nodes: []impl.Node{{Keys: []string{"c"}, Kids: []int{1, 2}}, {Keys: []string{"c"}, Kids: []int{0, 2}}, leaf}},
		"one key in two":     changed(two, func(n []impl.Node) []impl.Node { n[0].Keys[0] = "d"; return n }),
		"201 pairs":          laid(thin(numberedPairs(202)[:201])),
		"202 pairs":          laid(thin(numberedPairs(202))),
		"256 full pairs":     laid(grown{kids: []grown{grove(fullSizes(4)), {kids: grove(fullSizes(8)).kids[4:]}, {kids: grove(fullSizes(12)).kids[8:]}, {kids: grove(fullSizes(16)).kids[12:]}}}),
	}
	for i, l := range wrongPairLists() {
		if len(l) <= 4 {
			m["a leaf of wrong pairs "+strconv.Itoa(i)] = impl.Tree{Nodes: []impl.Node{{Pairs: l}}}
		}
	}
	return m
}

func fullSizes(branches int) [][]int {
	var l [][]int
	for range branches {
		l = append(l, []int{4, 4, 4, 4})
	}
	return l
}

// TestP15TreeOkOfOneChange changes each part of right trees, one at a time: what
// comes isn't right any more.
func TestP15TreeOkOfOneChange(t *testing.T) {
	for _, shape := range rightShapes() {
		for i, n := range plant(shape).Nodes {
			check := func(what string, change func(n *impl.Node)) {
				t.Helper()
				tree := plant(shape)
				change(&tree.Nodes[i])
				if impl.TreeOk(tree) {
					t.Errorf("%s, node %d, %s: TreeOk is true of %+v", shape, i, what, tree)
				}
			}
			for j, kid := range n.Kids {
				for _, wrong := range append(wrongPlaces(len(plant(shape).Nodes)), 0, i, kid-1, kid+1, kid+2) {
					check("another kid", func(n *impl.Node) { n.Kids[j] = wrong })
				}
				check("a kid fewer", func(n *impl.Node) { n.Kids = slices.Delete(n.Kids, j, j+1) })
				check("a kid twice", func(n *impl.Node) { n.Kids = slices.Insert(n.Kids, j, kid) })
				check("a kid twice, with its key", func(n *impl.Node) { n.Kids = append(n.Kids, kid); n.Keys = append(n.Keys, "z") })
				check("a kid as another's", func(n *impl.Node) { n.Kids[j] = n.Kids[(j+1)%len(n.Kids)] })
			}
			for j, k := range n.Keys {
				for _, wrong := range []string{"", "a", "\x00", k + "\x00", string(k[0] + 1), string(k[0] - 1), "\xff", longEnd} {
					check("another key", func(n *impl.Node) { n.Keys[j] = wrong })
				}
				check("a key fewer", func(n *impl.Node) { n.Keys = slices.Delete(n.Keys, j, j+1) })
				check("a key twice", func(n *impl.Node) { n.Keys = slices.Insert(n.Keys, j, k) })
			}
			check("a key more", func(n *impl.Node) { n.Keys = append(n.Keys, "zz") })
			for j, p := range n.Pairs {
				check("a pair twice", func(n *impl.Node) { n.Pairs = slices.Insert(n.Pairs, j, p) })
				check("no key", func(n *impl.Node) { n.Pairs[j].Key = "" })
				check("too long a key", func(n *impl.Node) { n.Pairs[j].Key = p.Key + longKey })
				check("too long a value", func(n *impl.Node) { n.Pairs[j].Val = strings.Repeat("v", 61) })
			}
			check("kids of a leaf, or too many", func(n *impl.Node) { n.Kids = append(n.Kids, i+1, i+2, i+3, i+4, i+5) })
			check("nothing at all", func(n *impl.Node) { *n = impl.Node{} })
		}
	}
}

func TestP15TreeOkOfThrownTrees(t *testing.T) {
	d := dice(7)
	right := 0
	for range 60000 {
		tree := plant(rightShapes()[d.below(len(rightShapes()))])
		for range d.below(3) {
			throwAt(&d, tree.Nodes)
		}
		want := stands(tree)
		if got := impl.TreeOk(tree); got != want {
			t.Fatalf("TreeOk is %v of %+v", got, tree)
		}
		if want {
			right++
		}
	}
	if right < 1000 {
		t.Errorf("%d right trees are too few to tell", right)
	}
}

// throwAt does some small thing to one of the nodes.
func throwAt(d *dice, nodes []impl.Node) {
	if len(nodes) == 0 {
		return
	}
	n := &nodes[d.below(len(nodes))]
	letter := string(rune('a' + d.below(26)))
	switch d.below(7) {
	case 0:
		n.Pairs = append(n.Pairs, impl.Pair{Key: letter})
	case 1:
		n.Pairs = n.Pairs[:max(0, len(n.Pairs)-1)]
	case 2:
		if len(n.Pairs) > 0 {
			n.Pairs[d.below(len(n.Pairs))].Key = letter
		}
	case 3:
		if len(n.Keys) > 0 {
			n.Keys[d.below(len(n.Keys))] = letter
		}
	case 4:
		if len(n.Kids) > 0 {
			n.Kids[d.below(len(n.Kids))] = d.below(len(nodes) + 1)
		}
	case 5:
		n.Kids = append(n.Kids, d.below(len(nodes)+1))
	case 6:
		o := &nodes[d.below(len(nodes))]
		*n, *o = *o, *n
	}
}

// longTrees: many more nodes than any right tree has, in forms that a walk might
// follow for long.
func longTrees() []impl.Tree {
	chain := make([]impl.Node, 300000)
	ring := make([]impl.Node, 300000)
	flat := make([]impl.Node, 300000)
	for i := range chain {
		chain[i] = impl.Node{Keys: []string{"k"}, Kids: []int{i + 1, i + 2}}
		ring[i] = impl.Node{Keys: []string{"k"}, Kids: []int{(i + 1) % len(ring), 0}}
		flat[i] = impl.Node{Pairs: []impl.Pair{{Key: numbered(i)}, {Key: numbered(i) + "a"}}}
	}
	short := make([]impl.Node, 60)
	for i := range short {
		short[i] = impl.Node{Keys: []string{"k", "l", "m"}, Kids: []int{i + 1, i + 1, i + 1, i + 1}}
	}
	wide := impl.Node{Kids: make([]int, 300000), Keys: make([]string, 299999)}
	return []impl.Tree{{Nodes: chain}, {Nodes: ring}, {Nodes: flat}, {Nodes: short}, {Nodes: chain[:398]}, {Nodes: ring[:398]}, {Nodes: []impl.Node{wide}}, {Nodes: []impl.Node{{Pairs: numberedPairs(300000)}}}}
}

func TestP15WrongTreesAreRefused(t *testing.T) {
	refused := longTrees()
	for _, shape := range wrongShapes() {
		refused = append(refused, plant(shape))
	}
	for _, tree := range wrongTrees() {
		refused = append(refused, tree)
	}
	for _, tree := range refused {
		wantBool(t, "TreeOk of a wrong tree", impl.TreeOk(tree), false)
		wantPairs(t, "TreeAll of a wrong tree", impl.TreeAll(tree), nil)
		wantGet(t, tree, "a", "", false)
		wantGet(t, tree, "c", "", false)
		put, ok := impl.TreePut(tree, "a", "v")
		wantNoTree(t, "TreePut at a wrong tree", put, ok)
		drop, ok := impl.TreeDrop(tree, "a")
		wantNoTree(t, "TreeDrop at a wrong tree", drop, ok)
		drop, ok = impl.TreeDrop(tree, "zzz")
		wantNoTree(t, "TreeDrop of no key there at a wrong tree", drop, ok)
		wantPairs(t, "TreeScan of a wrong tree", impl.TreeScan(tree, impl.Range{}, 10, false), nil)
		wantPairs(t, "TreeScan from behind of a wrong tree", impl.TreeScan(tree, impl.Range{}, 10, true), nil)
		if got := impl.Depth(tree); got != -1 {
			t.Errorf("Depth of a wrong tree is %d", got)
		}
	}
}

func TestP15WrongKeysAndValuesAreRefused(t *testing.T) {
	for _, shape := range rightShapes() {
		tree := plant(shape)
		for _, k := range []string{"", longEnd, tooLong, topEnd, strings.Repeat("a", 5000)} {
			wantGet(t, tree, k, "", false)
			put, ok := impl.TreePut(tree, k, "v")
			wantNoTree(t, "TreePut of no key", put, ok)
			drop, ok := impl.TreeDrop(tree, k)
			wantNoTree(t, "TreeDrop of no key", drop, ok)
		}
		for _, v := range []string{strings.Repeat("v", 61), strings.Repeat("\x00", 61), strings.Repeat("v", 5000)} {
			put, ok := impl.TreePut(tree, "a", v)
			wantNoTree(t, "TreePut of no value", put, ok)
		}
	}
}

func TestP15TreeAll(t *testing.T) {
	for _, shape := range rightShapes() {
		var want []impl.Pair
		for _, r := range shape {
			if r >= 'a' {
				want = append(want, impl.Pair{Key: string(r), Val: "v" + string(r)})
			}
		}
		wantPairs(t, "TreeAll of "+shape, impl.TreeAll(plant(shape)), want)
	}
}

func TestP15TreeGet(t *testing.T) {
	for _, shape := range rightShapes() {
		for c := byte('a'); c <= 'z'; c++ {
			k, there := string(c), strings.IndexByte(shape, c) >= 0
			want := ""
			if there {
				want = "v" + k
			}
			wantGet(t, plant(shape), k, want, there)
			wantGet(t, plant(shape), k+"\x00", "", false)
			wantGet(t, plant(shape), strings.ToUpper(k), "", false)
		}
	}
	tree, _ := impl.TreePut(impl.Tree{}, "k", "")
	wantGet(t, tree, "k", "", true)
	wantGet(t, impl.Tree{}, "k", "", false)
}

// wantEdit: the shape behind a put (of a value as planted ones have) or a drop.
func wantEdit(t *testing.T, shape, edit, k, want string) {
	t.Helper()
	tree, ok := impl.Tree{}, false
	if edit == "put" {
		tree, ok = impl.TreePut(plant(shape), k, "v"+k)
	} else {
		tree, ok = impl.TreeDrop(plant(shape), k)
	}
	wantTree(t, shape+" "+edit+" "+k, tree, ok, plant(want))
}

func TestP15TreePut(t *testing.T) {
	wantEdit(t, "", "put", "m", "m")
	wantEdit(t, "m", "put", "a", "am")
	wantEdit(t, "m", "put", "z", "mz")
	wantEdit(t, "abd", "put", "c", "abcd")
	wantEdit(t, "abcd", "put", "e", "(abc de)")
	wantEdit(t, "bcde", "put", "a", "(abc de)")
	wantEdit(t, "abde", "put", "c", "(abc de)")
	wantEdit(t, "abcd", "put", "c", "abcd")
	wantEdit(t, "(ab ef)", "put", "c", "(abc ef)")
	wantEdit(t, "(ab ef)", "put", "g", "(ab efg)")
	wantEdit(t, "(abcd ef)", "put", "e", "(abcd ef)")
	wantEdit(t, "(bcde fg)", "put", "a", "(abc de fg)")
	wantEdit(t, "(ab cdfg hi)", "put", "e", "(ab cde fg hi)")
	wantEdit(t, "(ab cd ef ghij)", "put", "k", "((ab cd ef) (ghi jk))")
	wantEdit(t, "(bcde fg hi jk)", "put", "a", "((abc de fg) (hi jk))")
	wantEdit(t, "(ab cd efhi jk)", "put", "g", "((ab cd efg) (hi jk))")
	wantEdit(t, "((ab cd ef ghij) (lm no))", "put", "k", "((ab cd ef) (ghi jk) (lm no))")
	wantEdit(t, "((ab cd) (ef gh) (ij kl) (mn op qr stuv))", "put", "w", "(((ab cd) (ef gh) (ij kl)) ((mn op qr) (stu vw)))")
	wantEdit(t, "((ab cd) (ef gh jk lmno) (pq rs) (tu vw))", "put", "i", "((ab cd) (ef ghi jk lmno) (pq rs) (tu vw))")
	wantEdit(t, "((ab cd) (ef ghij kl mn) (pq rs) (tu vw))", "put", "i", "((ab cd) (ef ghij kl mn) (pq rs) (tu vw))")
	wantEdit(t, "((ab cd) (ef hijk lm no) (pq rs) (tu vw))", "put", "g", "((ab cd) (efg hijk lm no) (pq rs) (tu vw))")
	wantEdit(t, "((ab cd) (ef gijk lm no) (pq rs) (tu vw))", "put", "h", "(((ab cd) (ef ghi jk) (lm no)) ((pq rs) (tu vw)))")
}

func TestP15TreePutTakesThePlace(t *testing.T) {
	for _, shape := range rightShapes() {
		for _, p := range impl.TreeAll(plant(shape)) {
			for _, v := range []string{"", "w", p.Val, strings.Repeat("w", 60)} {
				want := plant(shape)
				for _, n := range want.Nodes {
					for j := range n.Pairs {
						if n.Pairs[j].Key == p.Key {
							n.Pairs[j].Val = v
						}
					}
				}
				got, ok := impl.TreePut(plant(shape), p.Key, v)
				wantTree(t, shape+" with another value of "+p.Key, got, ok, want)
			}
		}
	}
}

func TestP15TreePutKeepsToMaxPairs(t *testing.T) {
	full, ok := impl.TreeOf(numberedPairs(200))
	wantPairs(t, "200 pairs", impl.TreeAll(full), numberedPairs(200))
	for _, tree := range []impl.Tree{full, laid(thin(numberedPairs(200)))} {
		for i := -1; i <= 400; i++ {
			got, right := impl.TreePut(tree, numbered(i), "new")
			if i%2 != 0 || i == 400 {
				wantNoTree(t, "a pair too many", got, right)
			} else if v, there := impl.TreeGet(got, numbered(i)); !right || !there || v != "new" || len(impl.TreeAll(got)) != 200 {
				t.Errorf("a new value in a full tree: %q %v %v", v, there, right)
			}
		}
	}
	less, _ := impl.TreeDrop(full, numbered(0))
	more, ok := impl.TreePut(less, numbered(399), "")
	if !ok || len(impl.TreeAll(more)) != 200 || !impl.TreeOk(more) {
		t.Error("there is no room for the last pair")
	}
}

func TestP15TreeDrop(t *testing.T) {
	wantEdit(t, "", "drop", "a", "")
	wantEdit(t, "a", "drop", "a", "")
	wantEdit(t, "a", "drop", "b", "a")
	wantEdit(t, "ab", "drop", "a", "b")
	wantEdit(t, "abcd", "drop", "b", "acd")
	// Put together with the sibling ahead.
	wantEdit(t, "(ab cd ef)", "drop", "c", "(abd ef)")
	wantEdit(t, "(ab cd ef)", "drop", "f", "(ab cde)")
	wantEdit(t, "(abc de fg)", "drop", "e", "(abcd fg)")
	wantEdit(t, "(ab cd efgh)", "drop", "d", "(abc efgh)")
	wantEdit(t, "(abcd ef gh)", "drop", "e", "(abc df gh)")
	wantEdit(t, "(abcd ef)", "drop", "f", "(abc de)")
	// Put together with the sibling behind, as there is none ahead.
	wantEdit(t, "(ab cd ef)", "drop", "a", "(bcd ef)")
	wantEdit(t, "(ab cde fg)", "drop", "b", "(acde fg)")
	wantEdit(t, "(ab cdef gh)", "drop", "a", "(bcd ef gh)")
	wantEdit(t, "(ab cdef)", "drop", "b", "(acd ef)")
	// The root gives way.
	wantEdit(t, "(ab cd)", "drop", "a", "bcd")
	wantEdit(t, "(ab cd)", "drop", "d", "abc")
	wantEdit(t, "((ab cd) (ef gh))", "drop", "a", "(bcd ef gh)")
	wantEdit(t, "((ab cd) (ef gh))", "drop", "h", "(ab cd efg)")
	wantEdit(t, "(((ab cd) (ef gh)) ((ij kl) (mn op)))", "drop", "a", "((bcd ef gh) (ij kl) (mn op))")
	wantEdit(t, "(((ab cd) (ef gh)) ((ij kl) (mn op)))", "drop", "p", "((ab cd) (ef gh) (ij kl mno))")
	// Branches become one, or are cut anew.
	wantEdit(t, "((ab cd) (ef gh) (ij kl))", "drop", "g", "((ab cd efh) (ij kl))")
	wantEdit(t, "((ab cd ef) (gh ij) (kl mn op qr))", "drop", "j", "((ab cd ef ghi) (kl mn op qr))")
	wantEdit(t, "((ab cd ef gh) (ij kl))", "drop", "i", "((ab cd ef) (gh jkl))")
	wantEdit(t, "((ab cd) (ef gh ij kl))", "drop", "c", "((abd ef gh) (ij kl))")
	wantEdit(t, "((ab cd) (ef gh ij) (kl mn))", "drop", "d", "((abc ef gh ij) (kl mn))")
	wantEdit(t, "(((ab cd) (ef gh)) ((ij kl) (mn op) (qr st) (uv wx)))", "drop", "f", "(((ab cd egh) (ij kl) (mn op)) ((qr st) (uv wx)))")
	// There is enough left.
	wantEdit(t, "(abc de)", "drop", "b", "(ac de)")
	wantEdit(t, "((ab cd ef) (gh ij))", "drop", "a", "((bcd ef) (gh ij))")
	wantEdit(t, "((ab cd) (ef gh))", "drop", "z", "((ab cd) (ef gh))")
	wantEdit(t, "((ab cd) (eg hi))", "drop", "f", "((ab cd) (eg hi))")
}

func TestP15ALeastKeyGoes(t *testing.T) {
	wantEdit(t, "(abc def)", "drop", "d", "(abc ef)")
	wantEdit(t, "(abc def)", "drop", "a", "(bc def)")
	wantEdit(t, "((ab cd) (efg hi))", "drop", "e", "((ab cd) (fg hi))")
	wantEdit(t, "((ab cd) (efg hij))", "drop", "h", "((ab cd) (efg ij))")
	wantEdit(t, "((ab cd) (ef gh ij))", "drop", "e", "((ab cd) (fgh ij))")
	wantEdit(t, "(((ab cd) (ef gh)) ((ijk lm) (no pq)))", "drop", "i", "(((ab cd) (ef gh)) ((jk lm) (no pq)))")
	wantEdit(t, "(((ab cd) (ef gh)) ((ij kl mn) (op qr)))", "drop", "i", "(((ab cd) (ef gh)) ((jkl mn) (op qr)))")
	tree, _ := impl.TreeDrop(plant("(((ab cd) (ef gh)) ((ijk lm) (no pq)))"), "i")
	if got := tree.Nodes[0].Keys[0]; got != "j" {
		t.Errorf("the root's key is %q behind its going, want j", got)
	}
}

func TestP15TreeDropOfNoKeyThere(t *testing.T) {
	for _, shape := range rightShapes() {
		for _, k := range []string{"A", "\x00", "a\x00", "cc", "hh", "zz", "\xff", longKey, topKey} {
			got, ok := impl.TreeDrop(plant(shape), k)
			wantTree(t, shape+" without "+k, got, ok, plant(shape))
		}
	}
}

func TestP15TreeScan(t *testing.T) {
	tree := plant("((ab cd) (efg hi))")
	scan := func(lo, hi string, most int, back bool, want string) {
		t.Helper()
		got := ""
		for _, p := range impl.TreeScan(tree, impl.Range{Lo: lo, Hi: hi}, most, back) {
			if p.Val != "v"+p.Key {
				t.Errorf("a scan tells %q", p)
			}
			got += p.Key
		}
		if got != want {
			t.Errorf("from %q to %q, %d, %v: %q, want %q", lo, hi, most, back, got, want)
		}
	}
	scan("", "", 100, false, "abcdefghi")
	scan("", "", 100, true, "ihgfedcba")
	scan("", "", 9, false, "abcdefghi")
	scan("", "", 8, false, "abcdefgh")
	scan("", "", 8, true, "ihgfedcb")
	scan("", "", 1, false, "a")
	scan("", "", 1, true, "i")
	scan("", "", 0, false, "")
	scan("", "", 0, true, "")
	scan("", "", -1, false, "")
	scan("", "", math.MinInt64, true, "")
	scan("", "", math.MaxInt64, true, "ihgfedcba")
	scan("c", "", 100, false, "cdefghi")
	scan("c", "", 2, true, "ih")
	scan("", "c", 100, false, "ab")
	scan("", "c", 1, true, "b")
	scan("c", "f", 3, false, "cde")
	scan("c", "f", 2, false, "cd")
	scan("c", "f", 2, true, "ed")
	scan("c", "f", 4, true, "edc")
	scan("c", "c\x00", 4, true, "c")
	scan("c\x00", "d", 4, false, "")
	scan("bb", "ee", 9, false, "cde")
	scan("z", "", 9, false, "")
	scan("", "a", 9, true, "")
	scan(longEnd, "", 9, false, "")
	scan("a", longEnd, 9, true, "ihgfedcba")
	for _, r := range wrongRanges() {
		wantPairs(t, "a scan of a wrong range", impl.TreeScan(tree, r, 10, false), nil)
		wantPairs(t, "a scan of a wrong range from the last", impl.TreeScan(tree, r, 10, true), nil)
	}
	wantPairs(t, "a scan of no nodes", impl.TreeScan(impl.Tree{}, impl.Range{}, 10, false), nil)
}

func TestP15TreeOf(t *testing.T) {
	var model grown
	for n := range 201 {
		l := numberedPairs(n)
		if n > 0 {
			model = model.rootPut(l[n-1])
		}
		tree, ok := impl.TreeOf(l)
		wantTree(t, "TreeOf "+strconv.Itoa(n), tree, ok, laid(model))
	}
	tree, ok := impl.TreeOf(nil)
	wantTree(t, "TreeOf of no pairs", tree, ok, impl.Tree{})
	for _, l := range wrongPairLists() {
		tree, ok := impl.TreeOf(l)
		wantNoTree(t, "TreeOf of wrong pairs", tree, ok)
	}
}

func TestP15Depth(t *testing.T) {
	for _, shape := range rightShapes() {
		want := 0
		if shape != "" {
			want = 1 + len(shape) - len(strings.TrimLeft(shape, "("))
		}
		if got := impl.Depth(plant(shape)); got != want {
			t.Errorf("Depth of %s is %d, want %d", shape, got, want)
		}
	}
	if got := impl.Depth(laid(thin(numberedPairs(200)))); got != 7 {
		t.Errorf("Depth of the thinnest tree is %d, want 7", got)
	}
}

// withRoom: the same tree whose lists have marked room behind them.
func withRoom(t impl.Tree) impl.Tree {
	nodes := make([]impl.Node, 0, len(t.Nodes)+2)
	for _, n := range t.Nodes {
		nodes = append(nodes, impl.Node{Pairs: marked(n.Pairs, impl.Pair{Key: "mark"}), Keys: marked(n.Keys, "mark"), Kids: marked(n.Kids, -7)})
	}
	return impl.Tree{Nodes: marked(nodes, impl.Node{Keys: []string{"mark"}})}
}

func marked[T any](l []T, mark T) []T {
	return append(slices.Clone(l), mark, mark)[:len(l)]
}

// roomOf is a tree with all that its lists have room for, cloned.
func roomOf(t impl.Tree) impl.Tree {
	c := impl.Tree{}
	for _, n := range t.Nodes[:cap(t.Nodes)] {
		c.Nodes = append(c.Nodes, impl.Node{Pairs: slices.Clone(n.Pairs[:cap(n.Pairs)]), Keys: slices.Clone(n.Keys[:cap(n.Keys)]), Kids: slices.Clone(n.Kids[:cap(n.Kids)])})
	}
	return c
}

func fillUp[T any](l []T, v T) {
	for i := range l[:cap(l)] {
		l[:cap(l)][i] = v
	}
}

// areApart: no two of these lists share memory, as far as they have room.
func areApart[T comparable](lists [][]T, mark T) bool {
	for i, l := range lists {
		var kept [][]T
		for _, other := range lists {
			kept = append(kept, slices.Clone(other))
		}
		fillUp(l, mark)
		kept[i], l = slices.Clone(l), kept[i]
		if !slices.EqualFunc(lists, kept, slices.Equal) {
			return false
		}
		copy(lists[i], l)
	}
	return true
}

// checkTreeMemory: two calls answer the same, and the lists of both answers and
// of the argument, which isn't changed, share no memory.
func checkTreeMemory(t *testing.T, what string, arg impl.Tree, call func(t impl.Tree) impl.Tree) {
	t.Helper()
	plain := cloneTree(arg)
	arg = withRoom(arg)
	before := roomOf(arg)
	first, second := call(arg), call(arg)
	kept := cloneTree(second)
	if !sameTree(first, second) || !sameTree(roomOf(arg), before) {
		t.Errorf("%s: a second call answers another thing, or the argument is changed", what)
	}
	var pairs [][]impl.Pair
	var keys [][]string
	var kids [][]int
	for _, tree := range []impl.Tree{first, second, arg} {
		for _, n := range tree.Nodes {
			pairs, keys, kids = append(pairs, n.Pairs), append(keys, n.Keys), append(kids, n.Kids)
		}
	}
	if !areApart(pairs, impl.Pair{Key: "scribble"}) || !areApart(keys, "scribble") || !areApart(kids, -99) {
		t.Errorf("%s: two lists share memory", what)
	}
	fillUp(first.Nodes, impl.Node{})
	if !sameTree(second, kept) || !sameTree(arg, plain) {
		t.Errorf("%s: the nodes of an answer share memory", what)
	}
}

func TestP15TreesAreNewMemory(t *testing.T) {
	for _, shape := range rightShapes() {
		tree := plant(shape)
		for _, k := range []string{"a", "d", "e", "h", "zz", "\x00"} {
			checkTreeMemory(t, "TreePut", tree, func(t impl.Tree) impl.Tree { got, _ := impl.TreePut(t, k, "w"); return got })
			checkTreeMemory(t, "TreeDrop", tree, func(t impl.Tree) impl.Tree { got, _ := impl.TreeDrop(t, k); return got })
		}
	}
	l := marked(numberedPairs(60), impl.Pair{Key: "mark"})
	checkTreeMemory(t, "TreeOf", impl.Tree{}, func(impl.Tree) impl.Tree { got, _ := impl.TreeOf(l); return got })
	if !slices.Equal(l[:62], append(numberedPairs(60), impl.Pair{Key: "mark"}, impl.Pair{Key: "mark"})) {
		t.Error("TreeOf changes its pairs, or shares memory with them")
	}
}

func TestP15PairsAreNewMemory(t *testing.T) {
	for _, shape := range rightShapes() {
		arg := withRoom(plant(shape))
		before := roomOf(arg)
		for _, call := range []func() []impl.Pair{
			func() []impl.Pair { return impl.TreeAll(arg) },
			func() []impl.Pair { return impl.TreeScan(arg, impl.Range{}, 100, false) },
			func() []impl.Pair { return impl.TreeScan(arg, impl.Range{Lo: "b", Hi: "d"}, 1, false) },
			func() []impl.Pair { return impl.TreeScan(arg, impl.Range{Lo: "b"}, 3, true) },
		} {
			first, second := call(), call()
			kept := slices.Clone(second)
			fillUp(first, impl.Pair{Key: "scribble"})
			if !sameTree(roomOf(arg), before) || !slices.Equal(second, kept) || !slices.Equal(call(), kept) {
				t.Errorf("pairs of %s share memory, or the tree is changed", shape)
			}
		}
	}
}

func TestP15LooksChangeNothing(t *testing.T) {
	for _, shape := range append(rightShapes(), wrongShapes()...) {
		arg := withRoom(plant(shape))
		before := roomOf(arg)
		impl.TreeOk(arg)
		impl.TreeGet(arg, "d")
		impl.Depth(arg)
		impl.TreePut(arg, "", "v")
		impl.TreePut(arg, "d", strings.Repeat("v", 61))
		impl.TreePut(arg, "d", "w")
		impl.TreeDrop(arg, "")
		impl.TreeDrop(arg, "d")
		impl.TreeScan(arg, impl.Range{Lo: "b", Hi: "a"}, 3, true)
		if !sameTree(roomOf(arg), before) {
			t.Errorf("a tree %s is changed", shape)
		}
	}
	for _, l := range wrongPairLists() {
		arg := marked(l, impl.Pair{Key: "mark"})
		before := slices.Clone(arg[:len(l)+2])
		impl.PairsOk(arg)
		impl.TreeOf(arg)
		if !slices.Equal(arg[:len(l)+2], before) {
			t.Error("a list of pairs is changed")
		}
	}
}
