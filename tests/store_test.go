package tests

import (
	"bytes"
	"math"
	"reflect"
	"slices"
	"strconv"
	"strings"
	"testing"

	"loop.example/g00392/impl"
)

func puts(k, v string) impl.Edit { return impl.Edit{Key: k, Val: v} }

func goes(k string) impl.Edit { return impl.Edit{Key: k, Gone: true} }

func writes(at int, b []byte) impl.Op { return impl.Op{Write: impl.Write{At: at, Bytes: b}} }

func syncs() impl.Op { return impl.Op{Sync: true} }

func cloneStore(s impl.Store) impl.Store {
	return impl.Store{Disk: cloneDisk(s.Disk), Gen: s.Gen, Tree: cloneTree(s.Tree), Places: slices.Clone(s.Places)}
}

// sameTold: what two stores tell of their disks is the same.
func sameTold(a, b impl.Store) bool {
	return a.Gen == b.Gen && sameTree(a.Tree, b.Tree) && slices.Equal(a.Places, b.Places)
}

func sameStore(a, b impl.Store) bool {
	return sameTold(a, b) && sameDisk(a.Disk, b.Disk)
}

func sameOps(a, b []impl.Op) bool {
	return slices.EqualFunc(a, b, func(x, y impl.Op) bool {
		return x.Sync == y.Sync && x.Write.At == y.Write.At && bytes.Equal(x.Write.Bytes, y.Write.Bytes)
	})
}

func opsText(l []impl.Op) string {
	s := strconv.Itoa(len(l)) + " operations"
	for _, o := range l[:min(len(l), 30)] {
		if o.Sync {
			s += " sync"
		} else {
			s += " " + strconv.Itoa(o.Write.At) + ":" + strconv.Quote(strings.TrimRight(string(o.Write.Bytes), "\x00"))
		}
	}
	return s
}

func storeText(s impl.Store) string {
	return "Gen " + strconv.Itoa(s.Gen) + ", " + strconv.Itoa(len(s.Tree.Nodes)) + " nodes, places " + intsText(s.Places) + ", " + diskText(s.Disk)
}

func intsText(l []int) string {
	var words []string
	for _, n := range l {
		words = append(words, strconv.Itoa(n))
	}
	return "[" + strings.Join(words, " ") + "]"
}

func wantStore(t *testing.T, what string, got impl.Store, code int, want impl.Store) {
	t.Helper()
	if code != 0 || !sameStore(got, want) {
		t.Errorf("%s: code %d, %s, want %s", what, code, storeText(got), storeText(want))
	}
}

func wantNoStore(t *testing.T, what string, got impl.Store, code, want int) {
	t.Helper()
	if code != want || !sameStore(got, impl.Store{}) {
		t.Errorf("%s: code %d, %s, want nothing and %d", what, code, storeText(got), want)
	}
}

func wantOpened(t *testing.T, what string, d impl.Disk, want impl.Store) {
	t.Helper()
	got, code := impl.StoreOpen(d)
	wantStore(t, what, got, code, want)
}

func wantUnread(t *testing.T, what string, d impl.Disk, want int) {
	t.Helper()
	got, code := impl.StoreOpen(d)
	wantNoStore(t, "StoreOpen: "+what, got, code, want)
}

func wantPlan(t *testing.T, what string, got []impl.Op, code int, want []impl.Op) {
	t.Helper()
	if code != 0 || !sameOps(got, want) {
		t.Errorf("%s: code %d, %s, want %s", what, code, opsText(got), opsText(want))
	}
}

func wantNoPlan(t *testing.T, what string, got []impl.Op, code, want int) {
	t.Helper()
	if code != want || len(got) != 0 {
		t.Errorf("%s: code %d, %s, want nothing and %d", what, code, opsText(got), want)
	}
}

// wantRefused: all that plans a commit has this code and nothing else.
func wantRefused(t *testing.T, what string, s impl.Store, l []impl.Edit, want int) {
	t.Helper()
	ops, code := impl.PlanOf(s, l)
	wantNoPlan(t, "PlanOf: "+what, ops, code, want)
	got, code := impl.Commit(s, l)
	wantNoStore(t, "Commit: "+what, got, code, want)
	for _, n := range []int{math.MinInt64, -1, 0, 2, 1000, math.MaxInt64} {
		d, code := impl.CommitCrash(s, l, n, []int{512, 5})
		wantNoDisk(t, "CommitCrash: "+what, d, false)
		if code != want {
			t.Errorf("CommitCrash: %s: code %d, want %d", what, code, want)
		}
	}
}

func wantLaid(t *testing.T, what string, s impl.Store, tree impl.Tree, places []int, ops []impl.Op) {
	t.Helper()
	gotPlaces, gotOps, ok := impl.Lay(s, tree)
	if !ok || !slices.Equal(gotPlaces, places) || !sameOps(gotOps, ops) {
		t.Errorf("%s: Lay is %s, %s, %v, want %s, %s", what, intsText(gotPlaces), opsText(gotOps), ok, intsText(places), opsText(ops))
	}
}

func wantNotLaid(t *testing.T, what string, s impl.Store, tree impl.Tree) {
	t.Helper()
	if places, ops, ok := impl.Lay(s, tree); ok || len(places) != 0 || len(ops) != 0 {
		t.Errorf("%s: Lay is %s, %s, %v, want nothing, nothing and false", what, intsText(places), opsText(ops), ok)
	}
}

// regrown is a right tree in the form of the tests.
func regrown(t impl.Tree, place int) grown {
	if len(t.Nodes) == 0 {
		return grown{}
	}
	g := grown{pairs: slices.Clone(t.Nodes[place].Pairs)}
	for _, kid := range t.Nodes[place].Kids {
		g.kids = append(g.kids, regrown(t, kid))
	}
	return g
}

// nodeBytes is a node's page in the tests' own bytes.
func nodeBytes(n impl.Node, places []int) []byte {
	p := impl.Page{Keys: slices.Clone(n.Keys)}
	for _, pair := range n.Pairs {
		p.Keys, p.Vals = append(p.Keys, pair.Key), append(p.Vals, pair.Val)
	}
	for _, kid := range n.Kids {
		p.Kids = append(p.Kids, places[kid])
	}
	return pageText(p)
}

// settled is the store of a tree on these sheets, one for each node (more of
// them aren't looked at), on a disk that has nothing else.
func settled(t impl.Tree, gen, size int, sheets []int) impl.Store {
	places := slices.Clone(sheets[:len(t.Nodes)])
	s := impl.Store{Disk: blank(size), Gen: gen, Tree: cloneTree(t), Places: places}
	m := impl.Meta{Gen: gen}
	for i, n := range t.Nodes {
		s.Disk.Sheets[places[i]].Bytes = nodeBytes(n, places)
		m.Root = places[0]
	}
	s.Disk.Sheets[gen%2].Bytes = metaText(m)
	return s
}

func upFrom(first, size int) []int {
	l := make([]int, 0, size)
	for i := range size {
		l = append(l, first+i)
	}
	return l
}

// scattered: all sheets of a disk but those of the metas, in a thrown order.
func scattered(d *dice, size int) []int {
	l := upFrom(2, size-2)
	for i := range l {
		j := d.below(i + 1)
		l[i], l[j] = l[j], l[i]
	}
	return l
}

// readBelow reads a subtree by the tests' own reader, its nodes numbered from 0.
func readBelow(d impl.Disk, at int, seen map[int]bool) ([]impl.Node, []int, bool) {
	if at >= len(d.Sheets) || seen[at] {
		return nil, nil, false
	}
	seen[at] = true
	p, ok := pageIn(d.Sheets[at].Bytes)
	if !ok {
		return nil, nil, false
	}
	if len(p.Kids) == 0 {
		var n impl.Node
		for i, k := range p.Keys {
			n.Pairs = append(n.Pairs, impl.Pair{Key: k, Val: p.Vals[i]})
		}
		return []impl.Node{n}, []int{at}, true
	}
	nodes, places := []impl.Node{{Keys: p.Keys}}, []int{at}
	for _, kid := range p.Kids {
		below, sheets, ok := readBelow(d, kid, seen)
		if !ok {
			return nil, nil, false
		}
		for i := range below {
			for j := range below[i].Kids {
				below[i].Kids[j] += len(nodes)
			}
		}
		nodes[0].Kids = append(nodes[0].Kids, len(nodes))
		nodes, places = append(nodes, below...), append(places, sheets...)
	}
	return nodes, places, true
}

// foundOn is what the tests' own readers find on a disk, and the code.
func foundOn(d impl.Disk) (impl.Store, int) {
	wrong := slices.ContainsFunc(d.Sheets, func(s impl.Sheet) bool { return len(s.Bytes)%512 != 0 || len(s.Bytes) > 512 })
	if wrong || len(d.Sheets) < 2 || len(d.Sheets) > 400 || len(d.Dirty) > 0 {
		return impl.Store{}, 1
	}
	m, ok := metaOn(d)
	if !ok {
		return impl.Store{}, 2
	}
	found := impl.Store{Disk: cloneDisk(d), Gen: m.Gen}
	if m.Root == 0 {
		return found, 0
	}
	nodes, places, ok := readBelow(d, m.Root, map[int]bool{})
	if !ok || !stands(impl.Tree{Nodes: nodes}) {
		return impl.Store{}, 3
	}
	found.Tree, found.Places = impl.Tree{Nodes: nodes}, places
	return found, 0
}

// wholeText tells a node with all that is below it, wherever it lies.
func wholeText(t impl.Tree, place int) string {
	n := t.Nodes[place]
	s := "("
	for _, p := range n.Pairs {
		s += strconv.Quote(p.Key) + "=" + strconv.Quote(p.Val) + " "
	}
	for _, kid := range n.Kids {
		s += wholeText(t, kid)
	}
	return s + ")"
}

func wholeTexts(t impl.Tree) []string {
	var l []string
	for i := range t.Nodes {
		l = append(l, wholeText(t, i))
	}
	return l
}

// layModel looks for each node among all of the store's, and gives the others
// the sheets of a list of those that are free.
func layModel(s impl.Store, t impl.Tree) ([]int, []impl.Op, bool) {
	var free []int
	for at := 2; at < len(s.Disk.Sheets); at++ {
		if !slices.Contains(s.Places, at) {
			free = append(free, at)
		}
	}
	old := wholeTexts(s.Tree)
	var places, fresh []int
	for i, text := range wholeTexts(t) {
		if j := slices.Index(old, text); j >= 0 {
			places = append(places, s.Places[j])
			continue
		}
		if len(free) == 0 {
			return nil, nil, false
		}
		places, fresh = append(places, free[0]), append(fresh, i)
		free = free[1:]
	}
	var ops []impl.Op
	for _, i := range fresh {
		ops = append(ops, writes(places[i], nodeBytes(t.Nodes[i], places)))
	}
	return places, ops, true
}

// editModel is what edits make of a tree, by the tests' own puts and drops.
func editModel(g grown, l []impl.Edit) (grown, bool) {
	for _, e := range l {
		if e.Gone {
			g = g.rootDrop(e.Key)
			continue
		}
		g = g.rootPut(impl.Pair{Key: e.Key, Val: e.Val})
		if len(g.all()) > 200 {
			return grown{}, false
		}
	}
	return g, true
}

// planModel is the plan for a right store and right edits, and the new store but
// for its disk.
func planModel(s impl.Store, l []impl.Edit) ([]impl.Op, impl.Store, int) {
	g, ok := editModel(regrown(s.Tree, 0), l)
	if !ok {
		return nil, impl.Store{}, 2
	}
	next := impl.Store{Gen: s.Gen + 1, Tree: laid(g)}
	places, ops, ok := layModel(s, next.Tree)
	if !ok {
		return nil, impl.Store{}, 3
	}
	next.Places = places
	m := impl.Meta{Gen: next.Gen}
	if len(places) > 0 {
		m.Root = places[0]
	}
	return append(ops, syncs(), writes(m.Gen%2, metaText(m)), syncs()), next, 0
}

// doneOn does right operations by the tests' own disk.
func doneOn(d impl.Disk, l []impl.Op) impl.Disk {
	for _, o := range l {
		if o.Sync {
			d = synced(d)
		} else {
			d = with(d, o.Write)
		}
	}
	return d
}

// thrownEdits: puts and drops of numbered keys below a bound, some of them more
// than once.
func thrownEdits(d *dice, size, keys int) []impl.Edit {
	l := make([]impl.Edit, size)
	for i := range l {
		k := numbered(d.below(keys))
		if d.below(5) < 2 {
			l[i] = goes(k)
		} else {
			l[i] = puts(k, "v"+strconv.Itoa(d.below(9)))
		}
	}
	return l
}

// moment is a store, edits that can be committed to it, the plan of that by the
// tests' own model, and the store that comes.
type moment struct {
	store impl.Store
	edits []impl.Edit
	plan  []impl.Op
	next  impl.Store
}

func momentOf(s impl.Store, edits ...impl.Edit) moment {
	ops, next, code := planModel(s, edits)
	if code == 0 {
		next.Disk = doneOn(s.Disk, ops)
	}
	return moment{s, edits, ops, next}
}

// livesOf are moments of thrown lives, on disks of each size and with few keys
// and many, from new stores on. The stores are the tests' own.
func livesOf(seed, steps int) []moment {
	d := dice(seed)
	var l []moment
	for i, size := range []int{6, 12, 40, 90, 260, 400} {
		s := settled(impl.Tree{}, 1, size, nil)
		for range steps {
			edits := thrownEdits(&d, d.below([]int{3, 4, 8, 15, 41, 41}[i]), []int{5, 14, 40, 90, 200, 260}[i])
			if m := momentOf(s, edits...); len(m.plan) > 0 {
				l = append(l, m)
				s = m.next
			}
		}
	}
	return l
}

func TestP5ACommitIsWhatItsEditsMake(t *testing.T) {
	for _, m := range livesOf(60, 40) {
		want, _ := editModel(regrown(m.store.Tree, 0), m.edits)
		got, code := impl.Commit(m.store, m.edits)
		if code != 0 || got.Gen != m.store.Gen+1 || !sameTree(got.Tree, laid(want)) {
			t.Fatalf("code %d, Gen %d behind %d, the tree %+v, want %+v", code, got.Gen, m.store.Gen, got.Tree, laid(want))
		}
		wantPairs(t, "the data of a commit", impl.TreeAll(got.Tree), want.all())
		wantBool(t, "StoreOk of a commit", impl.StoreOk(got), true)
		wantOpened(t, "a commit opened again", got.Disk, got)
		found, code := foundOn(got.Disk)
		wantStore(t, "what lies on the disk of a commit", found, code, got)
	}
}

// lastOf is the data that edits one behind the other leave, by a map.
func lastOf(from []impl.Pair, l ...impl.Edit) []impl.Pair {
	held := map[string]string{}
	for _, p := range from {
		held[p.Key] = p.Val
	}
	for _, e := range l {
		delete(held, e.Key)
		if !e.Gone {
			held[e.Key] = e.Val
		}
	}
	var pairs []impl.Pair
	for k, v := range held {
		pairs = append(pairs, impl.Pair{Key: k, Val: v})
	}
	slices.SortFunc(pairs, func(a, b impl.Pair) int { return strings.Compare(a.Key, b.Key) })
	return pairs
}

func TestP5TwoCommitsAreTheirEditsOneBehindTheOther(t *testing.T) {
	d := dice(61)
	both := 0
	for _, m := range livesOf(62, 30) {
		more := thrownEdits(&d, d.below(6), 60)
		one, code := impl.Commit(m.store, m.edits)
		two, second := impl.Commit(one, more)
		if code != 0 || second != 0 {
			continue
		}
		all := slices.Concat(m.edits, more)
		wantPairs(t, "the data of two commits", impl.TreeAll(two.Tree), lastOf(impl.TreeAll(m.store.Tree), all...))
		atOnce, code := impl.Commit(m.store, all)
		if len(all) > 40 {
			wantNoStore(t, "too many edits at once", atOnce, code, 1)
			continue
		}
		if code == 0 {
			both++
			wantTree(t, "the edits of two commits at once", atOnce.Tree, true, two.Tree)
		}
	}
	if both < 60 {
		t.Errorf("%d are too few to tell", both)
	}
}

func TestP5ACommitNeverWritesOnASheetOfTheTree(t *testing.T) {
	for _, m := range livesOf(63, 40) {
		ops, code := impl.PlanOf(m.store, m.edits)
		if code != 0 || len(ops) < 3 {
			t.Fatalf("code %d, %s", code, opsText(ops))
		}
		for i, o := range ops {
			if o.Sync {
				continue
			}
			at := o.Write.At
			if slices.Contains(m.store.Places, at) || at == m.store.Gen%2 || at == 1-m.store.Gen%2 && i != len(ops)-2 {
				t.Errorf("the operation %d of %d writes on sheet %d, Gen %d lies on %s", i, len(ops), at, m.store.Gen, intsText(m.store.Places))
			}
		}
		d := impl.DoOps(m.store.Disk, ops)
		for _, at := range append(slices.Clone(m.store.Places), m.store.Gen%2) {
			wantBytes(t, "a sheet of the old tree", d.Sheets[at].Bytes, true, m.store.Disk.Sheets[at].Bytes)
		}
	}
}

func TestP5NodesThatStayTheSameStayWhereTheyLie(t *testing.T) {
	stayed, moved := 0, 0
	for _, m := range livesOf(64, 40) {
		got, _ := impl.Commit(m.store, m.edits)
		old := wholeTexts(m.store.Tree)
		for i, text := range wholeTexts(got.Tree) {
			at := got.Places[i]
			if at < 2 || at >= len(m.store.Disk.Sheets) || slices.Contains(got.Places[:i], at) {
				t.Errorf("a node lies on sheet %d: %s", at, intsText(got.Places))
			}
			j := slices.Index(old, text)
			if j >= 0 && at != m.store.Places[j] || j < 0 && slices.Contains(m.store.Places, at) {
				t.Errorf("the node %s lies on sheet %d, and lay at place %d of %s", text, at, j, intsText(m.store.Places))
			}
			if j >= 0 {
				stayed++
			} else {
				moved++
			}
		}
	}
	if stayed < 500 || moved < 500 {
		t.Errorf("%d nodes that stayed and %d that didn't are too few to tell", stayed, moved)
	}
}

// checkTorn: a crash leaves the old tree or the new one, which one being told by
// the sheet of the last page.
func checkTorn(t *testing.T, m moment, n int, keep []int) bool {
	t.Helper()
	size := len(m.plan)
	what := "Gen " + strconv.Itoa(m.store.Gen) + ", " + strconv.Itoa(n) + " of " + strconv.Itoa(size) + ", keep " + intsText(keep)
	d, code := impl.CommitCrash(m.store, m.edits, n, keep)
	wantDisk(t, what, d, code == 0, crashed(doneOn(m.store.Disk, m.plan[:min(max(n, 0), size)]), keep))
	last := m.plan[size-2].Write
	came := bytes.Equal(d.Sheets[last.At].Bytes, last.Bytes)
	want := m.store
	if came {
		want = m.next
	}
	want.Disk = d
	wantOpened(t, what, d, want)
	return came
}

func TestP5TornBehindEachOperation(t *testing.T) {
	d := dice(65)
	for i, m := range livesOf(66, 25) {
		if len(m.store.Disk.Sheets) > 50 && i%4 > 0 {
			continue
		}
		size := len(m.plan)
		for n := -1; n <= size+1; n++ {
			came := checkTorn(t, m, n, nil)
			wantBool(t, "without a byte the new tree is there", came, n >= size)
			came = checkTorn(t, m, n, slices.Repeat([]int{512}, size))
			wantBool(t, "with every byte the new tree is there", came, n >= size-1)
			checkTorn(t, m, n, thrownKeep(&d, size))
		}
	}
}

func TestP5TheLastPageTornAtEachPlace(t *testing.T) {
	moments := livesOf(67, 6)
	three, seven := plant("(ab cd)"), plant("((ab cd) (ef gh))")
	for _, gen := range []int{1, 2, 3, 254, 255, 256, 257, 65534, 65535, 65536, 1<<32 - 1, 1 << 32, impl.MaxNum - 2, impl.MaxNum - 1} {
		s := settled(three, gen, 12, []int{9, 2, 4})
		if gen > 1 {
			s.Disk.Sheets[1-gen%2].Bytes = metaText(impl.Meta{Gen: gen - 1, Root: 5})
		}
		moments = append(moments, momentOf(s, puts("x", "1")), momentOf(s), momentOf(settled(seven, gen, 12, upFrom(5, 7)), goes("a"), goes("h")), momentOf(settled(plant("a"), gen, 3, []int{2}), goes("a")))
	}
	for _, m := range moments {
		if len(m.store.Disk.Sheets) > 40 {
			continue
		}
		for n := -1; n <= 513; n++ {
			if came := checkTorn(t, m, len(m.plan)-1, []int{n}); n >= 512 && !came {
				t.Errorf("Gen %d: all bytes came, the new tree isn't there", m.store.Gen+1)
			}
		}
	}
}

// A life goes on behind each crash from what is left, whatever lies on the
// sheets that a torn commit began.
func TestP5LivesGoOnBehindCrashes(t *testing.T) {
	throw := dice(68)
	old, fresh := 0, 0
	for _, size := range []int{8, 20, 60} {
		s := settled(impl.Tree{}, 1, size, nil)
		for range 150 {
			edits := thrownEdits(&throw, throw.below(6), size)
			m := momentOf(s, edits...)
			if len(m.plan) == 0 {
				wantRefused(t, "no room", s, edits, 3)
				s = settled(impl.Tree{}, 1, size, nil)
				continue
			}
			n := len(m.plan) - throw.below(len(m.plan)+1)
			keep := thrownKeep(&throw, throw.below(len(m.plan)+1))
			d, _ := impl.CommitCrash(s, edits, n, keep)
			got, code := impl.StoreOpen(d)
			if code != 0 || !sameTold(got, s) && !sameTold(got, m.next) {
				t.Fatalf("code %d, %s, neither %s nor %s", code, storeText(got), storeText(s), storeText(m.next))
			}
			if sameTold(got, m.next) {
				fresh++
			} else {
				old++
			}
			s = got
		}
	}
	if old < 50 || fresh < 50 {
		t.Errorf("%d old trees and %d new ones are too few to tell", old, fresh)
	}
}

func TestP15StoreLimits(t *testing.T) {
	if impl.MaxBatch != 40 {
		t.Error("a constant isn't as the document says")
	}
}

// Trees of each shape, on sheets in order and in thrown orders.
func TestP15StoreOpenOfRightTrees(t *testing.T) {
	d := dice(151)
	var trees []impl.Tree
	for _, shape := range rightShapes() {
		trees = append(trees, plant(shape))
	}
	for n := 2; n <= 200; n += 22 {
		trees = append(trees, laid(thin(numberedPairs(n))))
	}
	trees = append(trees, laid(thin(numberedPairs(200))), laid(grove(fullSizes(4))), laid(grown{pairs: []impl.Pair{{Key: longKey, Val: longVal}}}))
	for _, tree := range trees {
		nodes := len(tree.Nodes)
		wantOpened(t, "in order", settled(tree, 1, nodes+2, upFrom(2, nodes)).Disk, settled(tree, 1, nodes+2, upFrom(2, nodes)))
		for _, gen := range []int{1, 2, 255, 256, impl.MaxNum - 1, impl.MaxNum} {
			for _, size := range []int{nodes + 2, nodes + 7, 400} {
				s := settled(tree, gen, size, scattered(&d, size))
				wantOpened(t, "scattered", s.Disk, s)
				wantBool(t, "StoreOk", impl.StoreOk(s), true)
			}
		}
	}
}

// The sheets at both ends of a full disk, and those that no node lies on.
func TestP15StoreOpenOfOtherSheets(t *testing.T) {
	s := settled(plant("(ab cd)"), 6, 400, []int{399, 2, 398})
	wantOpened(t, "the last sheets", s.Disk, s)
	for _, b := range [][]byte{counted(1), make([]byte, 512), metaText(impl.Meta{Gen: 98, Root: 3}), pageText(leafPage("a", "1")), pageText(branchPage([]string{"m"}, 2, 399))} {
		for _, at := range []int{3, 200, 397} {
			s.Disk.Sheets[at].Bytes = b
		}
		wantOpened(t, "something on a sheet of no node", s.Disk, s)
		s.Disk.Sheets[1].Bytes = b
		wantOpened(t, "something on the sheet of the other meta", s.Disk, s)
	}
	s.Disk.Sheets[1].Bytes = metaText(impl.Meta{Gen: 5, Root: 17})
	wantOpened(t, "a lesser meta whose root is no page", s.Disk, s)
	s.Disk.Sheets[1].Bytes = metaText(impl.Meta{Gen: 7, Root: 17})
	wantUnread(t, "a greater meta whose root is no page", s.Disk, 3)
	s.Disk.Sheets[1].Bytes = metaText(impl.Meta{Gen: 7})
	wantOpened(t, "a greater meta without a root", s.Disk, impl.Store{Disk: s.Disk, Gen: 7})
	s.Disk.Sheets[1].Bytes = metaText(impl.Meta{Gen: 7, Root: 2})
	wantOpened(t, "a greater meta whose root is a leaf", s.Disk, impl.Store{Disk: s.Disk, Gen: 7, Tree: plant("ab"), Places: []int{2}})
}

// wrongSheets: disks with nothing waiting that aren't right, but have a meta.
func wrongSheets() map[string]impl.Disk {
	right := settled(plant("(ab cd)"), 3, 6, upFrom(2, 3)).Disk
	l := map[string]impl.Disk{"nothing": {}, "one sheet": {Sheets: right.Sheets[1:2]}}
	for _, size := range []int{401, 402, 1000} {
		d := cloneDisk(right)
		d.Sheets = append(d.Sheets, make([]impl.Sheet, size-6)...)
		l[strconv.Itoa(size)+" sheets"] = d
	}
	for i := range right.Sheets {
		for _, size := range wrongSizes() {
			d := cloneDisk(right)
			d.Sheets[i].Bytes = append(d.Sheets[i].Bytes, make([]byte, 5000)...)[:size]
			l["the sheet "+strconv.Itoa(i)+" of "+strconv.Itoa(size)+" bytes"] = d
		}
	}
	return l
}

func TestP15StoreOpenOfWrongDisks(t *testing.T) {
	for what, d := range wrongDisks() {
		wantUnread(t, what, d, 1)
	}
	for what, d := range wrongSheets() {
		wantUnread(t, what, d, 1)
	}
	s := settled(plant("(ab cd)"), 3, 6, upFrom(2, 3))
	for at := range 6 {
		wantUnread(t, "a write of what is there waits", with(s.Disk, impl.Write{At: at, Bytes: readAhead(s.Disk, at)}), 1)
	}
	wantUnread(t, "a meta waits", with(blank(2), impl.Write{At: 1, Bytes: metaText(impl.Meta{Gen: 1})}), 1)
	wantUnread(t, "without a meta something waits", with(blank(2), impl.Write{At: 1, Bytes: counted(1)}), 1)
	none := s.Disk
	none.Dirty = []impl.Write{}
	wantOpened(t, "nothing waits", none, s)
}

func TestP15StoreOpenWithoutAMeta(t *testing.T) {
	for _, size := range []int{2, 3, 400} {
		wantUnread(t, "a blank disk", blank(size), 2)
	}
	d := settled(plant("(ab cd)"), 3, 6, upFrom(2, 3)).Disk
	for _, b := range [][]byte{nil, counted(1), pageText(leafPage("a", "1")), metaText(impl.Meta{Gen: 4, Root: 2}), metaText(impl.Meta{Gen: 3, Root: 1}), metaText(impl.Meta{Gen: 3, Root: 400}), metaText(impl.Meta{Gen: 0, Root: 2})} {
		d.Sheets[1].Bytes = b
		wantUnread(t, "no meta there", d, 2)
	}
	d.Sheets[0].Bytes = metaText(impl.Meta{Gen: 3, Root: 2})
	wantUnread(t, "a meta on the wrong sheet", d, 2)
	d.Sheets[5].Bytes = metaText(impl.Meta{Gen: 3, Root: 2})
	wantUnread(t, "a meta on another sheet", d, 2)
}

func TestP15StoreOpenOfNoNodes(t *testing.T) {
	for _, size := range []int{2, 3, 400} {
		for _, gen := range []int{1, 2, 3, impl.MaxNum} {
			s := settled(impl.Tree{}, gen, size, nil)
			wantOpened(t, "Root 0", s.Disk, s)
			for root := 2; root < 400; root++ {
				s.Disk.Sheets[gen%2].Bytes = metaText(impl.Meta{Gen: gen, Root: root})
				wantUnread(t, "Root "+strconv.Itoa(root)+" of "+strconv.Itoa(size), s.Disk, 3)
			}
		}
	}
}

// Each kid in turn names each sheet there is, and some that aren't.
func TestP15StoreOpenOfOtherKids(t *testing.T) {
	s := settled(plant("((ab cd) (ef gh ij))"), 4, 15, []int{7, 3, 12, 2, 9, 5, 14, 4})
	s.Disk.Sheets[6].Bytes = metaText(impl.Meta{Gen: 9, Root: 7})
	s.Disk.Sheets[8].Bytes = counted(1)
	s.Disk.Sheets[10].Bytes = pageText(leafPage("e", "ve", "f", "vf"))
	s.Disk.Sheets[11].Bytes = slices.Concat(nodeBytes(s.Tree.Nodes[5], s.Places)[:5], counted(5)[5:])
	read := 0
	for i, n := range s.Tree.Nodes {
		for j := range n.Kids {
			for _, sheet := range append(upFrom(2, 16), 256, 398, 399) {
				d := cloneDisk(s.Disk)
				p, _ := pageIn(d.Sheets[s.Places[i]].Bytes)
				p.Kids[j] = sheet
				d.Sheets[s.Places[i]].Bytes = pageText(p)
				want, code := foundOn(d)
				if code == 0 {
					read++
					wantOpened(t, "another kid", d, want)
				} else {
					wantUnread(t, "the kid "+strconv.Itoa(j)+" of node "+strconv.Itoa(i)+" on sheet "+strconv.Itoa(sheet), d, 3)
				}
			}
		}
	}
	if read != 8 {
		t.Errorf("%d kids name the sheet of theirs or one with the same pairs, want 8", read)
	}
}

// Pages that name one another so that a reader might never end, or for long.
func TestP15StoreOpenOfRings(t *testing.T) {
	ring := func(what string, size int, kidsOf func(at int) []int) {
		t.Helper()
		d := blank(size)
		d.Sheets[1].Bytes = metaText(impl.Meta{Gen: 1, Root: 2})
		for at := 2; at < size; at++ {
			kids := kidsOf(at)
			d.Sheets[at].Bytes = pageText(branchPage([]string{"k", "l", "m"}[:len(kids)-1], kids...))
		}
		wantUnread(t, what, d, 3)
	}
	ring("a page that names itself", 3, func(int) []int { return []int{2, 2} })
	ring("two pages that name one another", 4, func(at int) []int { return []int{5 - at, 5 - at} })
	ring("a page that names itself last", 4, func(int) []int { return []int{3, 2} })
	for _, size := range []int{5, 100, 399, 400} {
		next := func(at int) int { return 2 + (at-1)%(size-2) }
		ring("a ring of all sheets", size, func(at int) []int { return []int{next(at), next(next(at))} })
		ring("a chain of all sheets", size, func(at int) []int { return []int{min(at+1, 399), min(at+2, 399)} })
		ring("the next sheet four times", size, func(at int) []int { return []int{next(at), next(at), next(at), next(at)} })
		ring("all name the first", size, func(at int) []int { return []int{2, 2, 2} })
		ring("kids that aren't there", size, func(at int) []int { return []int{min(2*at, 399), min(2*at+1, 398)} })
	}
}

// As many nodes as sheets can hold, more than any right tree has.
func TestP15StoreOpenOfManyNodes(t *testing.T) {
	d := blank(400)
	d.Sheets[0].Bytes = metaText(impl.Meta{Gen: 2, Root: 2})
	for at := 2; at < 400; at++ {
		d.Sheets[at].Bytes = pageText(leafPage(numbered(2*at), "", numbered(2*at+1), ""))
		if 2*at < 400 {
			d.Sheets[at].Bytes = pageText(branchPage([]string{"k"}, 2*at-1, 2*at))
		}
	}
	wantUnread(t, "all sheets hold nodes", d, 3)
	full := impl.Store{}
	for _, pairs := range []int{200, 202, 204} {
		tree := laid(thin(numberedPairs(pairs)))
		s := settled(tree, 1, 400, upFrom(2, 398))
		if pairs == 200 {
			wantOpened(t, "MaxPairs pairs", s.Disk, s)
			full = s
			continue
		}
		wantUnread(t, strconv.Itoa(pairs)+" pairs", s.Disk, 3)
	}
	if places := len(full.Places); places < 190 {
		t.Errorf("%d nodes are not many", places)
	}
}

// Pages that are right each for itself, but make no right tree.
func TestP15StoreOpenOfWrongTrees(t *testing.T) {
	trees := wrongTrees()
	for _, shape := range wrongShapes() {
		trees[shape] = plant(shape)
	}
	checked := 0
	for what, tree := range trees {
		places := upFrom(2, len(tree.Nodes))
		if len(places) > 398 || !isWritable(tree) {
			continue
		}
		s := settled(tree, 5, 400, places)
		want, code := foundOn(s.Disk)
		if code == 0 {
			wantOpened(t, what, s.Disk, want)
			continue
		}
		checked++
		wantUnread(t, what, s.Disk, 3)
		wantBool(t, "StoreOk of "+what, impl.StoreOk(s), false)
	}
	if checked < 25 {
		t.Errorf("%d wrong trees are too few to tell", checked)
	}
}

// isWritable: the kids of each node are nodes, and its page fits.
func isWritable(t impl.Tree) bool {
	for _, n := range t.Nodes {
		for _, kid := range n.Kids {
			if kid < 0 || kid >= len(t.Nodes) {
				return false
			}
		}
		if len(n.Pairs) > 5 || len(n.Kids) > 0 && len(n.Keys) != len(n.Kids)-1 || len(n.Kids)*len(n.Pairs) > 0 || len(n.Kids) == 0 && len(n.Keys) > 0 {
			return false
		}
	}
	return true
}

// Every page of a tree with another byte here and there, held against the tests'
// own reader.
func TestP15StoreOpenOfThrownBytes(t *testing.T) {
	throw := dice(152)
	codes := make([]int, 4)
	s := settled(plant("((ab cd) (ef gh ij))"), 4, 11, []int{7, 3, 6, 2, 9, 5, 10, 4})
	for range 20000 {
		d := cloneDisk(s.Disk)
		for range 1 + throw.below(2) {
			at := throw.below(11)
			if len(d.Sheets[at].Bytes) > 0 {
				d.Sheets[at].Bytes[throw.below(24)] = byte(throw.below(16) * throw.below(12))
			}
		}
		want, code := foundOn(d)
		codes[code]++
		if got, gotCode := impl.StoreOpen(d); gotCode != code || !sameStore(got, want) {
			t.Fatalf("code %d, %s, want %d, %s", gotCode, storeText(got), code, storeText(want))
		}
	}
	if codes[0] < 500 || codes[2] < 500 || codes[3] < 500 {
		t.Errorf("codes came so often: %s", intsText(codes))
	}
}

// wrongStores: right ones with one thing that their disk doesn't tell.
func wrongStores() map[string]impl.Store {
	right := settled(plant("((ab cd) (ef gh))"), 4, 12, []int{7, 3, 6, 2, 9, 5, 10})
	right.Disk.Sheets[11].Bytes = right.Disk.Sheets[9].Bytes
	l := map[string]impl.Store{"nothing": {}, "no disk": {Gen: 4, Tree: right.Tree, Places: right.Places}, "a disk alone": {Disk: right.Disk}}
	change := func(what string, do func(s *impl.Store)) {
		s := cloneStore(right)
		do(&s)
		l[what] = s
	}
	for _, gen := range []int{0, 1, 2, 3, 5, 6, -4, 4 + 1<<32, 4 - 1<<62, impl.MaxNum, impl.MaxNum + 1, math.MaxInt64, math.MinInt64} {
		change("Gen "+strconv.Itoa(gen), func(s *impl.Store) { s.Gen = gen })
	}
	for i := range right.Tree.Nodes {
		at := strconv.Itoa(i)
		for _, sheet := range append(farNumbers(), 0, 1, 4, 8, 11) {
			change("the place "+at+" is "+strconv.Itoa(sheet), func(s *impl.Store) { s.Places[i] = sheet })
		}
		change("the place "+at+" twice", func(s *impl.Store) { s.Places[i] = s.Places[(i+1)%7] })
		change("without the place "+at, func(s *impl.Store) { s.Places = slices.Delete(s.Places, i, i+1) })
		change("without the node "+at, func(s *impl.Store) { s.Tree.Nodes = slices.Delete(s.Tree.Nodes, i, i+1) })
		change("an empty node "+at, func(s *impl.Store) { s.Tree.Nodes[i] = impl.Node{} })
		change("a key more in "+at, func(s *impl.Store) { s.Tree.Nodes[i].Keys = append(s.Tree.Nodes[i].Keys, "z") })
		change("a kid more in "+at, func(s *impl.Store) { s.Tree.Nodes[i].Kids = append(s.Tree.Nodes[i].Kids, 6) })
		change("a pair more in "+at, func(s *impl.Store) { s.Tree.Nodes[i].Pairs = append(s.Tree.Nodes[i].Pairs, impl.Pair{Key: "z"}) })
		for j := range right.Tree.Nodes[i].Pairs {
			change("another key in "+at, func(s *impl.Store) { s.Tree.Nodes[i].Pairs[j].Key += "\x00" })
			change("another value "+strconv.Itoa(j)+" in "+at, func(s *impl.Store) { s.Tree.Nodes[i].Pairs[j].Val += "x" })
		}
		for j := range right.Tree.Nodes[i].Kids {
			change("another kid in "+at+strconv.Itoa(j), func(s *impl.Store) { s.Tree.Nodes[i].Kids[j]++ })
			change("a far kid in "+at+strconv.Itoa(j), func(s *impl.Store) { s.Tree.Nodes[i].Kids[j] += 1 << 32 })
		}
		change("the page of "+at+" is gone", func(s *impl.Store) { s.Disk.Sheets[s.Places[i]].Bytes = nil })
		change("another page of "+at, func(s *impl.Store) { s.Disk.Sheets[s.Places[i]].Bytes[4]++ })
	}
	change("a place more", func(s *impl.Store) { s.Places = append(s.Places, 4) })
	change("no places", func(s *impl.Store) { s.Places = nil })
	change("no tree", func(s *impl.Store) { s.Tree = impl.Tree{} })
	change("neither tree nor places", func(s *impl.Store) { s.Tree, s.Places = impl.Tree{}, nil })
	change("another tree", func(s *impl.Store) { s.Tree = plant("((ab cd) (ef gi))") })
	change("a tree of another shape", func(s *impl.Store) { s.Tree = plant("(abc de fgh)") })
	change("another meta", func(s *impl.Store) { s.Disk.Sheets[0].Bytes = metaText(impl.Meta{Gen: 6, Root: 7}) })
	change("another root", func(s *impl.Store) { s.Disk.Sheets[0].Bytes = metaText(impl.Meta{Gen: 4, Root: 3}) })
	change("no root", func(s *impl.Store) { s.Disk.Sheets[0].Bytes = metaText(impl.Meta{Gen: 4}) })
	change("no meta", func(s *impl.Store) { s.Disk.Sheets[0].Bytes = nil })
	change("a greater meta", func(s *impl.Store) { s.Disk.Sheets[1].Bytes = metaText(impl.Meta{Gen: 5, Root: 7}) })
	change("something waits", func(s *impl.Store) { s.Disk = with(s.Disk, impl.Write{At: 4, Bytes: counted(4)}) })
	change("a sheet of 511 bytes", func(s *impl.Store) { s.Disk.Sheets[4].Bytes = make([]byte, 511) })
	change("401 sheets", func(s *impl.Store) { s.Disk.Sheets = append(s.Disk.Sheets, make([]impl.Sheet, 389)...) })
	change("a sheet too few", func(s *impl.Store) { s.Disk.Sheets = s.Disk.Sheets[:10] })
	empty := settled(impl.Tree{}, 2, 5, nil)
	empty.Places = []int{2}
	l["a place without nodes"] = empty
	empty = settled(impl.Tree{}, 2, 5, nil)
	empty.Tree = plant("ab")
	l["a tree that isn't there"] = empty
	return l
}

func TestP15StoreOk(t *testing.T) {
	for what, s := range wrongStores() {
		wantBool(t, "StoreOk: "+what, impl.StoreOk(s), false)
	}
	for what, d := range wrongSheets() {
		wantBool(t, "StoreOk: "+what, impl.StoreOk(impl.Store{Disk: d, Gen: 3, Tree: plant("(ab cd)"), Places: upFrom(2, 3)}), false)
	}
	for _, tree := range longTrees() {
		wantBool(t, "StoreOk of a long tree", impl.StoreOk(impl.Store{Disk: settled(impl.Tree{}, 1, 5, nil).Disk, Gen: 1, Tree: tree}), false)
	}
	for _, m := range livesOf(153, 20) {
		wantBool(t, "StoreOk", impl.StoreOk(m.store), true)
	}
	s := settled(plant("ab"), 2, 4, []int{3})
	s.Disk.Dirty, s.Disk.Sheets[2].Bytes, s.Tree.Nodes[0].Keys, s.Tree.Nodes[0].Kids = []impl.Write{}, []byte{}, []string{}, []int{}
	wantBool(t, "StoreOk with lists without elements", impl.StoreOk(s), true)
	s = settled(impl.Tree{}, 2, 4, nil)
	s.Tree.Nodes, s.Places = []impl.Node{}, []int{}
	wantBool(t, "StoreOk without nodes", impl.StoreOk(s), true)
	s = settled(plant("(ab cd)"), 2, 5, upFrom(2, 3))
	s.Tree.Nodes[0].Pairs = []impl.Pair{}
	wantBool(t, "StoreOk of a branch with a list without pairs", impl.StoreOk(s), true)
}

func TestP15StoreNew(t *testing.T) {
	sizes := append(farPlaces(401), math.MaxInt32, math.MinInt32, 1<<32+2)
	for n := -3; n < 410; n++ {
		sizes = append(sizes, n)
	}
	for _, n := range sizes {
		s, ok := impl.StoreNew(n)
		if n < 2 || n > 400 {
			wantBool(t, "StoreNew of "+strconv.Itoa(n), ok, false)
			wantNoStore(t, "StoreNew of "+strconv.Itoa(n), s, 0, 0)
			continue
		}
		wantBool(t, "StoreNew of "+strconv.Itoa(n), ok, true)
		want := blank(n)
		want.Sheets[1].Bytes = metaText(impl.Meta{Gen: 1})
		wantStore(t, "StoreNew of "+strconv.Itoa(n), s, 0, impl.Store{Disk: want, Gen: 1})
		wantBool(t, "StoreOk of a new store", impl.StoreOk(s), true)
	}
}

func TestP15BatchOk(t *testing.T) {
	for _, n := range []int{0, 1, 2, 39, 40, 41, 42, 80, 400, 100000} {
		many := slices.Repeat([]impl.Edit{puts("a", "1")}, n)
		wantBool(t, "BatchOk of "+strconv.Itoa(n), impl.BatchOk(many), n <= 40)
		wantBool(t, "BatchOk of drops", impl.BatchOk(slices.Repeat([]impl.Edit{goes("a")}, n)), n <= 40)
	}
	wantBool(t, "BatchOk of nil", impl.BatchOk(nil), true)
	wantBool(t, "BatchOk of a key more than once", impl.BatchOk([]impl.Edit{puts("a", "1"), goes("a"), puts("a", "2"), puts("a", "")}), true)
	right := []impl.Edit{puts("a", ""), puts("\x00", "\x00"), puts(longKey, longVal), puts(topKey, longVal), goes(longKey), goes("\xff")}
	wantBool(t, "BatchOk of right edits", impl.BatchOk(right), true)
	for what, e := range wrongEdits() {
		wantBool(t, "BatchOk of "+what, impl.BatchOk([]impl.Edit{e}), false)
		for i := range right {
			wantBool(t, "BatchOk with "+what, impl.BatchOk(slices.Insert(slices.Clone(right), i, e)), false)
		}
		full := slices.Repeat([]impl.Edit{puts("a", "1")}, 40)
		full[39] = e
		wantBool(t, "BatchOk with, last, "+what, impl.BatchOk(full), false)
	}
}

func wrongEdits() map[string]impl.Edit {
	return map[string]impl.Edit{
		"nothing": {}, "no key": puts("", "v"), "a long key": puts(longEnd, "v"), "a longer key": puts(strings.Repeat("a", 5000), ""), "a long value": puts("a", longVal+"v"), "a longer value": puts("a", strings.Repeat("\x00", 5000)),
		"no key that goes": goes(""), "a long key that goes": goes(longEnd), "a value that goes": {Key: "a", Val: "x", Gone: true}, "a value of a byte 0 that goes": {Key: "a", Val: "\x00", Gone: true}, "a long value that goes": {Key: "a", Val: longVal + "v", Gone: true},
	}
}

func TestP15TreeEdit(t *testing.T) {
	want := func(shape, end string, l ...impl.Edit) {
		t.Helper()
		got, ok := impl.TreeEdit(plant(shape), l)
		wantTree(t, shape, got, ok, plant(end))
	}
	want("", "")
	want("abc", "abc")
	want("((ab cd) (ef gh))", "((ab cd) (ef gh))")
	want("", "a", puts("a", "va"))
	want("a", "", goes("a"))
	want("a", "a", goes("b"))
	want("", "", goes("b"))
	want("abcd", "(abc de)", puts("e", "ve"))
	want("(abc de)", "abd", goes("c"), goes("e"))
	want("(abc de)", "(abc de)", goes("e"), puts("e", "ve"))
	want("a", "b", goes("a"), puts("b", "vb"))
	want("", "", puts("b", "1"), goes("b"))
	want("", "b", puts("b", "1"), goes("b"), puts("b", "2"), puts("b", "vb"))
	want("a", "a", puts("a", "x"), puts("a", "va"))
	throw := dice(154)
	for range 600 {
		g := thin(numberedPairs(2 + 2*throw.below(100)))
		if throw.below(9) == 0 {
			g = grown{}
		}
		l := thrownEdits(&throw, throw.below(41), 1+throw.below(400))
		model, right := editModel(g, l)
		got, ok := impl.TreeEdit(laid(g), l)
		if ok != right || !sameTree(got, laid(model)) {
			t.Fatalf("%v, %+v, want %v, %+v", ok, got, right, laid(model))
		}
	}
}

func TestP15TreeEditOfAFullTree(t *testing.T) {
	full := laid(thin(numberedPairs(200)))
	for what, l := range map[string][]impl.Edit{"one more": {puts("k", "")}, "one more, then fewer": {puts("zz", "1"), goes("zz")}, "fewer, then two more": {goes(numbered(0)), puts("k", ""), puts("l", ""), goes("k")}, "a drop of no key there, one more": {goes("zz"), puts("zz", "")}} {
		got, ok := impl.TreeEdit(full, l)
		wantNoTree(t, what, got, ok)
	}
	for what, l := range map[string][]impl.Edit{"another value": {puts(numbered(0), "new")}, "fewer, then one more": {goes(numbered(0)), puts("k", "")}, "a drop of no key there": {goes("zz")}, "nothing": nil} {
		g, _ := editModel(thin(numberedPairs(200)), l)
		got, ok := impl.TreeEdit(full, l)
		wantTree(t, what, got, ok, laid(g))
	}
}

func TestP15TreeEditRefuses(t *testing.T) {
	for what, e := range wrongEdits() {
		for _, shape := range []string{"", "abc", "(abc de)"} {
			got, ok := impl.TreeEdit(plant(shape), []impl.Edit{puts("a", "1"), e})
			wantNoTree(t, what, got, ok)
		}
	}
	got, ok := impl.TreeEdit(plant("abc"), slices.Repeat([]impl.Edit{goes("z")}, 41))
	wantNoTree(t, "41 edits", got, ok)
	refused := longTrees()
	for _, tree := range wrongTrees() {
		refused = append(refused, tree)
	}
	for _, shape := range wrongShapes() {
		refused = append(refused, plant(shape))
	}
	for _, tree := range refused {
		for _, l := range [][]impl.Edit{nil, {puts("a", "1")}, {goes("a")}} {
			got, ok := impl.TreeEdit(tree, l)
			wantNoTree(t, "a wrong tree", got, ok)
		}
	}
}

func TestP15LayOfTheSameTree(t *testing.T) {
	for _, shape := range rightShapes() {
		tree := plant(shape)
		nodes := len(tree.Nodes)
		s := settled(tree, 3, nodes+2, upFrom(2, nodes))
		wantLaid(t, "the same", s, tree, s.Places, nil)
		wantLaid(t, "no nodes", s, impl.Tree{}, nil, nil)
		fresh := settled(impl.Tree{}, 3, nodes+2, nil)
		want := settled(tree, 3, nodes+2, upFrom(2, nodes))
		var ops []impl.Op
		for _, at := range want.Places {
			ops = append(ops, writes(at, want.Disk.Sheets[at].Bytes))
		}
		wantLaid(t, "over no nodes", fresh, tree, want.Places, ops)
		if nodes > 0 {
			wantNotLaid(t, "over no nodes, a sheet too few", settled(impl.Tree{}, 3, nodes+1, nil), tree)
		}
	}
}

func TestP15Lay(t *testing.T) {
	s := settled(plant("((ac eg) (ik mo))"), 4, 14, []int{7, 3, 6, 2, 9, 5, 10})
	page := func(shape string) []byte { return nodeBytes(plant(shape).Nodes[0], nil) }
	want := func(shape string, places []int, ops ...impl.Op) {
		t.Helper()
		wantLaid(t, shape, s, plant(shape), places, ops)
	}
	want("((ac eg) (ik mop))", []int{4, 3, 6, 2, 8, 5, 11}, writes(4, pageText(branchPage([]string{"i"}, 3, 8))), writes(8, pageText(branchPage([]string{"m"}, 5, 11))), writes(11, page("mop")))
	want("((abc eg) (ik mo))", []int{4, 8, 11, 2, 9, 5, 10}, writes(4, pageText(branchPage([]string{"i"}, 8, 9))), writes(8, pageText(branchPage([]string{"e"}, 11, 2))), writes(11, page("abc")))
	want("(ac eg)", []int{3, 6, 2})
	want("(ik mo)", []int{9, 5, 10})
	want("mo", []int{10})
	want("m", []int{4}, writes(4, page("m")))
	want("(ac mo)", []int{4, 6, 10}, writes(4, pageText(branchPage([]string{"m"}, 6, 10))))
	want("(ac eg ik mo)", []int{4, 6, 2, 5, 10}, writes(4, pageText(branchPage([]string{"e", "i", "m"}, 6, 2, 5, 10))))
	want("(aceg ik mo)", []int{4, 8, 5, 10}, writes(4, pageText(branchPage([]string{"i", "m"}, 8, 5, 10))), writes(8, page("aceg")))
	want("((ac eg) (ik mo) (pq rs))", []int{4, 3, 6, 2, 9, 5, 10, 8, 11, 12}, writes(4, pageText(branchPage([]string{"i", "p"}, 3, 9, 8))), writes(8, pageText(branchPage([]string{"r"}, 11, 12))), writes(11, page("pq")), writes(12, page("rs")))
	want("((ac eg) (ik mo) (pq rs tu))", []int{4, 3, 6, 2, 9, 5, 10, 8, 11, 12, 13}, writes(4, pageText(branchPage([]string{"i", "p"}, 3, 9, 8))), writes(8, pageText(branchPage([]string{"r", "t"}, 11, 12, 13))), writes(11, page("pq")), writes(12, page("rs")), writes(13, page("tu")))
	wantNotLaid(t, "a sheet too few", s, plant("((ac eg) (ik mo) (pq rs tu vw))"))
	other := plant("((ac eg) (ik mo))")
	other.Nodes[5].Pairs[1].Val = "another"
	wantLaid(t, "another value", s, other, []int{4, 3, 6, 2, 8, 11, 10}, []impl.Op{writes(4, pageText(branchPage([]string{"i"}, 3, 8))), writes(8, pageText(branchPage([]string{"m"}, 11, 10))), writes(11, pageText(leafPage("i", "vi", "k", "another")))})
}

func TestP15LayKeepsToTheSheets(t *testing.T) {
	throw := dice(155)
	for _, m := range livesOf(156, 30) {
		g, _ := editModel(regrown(m.store.Tree, 0), m.edits)
		tree := laid(g)
		_, ops, _ := layModel(m.store, tree)
		if len(m.store.Places) == 0 && len(ops) == 0 {
			continue
		}
		for spare := range 3 {
			size := 2 + len(m.store.Places) + len(ops) + spare - 1
			if size > 400 || size < 2 || size < len(m.store.Places)+2 {
				continue
			}
			s := settled(m.store.Tree, 1+throw.below(50), size, scattered(&throw, size))
			places, ops, ok := layModel(s, tree)
			wantBool(t, "there are sheets enough", ok, spare > 0)
			if !ok {
				wantNotLaid(t, "a sheet too few", s, tree)
				wantRefused(t, "a sheet too few", s, m.edits, 3)
				continue
			}
			wantLaid(t, "sheets enough", s, tree, places, ops)
		}
	}
}

// Trees that have little, some or nearly all in common with the store's.
func TestP15LayOfThrownTrees(t *testing.T) {
	throw := dice(157)
	for range 400 {
		g := thin(numberedPairs(2 + 2*throw.below(30)))
		s := settled(laid(g), 1+throw.below(9), 130, scattered(&throw, 130))
		for range throw.below(4) {
			g, _ = editModel(g, thrownEdits(&throw, throw.below(8), 70))
		}
		tree := laid(g)
		places, ops, ok := layModel(s, tree)
		wantBool(t, "there are sheets enough", ok, true)
		wantLaid(t, "a thrown tree", s, tree, places, ops)
	}
}

func TestP15LayRefuses(t *testing.T) {
	for what, s := range wrongStores() {
		wantNotLaid(t, what, s, plant("ab"))
		wantNotLaid(t, what+", no nodes", s, impl.Tree{})
		wantNotLaid(t, what+", its own tree", s, s.Tree)
	}
	right := settled(plant("(ab cd)"), 4, 400, upFrom(2, 3))
	for what, tree := range wrongTrees() {
		wantNotLaid(t, what, right, tree)
	}
	for _, shape := range wrongShapes() {
		wantNotLaid(t, shape, right, plant(shape))
	}
	for _, tree := range longTrees() {
		wantNotLaid(t, "a long tree", right, tree)
	}
}

func TestP15PlanOf(t *testing.T) {
	for _, m := range livesOf(158, 40) {
		got, code := impl.PlanOf(m.store, m.edits)
		wantPlan(t, "PlanOf", got, code, m.plan)
		store, code := impl.Commit(m.store, m.edits)
		wantStore(t, "Commit", store, code, m.next)
	}
}

func TestP15PlanOfNoEdits(t *testing.T) {
	for _, gen := range []int{1, 2, 255, impl.MaxNum - 1} {
		s := settled(plant("(ab cde)"), gen, 5, []int{4, 2, 3})
		meta := metaText(impl.Meta{Gen: gen + 1, Root: 4})
		for what, l := range map[string][]impl.Edit{"nil": nil, "none": {}, "the value that is there": {puts("a", "va")}, "a drop of no key there": {goes("z")}, "there and back": {goes("e"), puts("e", "ve")}} {
			ops, code := impl.PlanOf(s, l)
			wantPlan(t, what, ops, code, []impl.Op{syncs(), writes((gen+1)%2, meta), syncs()})
		}
		empty := settled(impl.Tree{}, gen, 2, nil)
		ops, code := impl.PlanOf(empty, nil)
		wantPlan(t, "no nodes", ops, code, []impl.Op{syncs(), writes((gen+1)%2, metaText(impl.Meta{Gen: gen + 1})), syncs()})
		last := settled(plant("a"), gen, 3, []int{2})
		ops, code = impl.PlanOf(last, []impl.Edit{goes("a")})
		wantPlan(t, "the last key goes", ops, code, []impl.Op{syncs(), writes((gen+1)%2, metaText(impl.Meta{Gen: gen + 1})), syncs()})
		gone, code := impl.Commit(last, []impl.Edit{goes("a")})
		wantBool(t, "the last key goes", code == 0 && len(gone.Tree.Nodes) == 0 && len(gone.Places) == 0 && gone.Gen == gen+1, true)
	}
}

func TestP15PlanOfTheLastGen(t *testing.T) {
	s := settled(plant("ab"), impl.MaxNum-1, 5, []int{3})
	got, code := impl.Commit(s, []impl.Edit{puts("c", "vc")})
	want := settled(plant("abc"), impl.MaxNum, 5, []int{2})
	want.Disk.Sheets[0], want.Disk.Sheets[3] = s.Disk.Sheets[0], s.Disk.Sheets[3]
	wantStore(t, "Gen MaxNum - 1", got, code, want)
	for _, l := range [][]impl.Edit{nil, {puts("d", "")}, {goes("a")}, {puts("", "")}} {
		wantRefused(t, "Gen MaxNum", got, l, 1)
	}
	wantRefused(t, "Gen MaxNum without nodes", settled(impl.Tree{}, impl.MaxNum, 2, nil), nil, 1)
}

func TestP15CodesOfPlanOf(t *testing.T) {
	for what, s := range wrongStores() {
		wantRefused(t, what, s, nil, 1)
		wantRefused(t, what, s, []impl.Edit{puts("x", "1")}, 1)
	}
	s := settled(plant("(ab cd)"), 3, 8, upFrom(2, 3))
	for what, e := range wrongEdits() {
		wantRefused(t, what, s, []impl.Edit{puts("x", "1"), e}, 1)
	}
	wantRefused(t, "41 edits", s, slices.Repeat([]impl.Edit{goes("z")}, 41), 1)
	full := thin(numberedPairs(200))
	nodes := len(laid(full).Nodes)
	tight := settled(laid(full), 3, nodes+2, upFrom(2, nodes))
	wantRefused(t, "too many pairs", settled(laid(full), 3, 400, upFrom(2, nodes)), []impl.Edit{puts("z", "")}, 2)
	wantRefused(t, "too many pairs and too few sheets", tight, []impl.Edit{puts("z", "")}, 2)
	wantRefused(t, "too few sheets", tight, []impl.Edit{puts(numbered(0), "new")}, 3)
	wantRefused(t, "too many pairs and a wrong edit", tight, []impl.Edit{puts("z", ""), puts("", "")}, 1)
	wantRefused(t, "too few sheets at the last Gen", settled(laid(full), impl.MaxNum, nodes+2, upFrom(2, nodes)), []impl.Edit{puts(numbered(0), "new")}, 1)
	wantRefused(t, "too many pairs at the last Gen", settled(laid(full), impl.MaxNum, 400, upFrom(2, nodes)), []impl.Edit{puts("z", "")}, 1)
	wantRefused(t, "no sheet for a node", settled(impl.Tree{}, 1, 2, nil), []impl.Edit{puts("a", "1")}, 3)
	for _, l := range [][]impl.Edit{nil, {goes("z")}, {goes("z"), puts(numbered(0), "0")}, {puts(numbered(0), "new"), puts(numbered(0), "0")}} {
		if _, code := impl.Commit(tight, l); code != 0 {
			t.Errorf("a commit that changes nothing needs no sheet: code %d", code)
		}
	}
}

// thrownOps: right operations, syncs often enough that few writes wait.
func thrownOps(d *dice, sheets, size int) []impl.Op {
	l := make([]impl.Op, size)
	for i := range l {
		l[i] = writes(d.below(sheets), thrownSheet(d))
		l[i].Sync = d.below(4) == 0
	}
	return l
}

func TestP15DoOps(t *testing.T) {
	throw := dice(159)
	for _, d := range thrownDisks(1590) {
		l := thrownOps(&throw, len(d.Sheets), throw.below(20))
		wantDisk(t, "DoOps", impl.DoOps(d, l), true, doneOn(d, l))
		step := d
		for _, o := range l {
			if o.Sync {
				step = impl.DiskSync(step)
			} else {
				step, _ = impl.DiskWrite(step, o.Write.At, o.Write.Bytes)
			}
		}
		wantDisk(t, "one operation behind the other", impl.DoOps(d, l), true, step)
	}
	d := diskOf(counted(0), nil, counted(2))
	wantDisk(t, "no operations", impl.DoOps(d, nil), true, d)
	wantDisk(t, "a write", impl.DoOps(d, []impl.Op{writes(1, counted(1))}), true, with(d, impl.Write{At: 1, Bytes: counted(1)}))
	wantDisk(t, "a write and a sync", impl.DoOps(d, []impl.Op{writes(1, counted(1)), syncs()}), true, diskOf(counted(0), counted(1), counted(2)))
	wantDisk(t, "two writes to a sheet", impl.DoOps(d, []impl.Op{writes(1, counted(1)), writes(1, counted(9)), syncs(), writes(1, counted(5))}), true, with(diskOf(counted(0), counted(9), counted(2)), impl.Write{At: 1, Bytes: counted(5)}))
	waiting := with(d, impl.Write{At: 0, Bytes: counted(7)})
	wantDisk(t, "no operations, something waits", impl.DoOps(waiting, []impl.Op{}), true, waiting)
	wantDisk(t, "a sync of what waited", impl.DoOps(waiting, []impl.Op{syncs(), syncs()}), true, diskOf(counted(7), nil, counted(2)))
	for _, at := range append(farPlaces(3), 0) {
		for _, size := range append(wrongSizes(), 0, 512) {
			wrong := impl.Op{Sync: true, Write: impl.Write{At: at, Bytes: make([]byte, size)}}
			wantDisk(t, "a sync with a write", impl.DoOps(waiting, []impl.Op{wrong}), true, diskOf(counted(7), nil, counted(2)))
		}
	}
}

func TestP15DoOpsRefuses(t *testing.T) {
	for what, d := range wrongDisks() {
		for _, l := range [][]impl.Op{nil, {syncs()}, {writes(1, counted(1))}, {writes(1, counted(1)), syncs()}} {
			wantNoDisk(t, "DoOps of "+what, impl.DoOps(d, l), false)
		}
	}
	for what, d := range wrongSheets() {
		wantNoDisk(t, "DoOps of "+what, impl.DoOps(d, []impl.Op{syncs()}), false)
		wantNoDisk(t, "DoOps of "+what, impl.DoOps(d, nil), false)
	}
	d := with(diskOf(counted(0), nil, counted(2)), impl.Write{At: 0, Bytes: counted(7)})
	refuse := func(what string, wrong impl.Op) {
		t.Helper()
		for _, l := range [][]impl.Op{{wrong}, {wrong, syncs()}, {syncs(), wrong}, {writes(1, counted(1)), wrong, writes(2, counted(1)), syncs()}} {
			wantNoDisk(t, what, impl.DoOps(d, l), false)
		}
	}
	for _, at := range farPlaces(3) {
		refuse("a write to "+strconv.Itoa(at), writes(at, counted(1)))
	}
	for _, size := range append(wrongSizes(), 0) {
		refuse("a write of "+strconv.Itoa(size), writes(1, make([]byte, size)))
	}
	refuse("nothing", impl.Op{})
}

func TestP15DoOpsKeepsToMaxDirty(t *testing.T) {
	for _, waiting := range []int{0, 1, 499, 500} {
		d := dirty(3, waiting)
		for _, more := range []int{0, 1, 499, 500, 501, 1000} {
			l := slices.Repeat([]impl.Op{writes(2, counted(7))}, more)
			got := impl.DoOps(d, l)
			synced := impl.DoOps(d, slices.Concat([]impl.Op{syncs()}, l))
			if waiting+more <= 500 {
				wantDisk(t, strconv.Itoa(more)+" writes behind "+strconv.Itoa(waiting), got, true, doneOn(d, l))
			} else {
				wantNoDisk(t, strconv.Itoa(more)+" writes behind "+strconv.Itoa(waiting), got, false)
				wantNoDisk(t, "too many writes and a sync", impl.DoOps(d, append(l, syncs())), false)
			}
			if more <= 500 {
				wantDisk(t, "writes behind a sync", synced, true, doneOn(impl.DiskSync(d), l))
			} else {
				wantNoDisk(t, "too many writes behind a sync", synced, false)
			}
		}
	}
	l := slices.Repeat([]impl.Op{writes(0, counted(1)), writes(1, counted(2)), syncs()}, 20000)
	wantDisk(t, "many operations", impl.DoOps(blank(400), l), true, impl.DoOps(blank(400), l[:3]))
}

func TestP15CommitCrash(t *testing.T) {
	throw := dice(1600)
	for i, m := range livesOf(160, 15) {
		size := len(m.plan)
		counts := append(upFrom(-2, size+5), math.MinInt64, math.MinInt64+1, -1<<32, 1<<32, 1<<32+1, math.MaxInt64-1, math.MaxInt64)
		if len(m.store.Disk.Sheets) > 50 {
			counts = []int{0, 1, i % size, size - 1, size, math.MinInt64, math.MaxInt64}
		}
		for _, n := range counts {
			done := doneOn(m.store.Disk, m.plan[:min(max(n, 0), size)])
			for _, keep := range [][]int{nil, {}, {0}, {512}, {-1, 513, 100}, slices.Repeat([]int{512}, 600), thrownKeep(&throw, size), thrownKeep(&throw, throw.below(size))} {
				d, code := impl.CommitCrash(m.store, m.edits, n, keep)
				wantDisk(t, strconv.Itoa(n)+" of "+strconv.Itoa(size), d, code == 0, crashed(done, keep))
			}
		}
	}
}

// spansOf are the pieces of memory, up to their room, of all lists in a value.
func spansOf(v reflect.Value, l [][2]uintptr) [][2]uintptr {
	switch v.Kind() {
	case reflect.Struct:
		for i := range v.NumField() {
			l = spansOf(v.Field(i), l)
		}
	case reflect.Slice:
		if size := uintptr(v.Cap()) * v.Type().Elem().Size(); size > 0 {
			l = append(l, [2]uintptr{v.Pointer(), v.Pointer() + size})
		}
		for i := range v.Len() {
			l = spansOf(v.Index(i), l)
		}
	}
	return l
}

func sharesMemory(values ...any) bool {
	var l [][2]uintptr
	for _, v := range values {
		l = spansOf(reflect.ValueOf(v), l)
	}
	slices.SortFunc(l, func(a, b [2]uintptr) int { return slices.Compare(a[:], b[:]) })
	for i := 1; i < len(l); i++ {
		if l[i][0] < l[i-1][1] {
			return true
		}
	}
	return false
}

// allOf writes out a value with all that its lists hold and, with room, have
// room for.
func allOf(v reflect.Value, room bool, b *strings.Builder) {
	switch v.Kind() {
	case reflect.Struct:
		for i := range v.NumField() {
			allOf(v.Field(i), room, b)
		}
	case reflect.Slice:
		if room {
			v = v.Slice(0, v.Cap())
		}
		b.WriteString("[" + strconv.Itoa(v.Len()))
		for i := range v.Len() {
			allOf(v.Index(i), room, b)
		}
	case reflect.String:
		b.WriteString(strconv.Quote(v.String()))
	case reflect.Bool:
		b.WriteString(strconv.FormatBool(v.Bool()))
	case reflect.Uint8:
		b.WriteByte(byte(v.Uint()))
	case reflect.Int:
		b.WriteString(strconv.FormatInt(v.Int(), 10) + ",")
	default:
		panic("a kind that no answer has: " + v.Kind().String())
	}
}

func allText(room bool, values ...any) string {
	var b strings.Builder
	for _, v := range values {
		allOf(reflect.ValueOf(v), room, &b)
	}
	return b.String()
}

// given is what the functions of stores are given, each list with room behind it.
type given struct {
	Store impl.Store
	Tree  impl.Tree
	Edits []impl.Edit
	Ops   []impl.Op
	Keep  []int
}

func givenOf(s impl.Store, t impl.Tree, edits []impl.Edit, ops []impl.Op) given {
	var roomy []impl.Op
	for _, o := range ops {
		roomy = append(roomy, impl.Op{Sync: o.Sync, Write: impl.Write{At: o.Write.At, Bytes: marked(o.Write.Bytes, 'R')}})
	}
	return given{
		Store: impl.Store{Disk: diskWithRoom(s.Disk), Gen: s.Gen, Tree: withRoom(s.Tree), Places: marked(s.Places, -7)},
		Tree:  withRoom(t), Edits: marked(edits, puts("mark", "")), Ops: marked(roomy, impl.Op{Write: impl.Write{At: -7}}), Keep: marked([]int{100, 0, 512, -1}, -7),
	}
}

// answers: all that the chapter's functions answer, a list of what one call does.
func answers(g given) map[string][]any {
	opened, _ := impl.StoreOpen(g.Store.Disk)
	edited, _ := impl.TreeEdit(g.Tree, g.Edits)
	same, _ := impl.TreeEdit(g.Tree, nil)
	places, laid, _ := impl.Lay(g.Store, g.Tree)
	own, none, _ := impl.Lay(g.Store, g.Store.Tree)
	ops, _ := impl.PlanOf(g.Store, g.Edits)
	store, _ := impl.Commit(g.Store, g.Edits)
	unchanged, _ := impl.Commit(g.Store, nil)
	fresh, _ := impl.StoreNew(5)
	all := map[string][]any{
		"StoreOpen": {opened}, "TreeEdit": {edited}, "TreeEdit of no edits": {same}, "Lay": {places, laid}, "Lay of its own tree": {own, none}, "PlanOf": {ops}, "Commit": {store}, "Commit of no edits": {unchanged},
		"StoreNew": {fresh}, "DoOps": {impl.DoOps(g.Store.Disk, g.Ops)}, "DoOps of no operations": {impl.DoOps(g.Store.Disk, nil)},
	}
	for _, n := range []int{-1, 0, 1, 2, 1000} {
		d, _ := impl.CommitCrash(g.Store, g.Edits, n, g.Keep)
		all["CommitCrash behind "+strconv.Itoa(n)] = []any{d}
	}
	impl.StoreOk(g.Store)
	impl.BatchOk(g.Edits)
	return all
}

// askTwice tells what calls answer, by call. Called again they answer the same, in
// memory of its own, and they change no argument.
func askTwice(t *testing.T, what string, ask func() map[string][]any, args ...any) map[string][]any {
	t.Helper()
	before := allText(true, args...)
	first, second := ask(), ask()
	if allText(true, args...) != before {
		t.Errorf("%s: an argument is changed", what)
	}
	for name, answer := range first {
		if allText(false, answer...) != allText(false, second[name]...) {
			t.Errorf("%s: a second %s answers another thing", what, name)
		}
		if sharesMemory(slices.Concat(answer, second[name])...) {
			t.Errorf("%s: of %s two lists share memory", what, name)
		}
	}
	return first
}

// wantApart: no answer shares memory with an argument. The arguments may share
// some with one another.
func wantApart(t *testing.T, what string, answers map[string][]any, args ...any) {
	t.Helper()
	for name, answer := range answers {
		for _, arg := range args {
			if sharesMemory(slices.Concat(answer, []any{arg})...) {
				t.Errorf("%s: %s shares memory with an argument", what, name)
			}
		}
	}
}

func checkAnswers(t *testing.T, what string, g given) {
	t.Helper()
	told := askTwice(t, what, func() map[string][]any { return answers(g) }, g)
	wantApart(t, what, told, g.Store, g.Tree, g.Edits, g.Ops, g.Keep)
}

func TestP15StoresAreNewMemory(t *testing.T) {
	throw := dice(161)
	for i, m := range livesOf(162, 8) {
		g, _ := editModel(regrown(m.store.Tree, 0), m.edits)
		ops := thrownOps(&throw, len(m.store.Disk.Sheets), 12)
		checkAnswers(t, "the moment "+strconv.Itoa(i), givenOf(m.store, laid(g), m.edits, ops))
	}
}

// The lists of an argument may be one piece of memory; those of an answer not.
func TestP15StoresOfOneMemoryAreApart(t *testing.T) {
	s := settled(plant("((ab cd) (ef gh))"), 4, 14, []int{7, 4, 6, 2, 3, 5, 10})
	s.Disk.Sheets[9].Bytes, s.Disk.Sheets[8].Bytes = s.Disk.Sheets[7].Bytes, s.Disk.Sheets[0].Bytes
	s.Tree.Nodes[1].Kids = s.Places[3:5]
	b := counted(5)
	g := given{Store: s, Tree: s.Tree, Edits: []impl.Edit{puts("x", "1")}, Ops: []impl.Op{writes(4, b), writes(5, b), syncs(), writes(4, b), writes(4, b)}}
	before := allText(true, g)
	wantBool(t, "StoreOk of one memory", impl.StoreOk(s), true)
	for name, answer := range answers(g) {
		if sharesMemory(slices.Concat(answer, []any{b})...) {
			t.Errorf("of %s two lists share memory", name)
		}
	}
	if allText(true, g) != before {
		t.Error("an argument is changed")
	}
}

func TestP15RefusalsChangeNoStore(t *testing.T) {
	for what, s := range wrongStores() {
		g := givenOf(s, plant("(ab cd)"), []impl.Edit{puts("x", "1"), goes("a")}, []impl.Op{writes(1, counted(1)), writes(99, counted(1))})
		before := allText(true, g)
		answers(g)
		if allText(true, g) != before {
			t.Errorf("an argument is changed: %s", what)
		}
	}
	for what, e := range wrongEdits() {
		g := givenOf(settled(plant("(ab cd)"), 3, 8, upFrom(2, 3)), plant("(a bc)"), []impl.Edit{puts("x", "1"), e}, []impl.Op{{}})
		before := allText(true, g)
		answers(g)
		if allText(true, g) != before {
			t.Errorf("an argument is changed: %s", what)
		}
	}
}
