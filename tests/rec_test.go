package tests

import (
	"maps"
	"math"
	"regexp"
	"slices"
	"strconv"
	"strings"
	"testing"

	"loop.example/g00392/impl"
)

func wrote(k, v string) impl.Rec { return impl.Rec{Kind: 1, Key: k, Val: v} }

func took(k string) impl.Rec { return impl.Rec{Kind: 2, Key: k} }

func sharing(lo, hi string) impl.Rec { return impl.Rec{Kind: 3, Range: impl.Range{Lo: lo, Hi: hi}} }

func barring(lo, hi string) impl.Rec { return impl.Rec{Kind: 4, Range: impl.Range{Lo: lo, Hi: hi}} }

func isUser(k string) bool { return k != "" && len(k) < 9 }

func isUval(v string) bool { return len(v) < 21 }

func isReach(r impl.Range) bool { return rightRange(r) && max(len(r.Lo), len(r.Hi)) < 10 }

// rightRec: a record is the same as one built of nothing but the parts of its
// kind, and these are right.
func rightRec(r impl.Rec) bool {
	switch r {
	case wrote(r.Key, r.Val):
		return isUser(r.Key) && isUval(r.Val)
	case took(r.Key):
		return isUser(r.Key)
	case sharing(r.Range.Lo, r.Range.Hi), barring(r.Range.Lo, r.Range.Hi):
		return isReach(r.Range)
	}
	return false
}

// recText is the text of a right record, whose parts all have one byte of length.
func recText(r impl.Rec) string {
	parts := [][]string{nil, {r.Key, r.Val}, {r.Key}, {r.Range.Lo, r.Range.Hi}, {r.Range.Lo, r.Range.Hi}}[r.Kind]
	s := " wgsx"[r.Kind : r.Kind+1]
	for _, p := range parts {
		s += string(rune(len(p))) + p
	}
	return s
}

// recIn reads a text from its front, where the program writes what it read again.
func recIn(s string) (impl.Rec, bool) {
	if s == "" {
		return impl.Rec{}, false
	}
	var parts []string
	for rest := s[1:]; rest != ""; {
		size := int(rest[0])
		if size > 20 || size >= len(rest) {
			return impl.Rec{}, false
		}
		parts, rest = append(parts, rest[1:1+size]), rest[1+size:]
	}
	var r impl.Rec
	switch s[:1] + strconv.Itoa(len(parts)) {
	case "w2":
		r = wrote(parts[0], parts[1])
	case "g1":
		r = took(parts[0])
	case "s2":
		r = sharing(parts[0], parts[1])
	case "x2":
		r = barring(parts[0], parts[1])
	}
	if !rightRec(r) {
		return impl.Rec{}, false
	}
	return r, true
}

func rightPrep(p impl.Prep) bool {
	return rightName(p.Tx) && len(p.Recs) <= 16 && !slices.ContainsFunc(p.Recs, func(r impl.Rec) bool { return !rightRec(r) })
}

// editsOf is what PrepEdits must answer.
func editsOf(p impl.Prep) []impl.Edit {
	if !rightPrep(p) {
		return nil
	}
	l := make([]impl.Edit, 0, 17)
	for i, r := range p.Recs {
		l = append(l, puts("p"+dotted(p.Tx)+"."+strconv.Itoa(i), recText(r)))
	}
	return append(l, puts("h"+strconv.Itoa(p.Tx.C), dotted(p.Tx)))
}

var keptForm = regexp.MustCompile(`^p([0-7]\.[1-9][0-9]?[0-9]?\.[1-9][0-9]?[0-9]?)\.([0-9]|1[0-5])$`)

// keptIn tells the name and the number of a pair that counts.
func keptIn(p impl.Pair) (string, int, bool) {
	m := keptForm.FindStringSubmatch(p.Key)
	_, right := recIn(p.Val)
	if m == nil || !right {
		return "", 0, false
	}
	n, _ := strconv.Atoi(m[2])
	return m[1], n, true
}

// prepsIn is what Preps must answer of a tree with these pairs.
func prepsIn(pairs []impl.Pair) []impl.Prep {
	found := map[string][]impl.Rec{}
	for _, p := range pairs {
		if name, n, ok := keptIn(p); ok {
			if found[name] == nil {
				found[name] = make([]impl.Rec, 16)
			}
			found[name][n], _ = recIn(p.Val)
		}
	}
	var l []impl.Prep
	for _, name := range slices.Sorted(maps.Keys(found)) {
		x, _ := nameIn(name)
		recs := slices.DeleteFunc(found[name], func(r impl.Rec) bool { return r.Kind == 0 })
		l = append(l, impl.Prep{Tx: x, Recs: recs})
	}
	return l
}

// endsIn is what EndEdits must answer of a tree with these pairs.
func endsIn(pairs []impl.Pair, x impl.Tx, yes bool) []impl.Edit {
	var l []impl.Edit
	for _, p := range prepsIn(pairs) {
		for _, r := range p.Recs {
			switch {
			case !yes || p.Tx != x:
			case r.Kind == 1:
				l = append(l, puts("d"+r.Key, r.Val))
			case r.Kind == 2:
				l = append(l, goes("d"+r.Key))
			}
		}
	}
	for _, p := range pairs {
		if name, _, ok := keptIn(p); ok && name == dotted(x) {
			l = append(l, goes(p.Key))
		}
	}
	return l
}

// lastIn is what LastOf must answer of a tree with these pairs.
func lastIn(pairs []impl.Pair, c int) impl.Tx {
	key := "h"
	if c <= 1<<40-1 {
		key += strconv.Itoa(c)
	}
	for _, p := range pairs {
		if p.Key == key && c >= 0 {
			x, _ := nameIn(p.Val)
			return x
		}
	}
	return impl.Tx{}
}

func samePreps(a, b []impl.Prep) bool {
	return slices.EqualFunc(a, b, func(p, q impl.Prep) bool { return p.Tx == q.Tx && slices.Equal(p.Recs, q.Recs) })
}

func wantRec(t *testing.T, s string, want impl.Rec, right bool) {
	t.Helper()
	if got, ok := impl.TextRec(s); got != want || ok != right {
		t.Errorf("TextRec(%q) is %#v, %v, want %#v, %v", s, got, ok, want, right)
	}
}

func checkRecIn(t *testing.T, s string) {
	t.Helper()
	want, right := recIn(s)
	wantRec(t, s, want, right)
}

func wantRecText(t *testing.T, r impl.Rec, want string) {
	t.Helper()
	if got := impl.RecText(r); got != want {
		t.Errorf("RecText(%#v) is %q, want %q", r, got, want)
	}
}

func wantEdits(t *testing.T, what string, got []impl.Edit, want ...impl.Edit) {
	t.Helper()
	if !slices.Equal(got, want) {
		t.Errorf("%s: %+q, want %+q", what, editTexts(got), editTexts(want))
	}
}

func editTexts(l []impl.Edit) []string {
	var words []string
	for _, e := range l {
		if e.Gone {
			words = append(words, "-"+e.Key+e.Val)
		} else {
			words = append(words, e.Key+"="+e.Val)
		}
	}
	return words
}

func wantPreps(t *testing.T, what string, tree impl.Tree, want ...impl.Prep) {
	t.Helper()
	if got := impl.Preps(tree); !samePreps(got, want) {
		t.Errorf("%s: Preps is %#v, want %#v", what, got, want)
	}
}

func wantEnds(t *testing.T, what string, tree impl.Tree, x impl.Tx, yes bool, want ...impl.Edit) {
	t.Helper()
	wantEdits(t, what+": EndEdits of "+dotted(x)+", "+strconv.FormatBool(yes), impl.EndEdits(tree, x, yes), want...)
}

func wantLast(t *testing.T, what string, tree impl.Tree, c int, want impl.Tx) {
	t.Helper()
	if got := impl.LastOf(tree, c); got != want {
		t.Errorf("%s: LastOf of %d is %v, want %v", what, c, got, want)
	}
}

// treeWith is the tree that the tests' own puts make; a key that comes again
// has its last value.
func treeWith(pairs ...impl.Pair) impl.Tree {
	var g grown
	for _, p := range pairs {
		g = g.rootPut(p)
	}
	return laid(g)
}

func pair(k, v string) impl.Pair { return impl.Pair{Key: k, Val: v} }

// readyTree is a tree with these pairs in which these transactions were made
// ready, one behind the other, by the tests' own edits.
func readyTree(pairs []impl.Pair, preps ...impl.Prep) impl.Tree {
	all := slices.Clone(pairs)
	for _, p := range preps {
		for _, e := range editsOf(p) {
			all = append(all, pair(e.Key, e.Val))
		}
	}
	return treeWith(all...)
}

func prepOf(name string, recs ...impl.Rec) impl.Prep {
	x, _ := nameIn(name)
	return impl.Prep{Tx: x, Recs: recs}
}

// checkTree holds all that the chapter tells of a right tree against the models.
func checkTree(t *testing.T, what string, tree impl.Tree, names ...impl.Tx) {
	t.Helper()
	pairs := regrown(tree, 0).all()
	preps := prepsIn(pairs)
	wantPreps(t, what, tree, preps...)
	for _, p := range preps {
		names = append(names, p.Tx)
	}
	for _, x := range names {
		wantEnds(t, what, tree, x, true, endsIn(pairs, x, true)...)
		wantEnds(t, what, tree, x, false, endsIn(pairs, x, false)...)
	}
	for _, c := range someCoords() {
		wantLast(t, what, tree, c, lastIn(pairs, c))
	}
}

// someCoords: those that there are, those beside them, and far ones.
func someCoords() []int {
	return []int{0, 1, 2, 3, 4, 5, 6, 7, 8, 9, 10, 70, 999, impl.MaxNum - 1, impl.MaxNum, impl.MaxNum + 1, impl.MaxNum + 2, 1<<32 + 1, 1 << 41, math.MaxInt64 - 1, math.MaxInt64,
		-1, -2, -7, -impl.MaxNum, -1 << 32, math.MinInt64, math.MinInt64 + 1}
}

var (
	longUser = "abcdefgh"
	topUser  = strings.Repeat("\xff", 8)
	longUval = strings.Repeat("v", 20)
	topUval  = strings.Repeat("\xff", 20)
)

func someUsers() []string {
	return []string{"a", "b", "\x00", "\x01", "\xff", ".", "w\x01", "a\x00", "\x00\x00", "\xc3\xa9", "%\"", longUser[:7], longUser, topUser, strings.Repeat("\x00", 8), strings.Repeat("\x01", 8)}
}

func someUvals() []string {
	return []string{"", "x", "\x00", "\x14", "\x80\x00", "\xc3\xa9", longUval[:19], longUval, topUval, strings.Repeat("\x00", 20), "w\x01a\x01x"}
}

// someReachEnds: ends of ranges that clients may have.
func someReachEnds() []string {
	return []string{"", "\x00", "a", "a\x00", "b", "\x80", "\xff", "\xff\x00", longUser, longUser + "\x00", longUser + "i", topUser, topUser + "\x00", topUser + "\xff"}
}

func someReaches() []impl.Range {
	var l []impl.Range
	for _, lo := range someReachEnds() {
		for _, hi := range someReachEnds() {
			if hi == "" || strings.Compare(lo, hi) < 0 {
				l = append(l, impl.Range{Lo: lo, Hi: hi})
			}
		}
	}
	return l
}

// rightRecs: of each kind, with all parts that are told above.
func rightRecs() []impl.Rec {
	var l []impl.Rec
	for _, k := range someUsers() {
		l = append(l, took(k))
		for _, v := range someUvals() {
			l = append(l, wrote(k, v))
		}
	}
	for _, r := range someReaches() {
		l = append(l, sharing(r.Lo, r.Hi), barring(r.Lo, r.Hi))
	}
	return l
}

// wrongRecs: each is wrong in one way.
func wrongRecs() []impl.Rec {
	r := impl.Range{Lo: "a", Hi: "b"}
	l := []impl.Rec{{}, {Key: "a"}, {Key: "a", Val: "x"}, {Range: r}, wrote("", "x"), wrote("", ""), wrote(longUser+"i", "x"), wrote("a", longUval+"v"), took(""), took(longUser + "i"),
		{Kind: 1, Key: "a", Val: "x", Range: r}, {Kind: 1, Key: "a", Range: impl.Range{Lo: "a"}}, {Kind: 1, Key: "a", Range: impl.Range{Hi: "a"}}, {Kind: 1, Range: r},
		{Kind: 2, Key: "a", Val: "x"}, {Kind: 2, Key: "a", Range: impl.Range{Lo: "a"}}, {Kind: 2, Key: "a", Range: impl.Range{Hi: "a"}}, {Kind: 2, Range: r}}
	for _, kind := range []int{3, 4} {
		l = append(l, impl.Rec{Kind: kind, Range: r, Key: "a"}, impl.Rec{Kind: kind, Range: r, Val: "x"}, impl.Rec{Kind: kind, Key: "a"}, impl.Rec{Kind: kind, Key: "a", Val: "x"})
		for _, wrong := range wrongReaches() {
			l = append(l, impl.Rec{Kind: kind, Range: wrong})
		}
	}
	for _, kind := range wrongKinds() {
		l = append(l, impl.Rec{Kind: kind}, impl.Rec{Kind: kind, Key: "a"}, impl.Rec{Kind: kind, Key: "a", Val: "x"}, impl.Rec{Kind: kind, Range: r})
	}
	return l
}

func wrongKinds() []int {
	return []int{-1, 0, 5, 6, -2, 'w', 'g', 's', 'x', 256 + 1, 65536 + 2, 1<<32 + 3, -1<<32 + 4, math.MinInt64, math.MinInt64 + 1, math.MaxInt64, math.MaxInt64 - 1}
}

// wrongReaches: those that are too long for clients, and those that are no ranges.
func wrongReaches() []impl.Range {
	long := longUser + "ij"
	l := []impl.Range{{Lo: long}, {Hi: long}, {Lo: "a", Hi: long}, {Lo: long, Hi: "z"}, {Lo: long, Hi: long + "k"}, {Lo: topUser + "\xff\xff"}, {Lo: longKey}, {Hi: longKey}, {Lo: longEnd}, {Hi: longEnd},
		{Lo: "b", Hi: "a"}, {Lo: "a", Hi: "a"}, {Lo: "a\x00", Hi: "a"}, {Lo: longUser + "i", Hi: longUser + "i"}, {Lo: "\x80", Hi: "\x7f"}}
	return append(l, wrongRanges()...)
}

func thrownRec(d *dice) impl.Rec {
	k := thrownText(d, 8)
	lo, hi := thrownText(d, 10)[1:], thrownText(d, 10)[1:]
	if lo >= hi {
		hi = ""
	}
	return []impl.Rec{wrote(k, thrownText(d, 21)[1:]), took(k), sharing(lo, hi), barring(lo, hi)}[d.below(4)]
}

func thrownRecs(d *dice, size int) []impl.Rec {
	var l []impl.Rec
	for range size {
		l = append(l, thrownRec(d))
	}
	return l
}

func TestP12RecordsAreReadAsWritten(t *testing.T) {
	seen := map[string]impl.Rec{}
	for _, r := range rightRecs() {
		s := impl.RecText(r)
		wantRecText(t, r, recText(r))
		wantRec(t, s, r, true)
		if other, there := seen[s]; there {
			t.Errorf("%#v and %#v have one text", r, other)
		}
		seen[s] = r
	}
	throw := dice(801)
	for range 20000 {
		r := thrownRec(&throw)
		wantRecText(t, r, recText(r))
		wantRec(t, recText(r), r, true)
	}
}

// Each text that is one byte away from that of a record is read as it stands.
func TestP12OneFormOfARecordAloneIsRead(t *testing.T) {
	for _, r := range []impl.Rec{wrote("a", "x"), wrote("ab", ""), wrote(longUser, longUval), took("a"), took(longUser), sharing("a", "b"), sharing("", ""), sharing("a", ""), barring("", "b"),
		barring(longUser, longUser+"\x00"), barring("\xff", "")} {
		s := recText(r)
		for i := range len(s) + 1 {
			checkRecIn(t, s[:i])
			checkRecIn(t, s[i:])
			for c := range 256 {
				checkRecIn(t, s[:i]+string([]byte{byte(c)})+s[i:])
				if i < len(s) {
					checkRecIn(t, s[:i]+string([]byte{byte(c)})+s[i+1:])
				}
			}
			if i < len(s) {
				checkRecIn(t, s[:i]+s[i+1:])
			}
		}
	}
}

func TestP12ThrownTextsAreReadAsTheyStand(t *testing.T) {
	throw := dice(802)
	read := 0
	for range 200000 {
		b := make([]byte, throw.below(9))
		for i := range b {
			b[i] = "wgsx\x00\x01\x02ab"[throw.below(9)]
		}
		checkRecIn(t, string(b))
		if _, ok := recIn(string(b)); ok {
			read++
		}
	}
	if read < 1000 {
		t.Errorf("only %d texts of records", read)
	}
}

// otherData: pairs of all the kinds that a shard's tree has, none of them of the
// transactions that the tests make ready.
func otherData(size int) []impl.Pair {
	l := []impl.Pair{pair("da", "1"), pair("dp1.2.3", "2"), pair("h0", "0.1.1"), pair("h7", "7.2.2"), pair("e5", "")}
	for i := range size {
		l = append(l, pair("d"+numbered(i), strconv.Itoa(i)), pair("z"+numbered(i), ""))
	}
	return l
}

func TestP12WhatPrepEditsPutsIsReadByPreps(t *testing.T) {
	throw := dice(803)
	for size := range 17 {
		for _, x := range append(manyNames(5), nameOf(4), nameOf(7), nameOf(8), impl.Tx{C: 1, E: 10, N: 100}) {
			p := impl.Prep{Tx: x, Recs: thrownRecs(&throw, size)}
			for _, data := range [][]impl.Pair{nil, otherData(0), otherData(40)} {
				tree, ok := impl.TreeEdit(treeWith(data...), impl.PrepEdits(p))
				wantBool(t, "TreeEdit of PrepEdits", ok, true)
				if size == 0 {
					wantPreps(t, "no records", tree)
				} else {
					wantPreps(t, strconv.Itoa(size)+" records", tree, p)
				}
				wantLast(t, "made ready", tree, x.C, x)
				for _, q := range data {
					if q.Key != "h"+strconv.Itoa(x.C) {
						wantGet(t, tree, q.Key, q.Val, true)
					}
				}
			}
		}
	}
}

func TestP12PrepsOfSeveralAreReadAsWritten(t *testing.T) {
	throw := dice(804)
	for range 300 {
		tree := treeWith(otherData(throw.below(20))...)
		ready := map[string]impl.Prep{}
		last := map[int]impl.Tx{0: {C: 0, E: 1, N: 1}, 7: {C: 7, E: 2, N: 2}}
		for range throw.below(8) {
			p := impl.Prep{Tx: impl.Tx{C: throw.below(8), E: 1 + throw.below(12), N: 1 + throw.below(999)}, Recs: thrownRecs(&throw, 1+throw.below(16))}
			if _, there := ready[dotted(p.Tx)]; there {
				continue
			}
			ready[dotted(p.Tx)], last[p.Tx.C] = p, p.Tx
			tree, _ = impl.TreeEdit(tree, impl.PrepEdits(p))
		}
		var want []impl.Prep
		for _, name := range slices.Sorted(maps.Keys(ready)) {
			want = append(want, ready[name])
		}
		wantPreps(t, "several", tree, want...)
		for c := range 8 {
			wantLast(t, "several", tree, c, last[c])
		}
	}
}

// shardStore is the store of these pairs on a disk of the tests' own.
func shardStore(pairs ...impl.Pair) impl.Store {
	tree := treeWith(pairs...)
	return settled(tree, 4, 300, upFrom(2, len(tree.Nodes)))
}

// somePreps: locks and writes of each kind, of few records and of many.
func somePreps() []impl.Prep {
	throw := dice(805)
	many := []impl.Rec{barring("a", "a\x00")}
	for i := range 15 {
		many = append(many, []impl.Rec{wrote("k"+strconv.Itoa(i), "new"), took("k" + strconv.Itoa(14-i)), barring("k", "l")}[i%3])
	}
	return []impl.Prep{prepOf("1.2.3", wrote("a", "new"), barring("a", "a\x00")), prepOf("1.2.3", took("a")), prepOf("0.1.2", sharing("", "")), prepOf("7.999.999", many...),
		prepOf("2.10.100", thrownRecs(&throw, 16)...), prepOf("3.1.1", wrote("a", "1"), took("a"), wrote("a", "2"), took("a"), sharing("a", ""))}
}

func TestP4WhatWasMadeReadyOutlivesACrash(t *testing.T) {
	for _, p := range somePreps() {
		s, code := impl.Commit(shardStore(otherData(12)...), impl.PrepEdits(p))
		if code != 0 {
			t.Fatalf("Commit of PrepEdits has code %d", code)
		}
		lost, _ := impl.DiskWrite(s.Disk, 2, counted(1))
		lost, _ = impl.DiskWrite(lost, s.Gen%2, counted(2))
		s, code = impl.StoreOpen(impl.DiskCrash(lost, []int{0, 0}))
		wantBool(t, "a store behind a crash", code == 0, true)
		wantPreps(t, "behind a crash", s.Tree, p)
		wantLast(t, "behind a crash", s.Tree, p.Tx.C, p.Tx)
	}
}

// crashPoints: each count of operations, with what waits lost, whole and torn.
func crashPoints(t *testing.T, s impl.Store, l []impl.Edit, look func(tree impl.Tree)) {
	t.Helper()
	ops, code := impl.PlanOf(s, l)
	if code != 0 {
		t.Fatalf("PlanOf has code %d", code)
	}
	for n := range len(ops) + 1 {
		for _, keep := range [][]int{nil, slices.Repeat([]int{512}, n), slices.Repeat([]int{100}, n), slices.Repeat([]int{512, 0, 3}, n)} {
			d, _ := impl.CommitCrash(s, l, n, keep)
			opened, code := impl.StoreOpen(d)
			if code != 0 {
				t.Fatalf("behind %d operations and a crash the store has code %d", n, code)
			}
			look(opened.Tree)
		}
	}
}

func TestP4ACrashWithinMakesReadyAllOrNothing(t *testing.T) {
	for _, p := range somePreps() {
		s := shardStore(otherData(9)...)
		old := impl.LastOf(s.Tree, p.Tx.C)
		seen := map[bool]int{}
		crashPoints(t, s, impl.PrepEdits(p), func(tree impl.Tree) {
			ready := len(impl.Preps(tree)) > 0
			seen[ready]++
			if ready {
				wantPreps(t, "a crash within", tree, p)
				wantLast(t, "a crash within", tree, p.Tx.C, p.Tx)
			} else {
				wantLast(t, "a crash ahead of it", tree, p.Tx.C, old)
			}
		})
		if seen[true] == 0 || seen[false] == 0 {
			t.Errorf("only one outcome was met: %v", seen)
		}
	}
}

func TestP4ACrashWithinEndsAllOrNothing(t *testing.T) {
	for _, p := range somePreps() {
		for _, yes := range []bool{true, false} {
			tree := readyTree(otherData(9), p)
			s := settled(tree, 5, 300, upFrom(2, len(tree.Nodes)))
			ahead := impl.TreeAll(tree)
			behind := lastOf(ahead, endsIn(ahead, p.Tx, yes)...)
			seen := map[bool]int{}
			crashPoints(t, s, impl.EndEdits(tree, p.Tx, yes), func(got impl.Tree) {
				ended := len(impl.Preps(got)) == 0
				seen[ended]++
				if ended {
					wantPairs(t, "ended", impl.TreeAll(got), behind)
					wantEnds(t, "ended", got, p.Tx, yes)
				} else {
					wantPairs(t, "not yet ended", impl.TreeAll(got), ahead)
					wantPreps(t, "not yet ended", got, p)
				}
			})
			if seen[true] == 0 || seen[false] == 0 {
				t.Errorf("only one outcome was met: %v", seen)
			}
		}
	}
}

// shardLife is what a shard must hold: the data of its clients, and what was
// made ready and hasn't ended.
type shardLife struct {
	data  map[string]string
	ready map[impl.Tx][]impl.Rec
}

func (m shardLife) end(x impl.Tx, yes bool) {
	for _, r := range m.ready[x] {
		if yes && r.Kind == 1 {
			m.data["d"+r.Key] = r.Val
		}
		if yes && r.Kind == 2 {
			delete(m.data, "d"+r.Key)
		}
	}
	delete(m.ready, x)
}

func (m shardLife) check(t *testing.T, tree impl.Tree) {
	t.Helper()
	data := map[string]string{}
	for _, p := range impl.TreeAll(tree) {
		if p.Key[0] == 'd' {
			data[p.Key] = p.Val
		}
	}
	if !maps.Equal(data, m.data) {
		t.Fatalf("the data is %q, want %q", data, m.data)
	}
	ready := map[impl.Tx][]impl.Rec{}
	for _, p := range impl.Preps(tree) {
		ready[p.Tx] = p.Recs
	}
	if !maps.EqualFunc(ready, m.ready, slices.Equal) {
		t.Fatalf("ready is %#v, want %#v", ready, m.ready)
	}
}

func TestP4WhatWasMadeReadyEndsJustOnce(t *testing.T) {
	throw := dice(806)
	for range 40 {
		m := shardLife{data: map[string]string{}, ready: map[impl.Tx][]impl.Rec{}}
		var tree impl.Tree
		edit := func(l []impl.Edit) {
			next, ok := impl.TreeEdit(tree, l)
			if !ok {
				t.Fatalf("TreeEdit refuses %q", editTexts(l))
			}
			tree = next
		}
		for step := range 60 {
			x := impl.Tx{C: step % 3, E: 1 + step/9, N: 1 + step}
			if len(m.ready) < 6 {
				p := impl.Prep{Tx: x, Recs: thrownRecs(&throw, 1+throw.below(16))}
				edit(impl.PrepEdits(p))
				m.ready[x] = p.Recs
				wantLast(t, "made ready", tree, x.C, x)
			}
			m.check(t, tree)
			if preps := impl.Preps(tree); throw.below(3) > 0 {
				x, yes := preps[throw.below(len(preps))].Tx, throw.below(2) == 0
				edit(impl.EndEdits(tree, x, yes))
				m.end(x, yes)
				m.check(t, tree)
				wantEnds(t, "ended", tree, x, true)
				wantEnds(t, "ended", tree, x, false)
			}
		}
	}
}

// Ending a transaction leaves each other one as it is.
func TestP4AnEndIsOfOneTransactionAlone(t *testing.T) {
	names := []string{"1.2.3", "1.2.30", "1.2.33", "1.23.3", "1.2.2", "2.2.3", "1.1.23", "0.1.2", "7.1.2"}
	var preps []impl.Prep
	for i, name := range names {
		preps = append(preps, prepOf(name, wrote("a", strconv.Itoa(i)), took("b"), barring("", ""), sharing("c", ""), wrote("c"+strconv.Itoa(i), "")))
	}
	tree := readyTree([]impl.Pair{pair("da", "old"), pair("db", "old")}, preps...)
	for i, p := range preps {
		for _, yes := range []bool{true, false} {
			got, ok := impl.TreeEdit(tree, impl.EndEdits(tree, p.Tx, yes))
			wantBool(t, "TreeEdit of EndEdits", ok, true)
			others := slices.DeleteFunc(slices.Clone(preps), func(q impl.Prep) bool { return q.Tx == p.Tx })
			slices.SortFunc(others, func(a, b impl.Prep) int { return strings.Compare(dotted(a.Tx), dotted(b.Tx)) })
			wantPreps(t, "the others", got, others...)
			wantLast(t, "its coordinator", got, p.Tx.C, impl.LastOf(tree, p.Tx.C))
			if yes {
				wantGet(t, got, "da", strconv.Itoa(i), true)
				wantGet(t, got, "db", "", false)
			} else {
				wantGet(t, got, "da", "old", true)
				wantGet(t, got, "db", "old", true)
			}
			wantGet(t, got, "dc"+strconv.Itoa(i), "", yes)
		}
	}
}

func TestP15RecLimits(t *testing.T) {
	if impl.MaxUser != 8 || impl.MaxUval != 20 || impl.MaxRecs != 16 {
		t.Error("the bounds of clients and records are others")
	}
	if impl.RecWrite != 1 || impl.RecGone != 2 || impl.RecShared != 3 || impl.RecEx != 4 {
		t.Error("the kinds of records are others")
	}
}

func TestP15UserOk(t *testing.T) {
	for size := range 40 {
		for _, c := range []string{"a", "\x00", "\xff", "."} {
			wantBool(t, "UserOk of "+strconv.Itoa(size)+" bytes", impl.UserOk(strings.Repeat(c, size)), size >= 1 && size <= 8)
			wantBool(t, "UvalOk of "+strconv.Itoa(size)+" bytes", impl.UvalOk(strings.Repeat(c, size)), size <= 20)
		}
	}
	wantBool(t, "UserOk of three signs of three bytes", impl.UserOk("\u2603\u2603\u2603"), false)
	wantBool(t, "UserOk of 5000 bytes", impl.UserOk(strings.Repeat("a", 5000)), false)
	wantBool(t, "UvalOk of seven signs of three bytes", impl.UvalOk(strings.Repeat("\u2603", 7)), false)
	wantBool(t, "UvalOk of 5000 bytes", impl.UvalOk(strings.Repeat("a", 5000)), false)
}

func TestP15ReachOk(t *testing.T) {
	for _, r := range someReaches() {
		wantBool(t, "ReachOk of "+strconv.Quote(r.Lo)+" to "+strconv.Quote(r.Hi), impl.ReachOk(r), true)
	}
	for _, r := range slices.Concat(wrongReaches(), rightRanges()) {
		wantBool(t, "ReachOk of "+strconv.Quote(r.Lo)+" to "+strconv.Quote(r.Hi), impl.ReachOk(r), isReach(r))
	}
	for _, k := range someUsers() {
		wantBool(t, "ReachOk of a client's key", impl.ReachOk(impl.PointOf(k)), true)
	}
	wantBool(t, "ReachOk of a longer key", impl.ReachOk(impl.PointOf(longUser+"i")), false)
}

// Each kind with each key, value and range, right and wrong, of its kind and not.
func TestP15RecOkOfAllParts(t *testing.T) {
	ranges := append(wrongReaches(), impl.Range{}, impl.Range{Lo: "a"}, impl.Range{Hi: "a"}, impl.Range{Lo: "a", Hi: "b"}, impl.PointOf("a"), impl.PointOf(longUser), impl.Range{Lo: longUser + "i"}, impl.Range{Hi: longUser + "i"})
	for _, kind := range append(wrongKinds(), 1, 2, 3, 4) {
		for _, k := range []string{"", "a", "\x00", longUser, topUser, longUser + "i", longKey} {
			for _, v := range []string{"", "x", "\x00", longUval, topUval, longUval + "v", longVal} {
				for _, r := range ranges {
					rec := impl.Rec{Kind: kind, Key: k, Val: v, Range: r}
					want := rightRec(rec)
					if impl.RecOk(rec) != want || want != (impl.RecText(rec) != "") {
						t.Errorf("RecOk(%#v) is %v, RecText %q, want %v", rec, impl.RecOk(rec), impl.RecText(rec), want)
					}
				}
			}
		}
	}
}

func TestP15RecOk(t *testing.T) {
	for _, r := range rightRecs() {
		if !impl.RecOk(r) {
			t.Errorf("RecOk(%#v) is false", r)
		}
	}
	for _, r := range wrongRecs() {
		wantRecText(t, r, "")
		if impl.RecOk(r) || rightRec(r) {
			t.Errorf("RecOk(%#v) is true", r)
		}
	}
}

func TestP15RecText(t *testing.T) {
	wantRecText(t, wrote("a", "x"), "w\x01a\x01x")
	wantRecText(t, wrote("ab", ""), "w\x02ab\x00")
	wantRecText(t, wrote(longUser, longUval), "w\x08abcdefgh\x14vvvvvvvvvvvvvvvvvvvv")
	wantRecText(t, took("a"), "g\x01a")
	wantRecText(t, took("\x00"), "g\x01\x00")
	wantRecText(t, sharing("", ""), "s\x00\x00")
	wantRecText(t, sharing("a", "b"), "s\x01a\x01b")
	wantRecText(t, barring("", "b"), "x\x00\x01b")
	wantRecText(t, barring("a", ""), "x\x01a\x00")
	wantRecText(t, barring(longUser, longUser+"\x00"), "x\x08abcdefgh\x09abcdefgh\x00")
}

func TestP15TextRec(t *testing.T) {
	wantRec(t, "w\x01a\x01x", wrote("a", "x"), true)
	wantRec(t, "w\x01a\x00", wrote("a", ""), true)
	wantRec(t, "g\x08abcdefgh", took(longUser), true)
	wantRec(t, "s\x00\x00", sharing("", ""), true)
	wantRec(t, "x\x01a\x02a\x00", barring("a", "a\x00"), true)
	for _, s := range []string{"", "w", "g", "s", "x", "w\x01", "w\x01a", "w\x01a\x01", "w\x01a\x01x\x00", "w\x01a\x01xy", "w\x01a\x01x\x01y", "g\x01a\x00", "g\x01a\x01x", "g\x01", "g\x02a", "s\x00", "s\x01a", "s\x01a\x01b\x00",
		"x\x00", "x\x01a\x01b\x01c", "\x00\x01a", "W\x01a\x01x", "G\x01a", "S\x00\x00", "X\x00\x00", "a\x01a\x01x", "\xf7\x01a\x01x", "w\x01a\x01x ", " w\x01a\x01x", "ww\x01a\x01x",
		"w\x81\x00a\x01x", "w\x01a\x81\x00x", "w\x01a\x80\x00", "g\x81\x00a", "s\x80\x00\x00", "s\x00\x80\x00", "x\x81\x80\x00a\x00", "x\x01a\x80", "g\x81",
		"w\x00\x00", "w\x00\x01x", "g\x00", "w\x09abcdefghi\x00", "g\x09abcdefghi", "w\x01a\x15" + longUval + "v", "s\x01b\x01a", "s\x01a\x01a", "x\x0aabcdefghij\x00", "x\x00\x0aabcdefghij", "x\x02a\x00\x01a"} {
		wantRec(t, s, impl.Rec{}, false)
	}
}

// Behind each right first byte stands each record that isn't right, written as
// the right ones are, and other texts of many bytes.
func TestP15TextRecOfWrongRecords(t *testing.T) {
	texts := []string{"", "a", longUser, longUser + "i", longUser + "ij", longUval, longUval + "v", strings.Repeat("v", 127), strings.Repeat("v", 128), strings.Repeat("v", 5000)}
	for _, mark := range []string{"w", "g", "s", "x", "d"} {
		for _, a := range texts {
			first := mark + string(varOf(len(a))) + a
			checkRecIn(t, first)
			for _, b := range texts {
				checkRecIn(t, first+string(varOf(len(b)))+b)
			}
		}
		for _, fill := range []string{"\x00", "\x01", "\x80", "\xff", "w"} {
			checkRecIn(t, mark+strings.Repeat(fill, 5000))
			checkRecIn(t, mark+"\x01a"+strings.Repeat(fill, 5000))
			checkRecIn(t, mark+"\x01a\x01b"+strings.Repeat(fill, 5000))
		}
		checkRecIn(t, mark+"\xff\xff\xff\xff\xff\x1f"+"a")
		checkRecIn(t, mark+"\xff\xff\xff\xff\xff\xff\xff\xff\x7f"+"a")
		checkRecIn(t, mark+"\xff\xff\xff\xff\xff\xff\xff\xff\xff\x01"+"a")
	}
}

func TestP15PrepOk(t *testing.T) {
	x := nameOf(3)
	for size := range 20 {
		p := impl.Prep{Tx: x, Recs: slices.Repeat([]impl.Rec{wrote("a", "x")}, size)}
		wantBool(t, "PrepOk of "+strconv.Itoa(size)+" records", impl.PrepOk(p), size <= 16)
		wantEdits(t, strconv.Itoa(size)+" records", impl.PrepEdits(p), editsOf(p)...)
	}
	for _, r := range rightRecs() {
		wantBool(t, "PrepOk of a right record", impl.PrepOk(impl.Prep{Tx: x, Recs: []impl.Rec{r}}), true)
	}
	for _, r := range wrongRecs() {
		for _, recs := range [][]impl.Rec{{r}, {took("a"), r}, {r, took("a")}, append(slices.Repeat([]impl.Rec{took("a")}, 15), r), append(slices.Repeat([]impl.Rec{took("a")}, 16), r)} {
			p := impl.Prep{Tx: x, Recs: recs}
			if impl.PrepOk(p) {
				t.Errorf("PrepOk(%#v) is true", p)
			}
			wantEdits(t, "a wrong record", impl.PrepEdits(p))
		}
	}
	many := impl.Prep{Tx: x, Recs: slices.Repeat([]impl.Rec{took("a")}, 5000)}
	wantBool(t, "PrepOk of 5000 records", impl.PrepOk(many), false)
	wantEdits(t, "5000 records", impl.PrepEdits(many))
}

func TestP15PrepOkOfNames(t *testing.T) {
	for _, x := range edgeNames() {
		for _, recs := range [][]impl.Rec{nil, {took("a")}} {
			p := impl.Prep{Tx: x, Recs: recs}
			if impl.PrepOk(p) != rightName(x) || !slices.Equal(impl.PrepEdits(p), editsOf(p)) {
				t.Errorf("PrepOk of %v is %v, PrepEdits %q", x, impl.PrepOk(p), editTexts(impl.PrepEdits(p)))
			}
		}
	}
	wantBool(t, "PrepOk of nothing", impl.PrepOk(impl.Prep{}), false)
	wantEdits(t, "nothing", impl.PrepEdits(impl.Prep{}))
}

func TestP15PrepEdits(t *testing.T) {
	wantEdits(t, "no records", impl.PrepEdits(prepOf("1.2.3")), puts("h1", "1.2.3"))
	wantEdits(t, "one record", impl.PrepEdits(prepOf("0.1.1", took("a"))), puts("p0.1.1.0", "g\x01a"), puts("h0", "0.1.1"))
	wantEdits(t, "records of one key", impl.PrepEdits(prepOf("7.999.999", wrote("a", "x"), barring("a", ""), took("a"), took("a"))),
		puts("p7.999.999.0", "w\x01a\x01x"), puts("p7.999.999.1", "x\x01a\x00"), puts("p7.999.999.2", "g\x01a"), puts("p7.999.999.3", "g\x01a"), puts("h7", "7.999.999"))
	full := impl.PrepEdits(prepOf("7.999.999", slices.Repeat([]impl.Rec{wrote(longUser, longUval)}, 16)...))
	if len(full) != 17 || full[9].Key != "p7.999.999.9" || full[10].Key != "p7.999.999.10" || full[15].Key != "p7.999.999.15" || full[16].Key != "h7" {
		t.Errorf("16 records: %q", editTexts(full))
	}
	wantBool(t, "BatchOk of 16 records", impl.BatchOk(full), true)
	throw := dice(807)
	for range 2000 {
		p := impl.Prep{Tx: impl.Tx{C: throw.below(8), E: 1 + throw.below(999), N: 1 + throw.below(999)}, Recs: thrownRecs(&throw, throw.below(18))}
		wantEdits(t, "thrown records", impl.PrepEdits(p), editsOf(p)...)
		wantBool(t, "BatchOk of thrown records", impl.BatchOk(impl.PrepEdits(p)), true)
	}
}

// strayKeys look like those of records and don't count.
func strayKeys() []string {
	return []string{"p", "p.", "p.0", "p..0", "p...0", "p0", "p1", "p1.2", "p1.2.3", "p1.2.3.", "p1.2.3..", "p1.2.3..0", "p1.2.3.16", "p1.2.3.17", "p1.2.3.99", "p1.2.3.100", "p1.2.3.99999999", "p1.2.3.00", "p1.2.3.01", "p1.2.3.010", "p1.2.3.-1", "p1.2.3.-0",
		"p1.2.3.+1", "p1.2.3. 1", "p1.2.3.1 ", "p1.2.3.0x1", "p1.2.3.1_0", "p1.2.3.a", "p1.2.3.\x00", "p1.2.3.0\x00", "p1.2.3.0.0", "p1.2.3.4.5", "p01.2.3.0", "p1.02.3.0", "p1.2.03.0", "p+1.2.3.0", "p-1.2.3.0", "p8.2.3.0", "p10.2.3.0", "p1.0.3.0", "p1.2.0.0",
		"p1.1000.3.0", "p1.2.1000.0", "p.2.3.0", "p1..3.0", "p1.2..0", "p.1.2.3.0", "p 1.2.3.0", "pp1.2.3.0", "P1.2.3.0", "q1.2.3.0", "o1.2.3.0", "1.2.3.0", "d1.2.3.0", "h1.2.3.0", "p1,2,3.0", "p1.2.3,0", "p1.2.3:0", "\x00p1.2.3.0", "p\x001.2.3.0", "p1.2.3.0."}
}

// strayVals are no texts of records.
func strayVals() []string {
	return []string{"", "w", "g", "w\x01a", "w\x01a\x01", "w\x01a\x01x\x00", "g\x01a\x00", "g\x00", "g\x81\x00a", "g\x09abcdefghi", "s\x01b\x01a", "s\x00", "x\x00\x00\x00", "a\x01a", "1.2.3", "W\x01a\x01x", longVal}
}

func TestP15PrepsCountsRightKeysAlone(t *testing.T) {
	x := impl.Tx{C: 1, E: 2, N: 3}
	real := []impl.Pair{pair("p1.2.3.0", "g\x01a"), pair("p1.2.3.1", "w\x01b\x01y"), pair("h1", "1.2.3"), pair("da", "old")}
	for _, k := range strayKeys() {
		for _, v := range []string{"g\x01z", "w\x01z\x01x", "x\x00\x00", "s\x01a\x01b", "1.2.3"} {
			alone := treeWith(pair(k, v))
			wantPreps(t, k, alone)
			wantEnds(t, k, alone, x, true)
			wantEnds(t, k, alone, impl.Tx{}, true)
			among := treeWith(append(slices.Clone(real), pair(k, v))...)
			wantPreps(t, k, among, impl.Prep{Tx: x, Recs: []impl.Rec{took("a"), wrote("b", "y")}})
			wantEnds(t, k, among, x, true, goes("da"), puts("db", "y"), goes("p1.2.3.0"), goes("p1.2.3.1"))
			wantEnds(t, k, among, x, false, goes("p1.2.3.0"), goes("p1.2.3.1"))
			checkTree(t, k, among, impl.Tx{}, impl.Tx{C: 8, E: 2, N: 3}, impl.Tx{C: 1, N: 3}, impl.Tx{C: -1, E: 2, N: 3}, impl.Tx{C: 1, E: 1000, N: 3})
		}
	}
	for _, v := range strayVals() {
		for _, k := range []string{"p1.2.3.0", "p1.2.3.2", "p1.2.3.15", "p1.2.4.0", "p0.1.1.0"} {
			wantPreps(t, k+" with "+v, treeWith(pair(k, v)))
			checkTree(t, k+" with "+v, treeWith(append(slices.Clone(real), pair(k, v))...))
		}
	}
}

func TestP15PrepsOfOneTransaction(t *testing.T) {
	x := impl.Tx{C: 1, E: 2, N: 3}
	r := func(n int) impl.Rec { return took("k" + strconv.Itoa(n)) }
	numbers := func(l ...int) impl.Tree {
		var pairs []impl.Pair
		for _, n := range l {
			pairs = append(pairs, pair("p1.2.3."+strconv.Itoa(n), recText(r(n))))
		}
		return treeWith(pairs...)
	}
	for _, l := range [][]int{{0}, {15}, {7}, {2, 10}, {1, 10}, {0, 1, 2, 9, 10, 11}, {0, 15}, {3, 5, 8, 13}, {9, 10}, {1, 11, 12}, {0, 1, 2, 3, 4, 5, 6, 7, 8, 9, 10, 11, 12, 13, 14, 15}} {
		var want []impl.Rec
		for _, n := range l {
			want = append(want, r(n))
		}
		wantPreps(t, intsText(l), numbers(l...), impl.Prep{Tx: x, Recs: want})
		checkTree(t, intsText(l), numbers(l...), x)
	}
	wantPreps(t, "a number too far", numbers(15, 16), impl.Prep{Tx: x, Recs: []impl.Rec{r(15)}})
	wantPreps(t, "none but one too far", numbers(16))
	wantPreps(t, "no nodes", impl.Tree{})
	wantPreps(t, "no records", treeWith(otherData(30)...))
	wantEnds(t, "2 and 10", numbers(2, 10), x, true, goes("dk2"), goes("dk10"), goes("p1.2.3.10"), goes("p1.2.3.2"))
	wantEnds(t, "2 and 10", numbers(2, 10), x, false, goes("p1.2.3.10"), goes("p1.2.3.2"))
}

// Texts stand otherwise than numbers: that of 1.10.1 ahead of that of 1.2.1.
func TestP15PrepsStandInTheOrderOfTheirTexts(t *testing.T) {
	names := []string{"0.1.1", "0.1.10", "0.1.100", "0.1.2", "0.10.1", "0.2.1", "0.999.999", "1.1.1", "1.1.11", "1.1.9", "1.10.1", "1.10.3", "1.100.1", "1.11.1", "1.2.1", "1.2.3", "1.20.1", "7.1.1", "7.99.9", "7.999.1"}
	var want []impl.Prep
	for i, name := range names {
		want = append(want, prepOf(name, took(strconv.Itoa(i)), sharing("", strconv.Itoa(i))))
	}
	wantPreps(t, "all in order", readyTree(otherData(10), want...), want...)
	backwards := slices.Clone(want)
	slices.Reverse(backwards)
	wantPreps(t, "made ready from behind", readyTree(nil, backwards...), want...)
	for i, a := range want {
		for _, b := range want[i+1:] {
			wantPreps(t, "two transactions", readyTree(nil, b, a), a, b)
		}
	}
}

func TestP15EndEdits(t *testing.T) {
	x := impl.Tx{C: 1, E: 2, N: 3}
	for _, c := range []struct {
		what string
		recs []impl.Rec
		yes  []impl.Edit
	}{
		{"a write", []impl.Rec{wrote("a", "x")}, []impl.Edit{puts("da", "x")}},
		{"a write of the empty value", []impl.Rec{wrote(longUser, "")}, []impl.Edit{puts("dabcdefgh", "")}},
		{"a delete", []impl.Rec{took("b")}, []impl.Edit{goes("db")}},
		{"locks alone", []impl.Rec{sharing("a", "b"), barring("", "")}, nil},
		{"writes and deletes of one key", []impl.Rec{wrote("a", "x"), took("a"), wrote("a", "y"), took("a"), took("a")}, []impl.Edit{puts("da", "x"), goes("da"), puts("da", "y"), goes("da"), goes("da")}},
		{"a delete ahead of a write", []impl.Rec{took("a"), wrote("a", "x")}, []impl.Edit{goes("da"), puts("da", "x")}},
		{"locks between", []impl.Rec{barring("a", "b"), wrote("z", "1"), sharing("", ""), wrote("a", "2"), barring("z", "")}, []impl.Edit{puts("dz", "1"), puts("da", "2")}},
		{"a key like a record's", []impl.Rec{wrote("p1.2.3.0", "x"), took("p1.2.3.1")}, []impl.Edit{puts("dp1.2.3.0", "x"), goes("dp1.2.3.1")}},
	} {
		var keys []impl.Edit
		for i := range c.recs {
			keys = append(keys, goes("p1.2.3."+strconv.Itoa(i)))
		}
		for _, data := range [][]impl.Pair{nil, {pair("da", "old"), pair("db", "old"), pair("h1", "1.9.9")}, otherData(30)} {
			tree := readyTree(data, impl.Prep{Tx: x, Recs: c.recs}, prepOf("1.2.33", wrote("q", "")), prepOf("1.2.2", took("q")))
			wantEnds(t, c.what, tree, x, true, slices.Concat(c.yes, keys)...)
			wantEnds(t, c.what, tree, x, false, keys...)
		}
	}
	full := readyTree(nil, impl.Prep{Tx: x, Recs: slices.Repeat([]impl.Rec{wrote(longUser, longUval)}, 16)})
	yes, no := impl.EndEdits(full, x, true), impl.EndEdits(full, x, false)
	if len(yes) != 32 || len(no) != 16 || no[1].Key != "p1.2.3.1" || no[2].Key != "p1.2.3.10" || no[8].Key != "p1.2.3.2" || yes[18] != no[2] {
		t.Errorf("16 records: %q, %q", editTexts(yes), editTexts(no))
	}
	wantBool(t, "BatchOk of the end of 16 records", impl.BatchOk(yes), true)
}

func TestP15EndEditsOfOtherNames(t *testing.T) {
	tree := readyTree(otherData(5), prepOf("1.2.3", wrote("a", "x"), barring("", "")), prepOf("0.1.1", took("a")), prepOf("2.1.1"))
	names := append(wrongNames(), impl.Tx{C: 1, E: 2, N: 4}, impl.Tx{C: 1, E: 3, N: 3}, impl.Tx{C: 2, E: 2, N: 3}, impl.Tx{C: 2, E: 1, N: 1}, impl.Tx{C: 1, E: 3, N: 2}, impl.Tx{C: 7, E: 2, N: 2}, impl.Tx{C: 1, E: 2, N: 30}, impl.Tx{C: 1, E: 23, N: 3})
	for _, x := range names {
		if yes, no := impl.EndEdits(tree, x, true), impl.EndEdits(tree, x, false); len(yes)+len(no) > 0 {
			t.Errorf("EndEdits of %v is %q, %q", x, editTexts(yes), editTexts(no))
		}
	}
	for _, x := range append(names[len(names)-8:], impl.Tx{}, nameOf(0)) {
		wantEnds(t, "no nodes", impl.Tree{}, x, true)
		wantEnds(t, "no nodes", impl.Tree{}, x, false)
	}
}

func TestP15LastOf(t *testing.T) {
	x := impl.Tx{C: 1, E: 2, N: 3}
	far := []impl.Pair{pair("h", "6.6.6"), pair("h0", "0.1.1"), pair("h1", "1.2.3"), pair("h7", "7.999.999"), pair("h8", "2.2.2"), pair("h1099511627775", "3.3.3"), pair("h1099511627776", "4.4.4"), pair("h-1", "5.5.5"), pair("h00", "1.1.1"), pair("h+1", "1.1.1")}
	tree := treeWith(far...)
	wantLast(t, "coordinator 0", tree, 0, impl.Tx{C: 0, E: 1, N: 1})
	wantLast(t, "coordinator 1", tree, 1, x)
	wantLast(t, "coordinator 2", tree, 2, impl.Tx{})
	wantLast(t, "coordinator 7", tree, 7, impl.Tx{C: 7, E: 999, N: 999})
	wantLast(t, "a number that no coordinator has", tree, 8, impl.Tx{C: 2, E: 2, N: 2})
	wantLast(t, "MaxNum", tree, impl.MaxNum, impl.Tx{C: 3, E: 3, N: 3})
	for _, c := range []int{impl.MaxNum + 1, impl.MaxNum + 2, 1 << 41, math.MaxInt64 - 1, math.MaxInt64} {
		wantLast(t, "above MaxNum", tree, c, impl.Tx{C: 6, E: 6, N: 6})
		wantLast(t, "above MaxNum, without an 'h' alone", treeWith(far[1:]...), c, impl.Tx{})
	}
	for _, c := range []int{-1, -2, -8, -impl.MaxNum, -impl.MaxNum - 1, math.MinInt64 + 1, math.MinInt64} {
		wantLast(t, "below 0", tree, c, impl.Tx{})
	}
	for i := range far {
		checkTree(t, "one of them", treeWith(far[i]), x)
		checkTree(t, "all but one of them", treeWith(append(slices.Clone(far[:i]), far[i+1:]...)...), x)
	}
	for _, c := range someCoords() {
		wantLast(t, "no nodes", impl.Tree{}, c, impl.Tx{})
		wantLast(t, "other keys", treeWith(pair("d1", "1.2.3"), pair("p1", "1.2.3"), pair("H1", "1.2.3"), pair("1", "1.2.3"), pair("h1.", "1.2.3"), pair("hh1", "1.2.3")), c, impl.Tx{})
	}
}

func TestP15LastOfOtherValues(t *testing.T) {
	for _, v := range []string{"", "1", "1.2", "1.2.", "1.2.3.", "1.2.3.4", "01.2.3", "1.02.3", "1.2.03", "8.2.3", "1.0.3", "1.2.0", "1.1000.3", "1.2.1000", "-1.2.3", "+1.2.3", " 1.2.3", "1.2.3 ", "1.2.3\x00", "1,2,3", "a.b.c", "g\x01a", longVal} {
		for _, c := range []int{0, 1, 7} {
			wantLast(t, "the value "+v, treeWith(pair("h"+strconv.Itoa(c), v), pair("h", "6.6.6")), c, impl.Tx{})
		}
		wantLast(t, "the value "+v, treeWith(pair("h", v), pair("h1", "1.2.3")), math.MaxInt64, impl.Tx{})
	}
	for _, x := range append(manyNames(300), nameOf(4), nameOf(5), nameOf(6)) {
		for _, c := range []int{0, 1, 7, 8} {
			wantLast(t, "a name of whichever coordinator", treeWith(pair("h"+strconv.Itoa(c), dotted(x))), c, x)
		}
	}
}

// wantNothingKept: of a tree that isn't right nothing is told.
func wantNothingKept(t *testing.T, what string, tree impl.Tree) {
	t.Helper()
	if got := impl.Preps(tree); len(got) != 0 {
		t.Errorf("%s: Preps is %#v", what, got)
	}
	for _, x := range []impl.Tx{{C: 1, E: 2, N: 3}, {C: 0, E: 1, N: 1}, {}} {
		wantEnds(t, what, tree, x, true)
		wantEnds(t, what, tree, x, false)
	}
	for _, c := range []int{0, 1, 7, 8, -1, impl.MaxNum, impl.MaxNum + 1, math.MaxInt64, math.MinInt64} {
		wantLast(t, what, tree, c, impl.Tx{})
	}
}

func TestP15WrongTreesKeepNothing(t *testing.T) {
	for what, tree := range wrongTrees() {
		wantNothingKept(t, what, tree)
	}
	for i, tree := range longTrees() {
		wantNothingKept(t, "long tree "+strconv.Itoa(i), tree)
	}
	one, two, last := pair("p1.2.3.0", "w\x01a\x01x"), pair("p1.2.3.1", "g\x01a"), pair("h1", "1.2.3")
	leaf := func(l ...impl.Pair) impl.Node { return impl.Node{Pairs: l} }
	for what, nodes := range map[string][]impl.Node{
		"pairs that fall":        {leaf(one, last)},
		"one key twice":          {leaf(last, one, one)},
		"a value that is long":   {leaf(last, one, pair("z", strings.Repeat("v", 61)))},
		"a key that is long":     {leaf(last, one, pair("z"+longKey, ""))},
		"an empty key":           {leaf(pair("", ""), last, one)},
		"five pairs":             {leaf(last, one, two, pair("q", ""), pair("r", ""))},
		"a leaf too many":        {leaf(last, one, two), leaf(pair("q", ""), pair("r", ""))},
		"a leaf with keys":       {{Pairs: []impl.Pair{last, one, two}, Keys: []string{"a"}}},
		"a leaf of one pair":     {{Keys: []string{"p1.2.3.0"}, Kids: []int{1, 2}}, leaf(last), leaf(one, two)},
		"another key":            {{Keys: []string{"p1.2.3.1"}, Kids: []int{1, 2}}, leaf(pair("h0", ""), last), leaf(one, two)},
		"kids the other way":     {{Keys: []string{"p1.2.3.0"}, Kids: []int{2, 1}}, leaf(one, two), leaf(pair("h0", ""), last)},
		"a kid that isn't there": {{Keys: []string{"p1.2.3.0"}, Kids: []int{1, 3}}, leaf(pair("h0", ""), last), leaf(one, two)},
	} {
		wantBool(t, "stands of "+what, stands(impl.Tree{Nodes: nodes}), false)
		wantNothingKept(t, what, impl.Tree{Nodes: nodes})
	}
}

// Thrown changes of a tree with records make most of them wrong, not all.
func TestP15PrepsOfThrownTrees(t *testing.T) {
	throw := dice(808)
	right := 0
	for range 3000 {
		tree := readyTree(otherData(throw.below(4)), prepOf("1.2.3", thrownRecs(&throw, throw.below(12))...), prepOf("0.1.1", thrownRecs(&throw, throw.below(3))...))
		for range 1 + throw.below(2) {
			throwAt(&throw, tree.Nodes)
		}
		if stands(tree) {
			right++
			checkTree(t, "thrown and right", tree, impl.Tx{C: 1, E: 2, N: 3})
		} else {
			wantNothingKept(t, "thrown and wrong", tree)
		}
	}
	if right < 100 || right > 2900 {
		t.Errorf("%d trees are right", right)
	}
}

// thrownKeptKey: keys that are near to those that count, and some that do.
func thrownKeptKey(d *dice) string {
	if d.below(4) == 0 {
		return []string{"h", "d", "p", "h1"}[d.below(4)] + []string{"", "0", "1", "8", "1099511627775", "a"}[d.below(6)]
	}
	s := "p"
	for i := range 4 {
		if i > 0 && d.below(40) > 0 {
			s += "."
		}
		s += []string{"1", "2", "3", "1", "0", "10", "15", "16", "7", "01", "", "8", "11", "999"}[d.below([]int{4, 5, 6, 14}[d.below(4)])]
	}
	return s[:min(len(s), 16)]
}

func TestP15ThrownPairsOfAShard(t *testing.T) {
	throw := dice(809)
	vals := append(strayVals(), "1.2.3", "0.1.1", "7.10.2")
	counted, wide := 0, 0
	for range 1000 {
		held := map[string]impl.Pair{}
		for range throw.below(60) {
			p := pair(thrownKeptKey(&throw), vals[throw.below(len(vals))])
			if throw.below(4) > 0 {
				p.Val = recText(thrownRec(&throw))
			}
			held[p.Key] = p
		}
		var pairs []impl.Pair
		for _, k := range slices.Sorted(maps.Keys(held)) {
			pairs = append(pairs, held[k])
		}
		checkTree(t, "thrown pairs", treeWith(pairs...), impl.Tx{C: 1, E: 2, N: 3}, impl.Tx{})
		for _, p := range prepsIn(pairs) {
			counted++
			if len(p.Recs) > 1 {
				wide++
			}
		}
	}
	if counted < 3000 || wide < 300 {
		t.Errorf("only %d transactions, %d of more than one record", counted, wide)
	}
}

// A tree with as many pairs as there may be, all of them records.
func TestP15PrepsOfAFullTree(t *testing.T) {
	var pairs []impl.Pair
	for i := range 200 {
		pairs = append(pairs, pair("p"+strconv.Itoa(i%8)+".1."+strconv.Itoa(1+i/128)+"."+strconv.Itoa(i/8%16), recText(wrote("k"+strconv.Itoa(i), longUval))))
	}
	tree := treeWith(pairs...)
	wantBool(t, "TreeOk of a full tree", impl.TreeOk(tree), true)
	if n := len(impl.Preps(tree)); n != 16 {
		t.Errorf("a full tree has %d Preps, want 16", n)
	}
	checkTree(t, "a full tree", tree, impl.Tx{C: 1, E: 1, N: 3})
}

// recAnswers: all lists that the chapter's functions answer, by call.
func recAnswers(tree impl.Tree, p impl.Prep) map[string][]any {
	impl.PrepOk(p)
	impl.LastOf(tree, p.Tx.C)
	return map[string][]any{"PrepEdits": {impl.PrepEdits(p)}, "Preps": {impl.Preps(tree)}, "EndEdits, yes": {impl.EndEdits(tree, p.Tx, true)}, "EndEdits, no": {impl.EndEdits(tree, p.Tx, false)}}
}

func checkRecMemory(t *testing.T, what string, tree impl.Tree, p impl.Prep) {
	t.Helper()
	tree, p.Recs = withRoom(tree), marked(p.Recs, wrote("mark", ""))
	told := askTwice(t, what, func() map[string][]any { return recAnswers(tree, p) }, tree, p)
	wantApart(t, what, told, tree, p)
}

func TestP15WhatAShardKeepsIsNewMemory(t *testing.T) {
	throw := dice(810)
	for range 200 {
		p := impl.Prep{Tx: nameOf(throw.below(5)), Recs: thrownRecs(&throw, throw.below(17))}
		other := impl.Prep{Tx: nameOf(5 + throw.below(5)), Recs: thrownRecs(&throw, throw.below(17))}
		checkRecMemory(t, "right ones", readyTree(otherData(throw.below(9)), p, other), p)
	}
	checkRecMemory(t, "no nodes", impl.Tree{}, prepOf("1.2.3"))
}

func TestP15RefusalsChangeNothingKept(t *testing.T) {
	right := prepOf("1.2.3", wrote("a", "x"), sharing("", ""))
	for what, tree := range wrongTrees() {
		if len(tree.Nodes) < 20 {
			checkRecMemory(t, what, tree, right)
		}
	}
	for _, r := range wrongRecs() {
		checkRecMemory(t, "a wrong record", readyTree(nil, right), impl.Prep{Tx: right.Tx, Recs: []impl.Rec{took("b"), r}})
	}
	for _, x := range someWrongNames() {
		checkRecMemory(t, "a wrong name", readyTree(nil, right), impl.Prep{Tx: x, Recs: right.Recs})
	}
	checkRecMemory(t, "too many records", readyTree(nil, right), impl.Prep{Tx: right.Tx, Recs: slices.Repeat(right.Recs, 9)})
}
