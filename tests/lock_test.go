package tests

import (
	"math"
	"regexp"
	"slices"
	"strconv"
	"strings"
	"testing"

	"loop.example/g00392/impl"
)

// nameOf: transactions of which each two differ, some in C, E or N alone.
func nameOf(i int) impl.Tx {
	return []impl.Tx{{C: 0, E: 1, N: 1}, {C: 0, E: 1, N: 2}, {C: 0, E: 2, N: 1}, {C: 1, E: 1, N: 1}, {C: 7, E: 999, N: 999}, {C: 7, E: 999, N: 1},
		{C: 7, E: 1, N: 999}, {C: 0, E: 999, N: 999}, {C: 3, E: 500, N: 42}, {C: 3, E: 42, N: 500}}[i]
}

// manyNames: n right ones, no two alike.
func manyNames(n int) []impl.Tx {
	l := make([]impl.Tx, n)
	for i := range l {
		l[i] = impl.Tx{C: i % 8, E: 1 + i%999, N: 1 + i/999}
	}
	return l
}

// lockOf reads the digit of a nameOf, ':' (shared) or '!' (exclusive), Lo, '-' and Hi.
func lockOf(word string) impl.Lock {
	lo, hi, _ := strings.Cut(word[2:], "-")
	return impl.Lock{Tx: nameOf(int(word[0] - '0')), Range: impl.Range{Lo: lo, Hi: hi}, Ex: word[1] == '!'}
}

func lockList(words string) []impl.Lock {
	var l []impl.Lock
	for _, w := range strings.Fields(words) {
		l = append(l, lockOf(w))
	}
	return l
}

func locksOf(held, wait string) impl.Locks {
	return impl.Locks{Held: lockList(held), Wait: lockList(wait)}
}

func cloneLocks(l impl.Locks) impl.Locks {
	return impl.Locks{Held: slices.Clone(l.Held), Wait: slices.Clone(l.Wait)}
}

func sameLocks(a, b impl.Locks) bool {
	return slices.Equal(a.Held, b.Held) && slices.Equal(a.Wait, b.Wait)
}

// rightName says it by texts of the numbers, apart from the program's way.
func rightName(x impl.Tx) bool {
	return nameForm.MatchString(dotted(x))
}

var nameForm = regexp.MustCompile(`^[0-7]\.[1-9][0-9]?[0-9]?\.[1-9][0-9]?[0-9]?$`)

func dotted(x impl.Tx) string {
	return strconv.Itoa(x.C) + "." + strconv.Itoa(x.E) + "." + strconv.Itoa(x.N)
}

func rightRange(r impl.Range) bool {
	return len(r.Lo) <= 17 && len(r.Hi) <= 17 && (r.Hi == "" || strings.Compare(r.Lo, r.Hi) < 0)
}

func rightLock(x impl.Lock) bool { return rightName(x.Tx) && rightRange(x.Range) }

// meet: two right ranges do where the Lo of one lies in the other.
func meet(a, b impl.Range) bool { return isIn(a, b.Lo) || isIn(b, a.Lo) }

func clash(a, b impl.Lock) bool {
	return dotted(a.Tx) != dotted(b.Tx) && (a.Ex || b.Ex) && meet(a.Range, b.Range)
}

func clashWith(x impl.Lock, l ...impl.Lock) bool {
	return slices.ContainsFunc(l, func(y impl.Lock) bool { return clash(x, y) })
}

// locksStand is what LocksOk must say.
func locksStand(l impl.Locks) bool {
	all := slices.Concat(l.Held, l.Wait)
	if len(all) > 60 || slices.ContainsFunc(all, func(x impl.Lock) bool { return !rightLock(x) }) {
		return false
	}
	for _, x := range l.Held {
		if clashWith(x, l.Held...) {
			return false
		}
	}
	waits := map[impl.Tx]bool{}
	for i, x := range l.Wait {
		if waits[x.Tx] || !clashWith(x, all[:len(l.Held)+i]...) {
			return false
		}
		waits[x.Tx] = true
	}
	return true
}

// askedOf is what LockAsk must answer.
func askedOf(l impl.Locks, x impl.Lock) (impl.Locks, int) {
	all := slices.Concat(l.Held, l.Wait)
	switch {
	case !locksStand(l), !rightLock(x), slices.ContainsFunc(l.Wait, func(y impl.Lock) bool { return x.Tx == y.Tx }):
		return impl.Locks{}, 1
	case len(all) == 60:
		return impl.Locks{}, 2
	case clashWith(x, all...):
		return impl.Locks{Held: slices.Clone(l.Held), Wait: slices.Concat(l.Wait, []impl.Lock{x})}, 3
	}
	return impl.Locks{Held: slices.Concat(l.Held, []impl.Lock{x}), Wait: slices.Clone(l.Wait)}, 0
}

// freedOf is what LockFree must answer: it begins again behind each grant, which
// comes to the same.
func freedOf(l impl.Locks, x impl.Tx) (impl.Locks, []impl.Lock) {
	if !locksStand(l) {
		return impl.Locks{}, nil
	}
	l = cloneLocks(l)
	ofX := func(y impl.Lock) bool { return y.Tx == x }
	l.Held, l.Wait = slices.DeleteFunc(l.Held, ofX), slices.DeleteFunc(l.Wait, ofX)
	var granted []impl.Lock
	for i := 0; i < len(l.Wait); i++ {
		y := l.Wait[i]
		if clashWith(y, l.Held...) || clashWith(y, l.Wait[:i]...) {
			continue
		}
		l.Held, granted = append(l.Held, y), append(granted, y)
		l.Wait = slices.Delete(l.Wait, i, i+1)
		i = -1
	}
	return l, granted
}

// hasOf is what LockHas must say.
func hasOf(l impl.Locks, x impl.Tx, r impl.Range, ex bool) bool {
	return locksStand(l) && rightRange(r) && slices.ContainsFunc(l.Held, func(y impl.Lock) bool {
		within := r.Lo >= y.Range.Lo && (y.Range.Hi == "" || r.Hi != "" && r.Hi <= y.Range.Hi)
		return y.Tx == x && within && (y.Ex || !ex)
	})
}

func wantAsked(t *testing.T, l impl.Locks, x impl.Lock, want impl.Locks, code int) {
	t.Helper()
	if got, is := impl.LockAsk(l, x); is != code || !sameLocks(got, want) {
		t.Errorf("LockAsk(%#v, %#v) is %#v, %d, want %#v, %d", l, x, got, is, want, code)
	}
}

func wantFreed(t *testing.T, l impl.Locks, x impl.Tx, want impl.Locks, granted []impl.Lock) {
	t.Helper()
	if got, went := impl.LockFree(l, x); !sameLocks(got, want) || !slices.Equal(went, granted) {
		t.Errorf("LockFree(%#v, %v) is %#v, %#v, want %#v, %#v", l, x, got, went, want, granted)
	}
}

func wantHas(t *testing.T, l impl.Locks, x impl.Tx, r impl.Range, ex, want bool) {
	t.Helper()
	if got := impl.LockHas(l, x, r, ex); got != want {
		t.Errorf("LockHas(%#v, %v, %#v, %v) is %v, want %v", l, x, r, ex, got, want)
	}
}

func wantLocksOk(t *testing.T, what string, l impl.Locks, want bool) {
	t.Helper()
	if got := impl.LocksOk(l); got != want {
		t.Errorf("LocksOk of %s (%#v) is %v, want %v", what, l, got, want)
	}
}

func thrownLock(d *dice, names, ends int) impl.Lock {
	lo := d.below(ends)
	x := impl.Lock{Tx: nameOf(d.below(names)), Range: impl.Range{Lo: string(rune('a' + lo))}, Ex: d.below(3) == 0}
	if d.below(8) > 0 {
		x.Range.Hi = string(rune('b' + lo + d.below(2)))
	}
	return x
}

// turn is one moment of a life of locks, and what is done then: x is asked for,
// or all locks of its transaction are freed.
type turn struct {
	locks impl.Locks
	x     impl.Lock
	free  bool
}

// turnsOf: lives with few keys and with many, which go on as the models tell.
func turnsOf(seed, steps int) []turn {
	throw := dice(seed)
	var l []turn
	for _, size := range [][2]int{{2, 1}, {3, 2}, {5, 3}, {8, 6}, {10, 20}} {
		var locks impl.Locks
		for range steps {
			m := turn{locks: cloneLocks(locks), x: thrownLock(&throw, size[0], size[1]), free: throw.below(4) == 0}
			l = append(l, m)
			if m.free {
				locks, _ = freedOf(locks, m.x.Tx)
			} else if next, code := askedOf(locks, m.x); code == 0 || code == 3 {
				locks = next
			}
		}
	}
	return l
}

func TestP9NoTwoHeldLocksClash(t *testing.T) {
	for _, m := range turnsOf(901, 800) {
		var got impl.Locks
		code := 0
		if m.free {
			got, _ = impl.LockFree(m.locks, m.x.Tx)
		} else {
			got, code = impl.LockAsk(m.locks, m.x)
		}
		for _, x := range got.Held {
			if clashWith(x, got.Held...) {
				t.Fatalf("behind %#v of %#v clash with %#v of those that are held", m.x, m.locks, x)
			}
		}
		wantLocksOk(t, "what comes", got, true)
		if code == 0 || code == 3 {
			checkNoneIsLost(t, m, got)
		}
	}
}

// checkNoneIsLost: all locks are there behind a turn, and no others but the one
// that was asked for; without those of a transaction that was freed.
func checkNoneIsLost(t *testing.T, m turn, got impl.Locks) {
	t.Helper()
	count := map[impl.Lock]int{}
	for _, x := range slices.Concat(m.locks.Held, m.locks.Wait) {
		if !m.free || x.Tx != m.x.Tx {
			count[x]++
		}
	}
	if !m.free {
		count[m.x]++
	}
	for _, x := range slices.Concat(got.Held, got.Wait) {
		count[x]--
	}
	for x, n := range count {
		if n != 0 {
			t.Fatalf("%#v, with %#v and free %v, become %#v: %d too few of %#v", m.locks, m.x, m.free, got, n, x)
		}
	}
}

// A lock is granted only where none that waited longer and still waits clashes
// with it, and none that could be granted is left.
func TestP9WhoWaitsLongestIsGrantedFirst(t *testing.T) {
	for _, m := range turnsOf(902, 800) {
		got, granted := impl.LockFree(m.locks, m.x.Tx)
		if !slices.Equal(granted, got.Held[len(got.Held)-len(granted):]) {
			t.Fatalf("LockFree(%#v, %v): %#v went, and %#v are held", m.locks, m.x.Tx, granted, got.Held)
		}
		at := 0
		var ahead []impl.Lock
		for _, x := range m.locks.Wait {
			switch {
			case x.Tx == m.x.Tx:
			case at < len(granted) && granted[at] == x:
				at++
				if clashWith(x, ahead...) {
					t.Fatalf("LockFree(%#v, %v): %#v went ahead of one that waits longer", m.locks, m.x.Tx, x)
				}
			default:
				if !clashWith(x, got.Held...) && !clashWith(x, ahead...) {
					t.Fatalf("LockFree(%#v, %v): %#v waits for nobody", m.locks, m.x.Tx, x)
				}
				ahead = append(ahead, x)
			}
		}
		if at != len(granted) || !slices.Equal(ahead, got.Wait) {
			t.Fatalf("LockFree(%#v, %v): %#v, %#v aren't in the order in which they waited", m.locks, m.x.Tx, got, granted)
		}
	}
}

func TestP9AQueueGoesInItsOrder(t *testing.T) {
	names := manyNames(impl.MaxLocks)
	var l impl.Locks
	for i, x := range names {
		var code int
		l, code = impl.LockAsk(l, impl.Lock{Tx: x, Range: impl.PointOf("k"), Ex: true})
		if want := min(i, 1) * 3; code != want {
			t.Fatalf("the ask %d has code %d, want %d", i, code, want)
		}
	}
	for i, x := range names {
		var granted []impl.Lock
		l, granted = impl.LockFree(l, x)
		if i+1 < len(names) && (len(granted) != 1 || granted[0].Tx != names[i+1] || !slices.Equal(granted, l.Held)) {
			t.Fatalf("behind %d that were freed %#v went, and %#v are held", i+1, granted, l.Held)
		}
	}
	if !sameLocks(l, impl.Locks{}) {
		t.Errorf("all are freed, and %#v are left", l)
	}
}

// Readers that come one after the other never pass by a writer who waits.
func TestP9NobodyIsPassedByForever(t *testing.T) {
	names := manyNames(42)
	writer := impl.Lock{Tx: names[0], Range: impl.Range{Lo: "a"}, Ex: true}
	l, _ := impl.LockAsk(impl.Locks{}, impl.Lock{Tx: names[1], Range: impl.PointOf("k")})
	l, code := impl.LockAsk(l, writer)
	if code != 3 {
		t.Fatalf("the writer has code %d", code)
	}
	for _, x := range names[2:] {
		if l, code = impl.LockAsk(l, impl.Lock{Tx: x, Range: impl.PointOf("k")}); code != 3 {
			t.Fatalf("a reader behind the writer has code %d", code)
		}
	}
	l, granted := impl.LockFree(l, names[1])
	if !slices.Equal(granted, []impl.Lock{writer}) {
		t.Errorf("behind the first reader %#v went", granted)
	}
	if l, granted = impl.LockFree(l, writer.Tx); len(granted) != 40 || len(l.Wait) != 0 {
		t.Errorf("behind the writer %#v went", granted)
	}
}

func TestP9WhoIsFreedHoldsNothing(t *testing.T) {
	for _, m := range turnsOf(903, 400) {
		got, granted := impl.LockFree(m.locks, m.x.Tx)
		for _, x := range slices.Concat(got.Held, got.Wait, granted) {
			if x.Tx == m.x.Tx {
				t.Fatalf("LockFree(%#v, %v) leaves %#v", m.locks, m.x.Tx, x)
			}
		}
		for _, x := range slices.Concat(m.locks.Held, m.locks.Wait) {
			wantHas(t, got, m.x.Tx, x.Range, false, false)
		}
		for _, x := range got.Held {
			wantHas(t, got, x.Tx, x.Range, x.Ex, true)
		}
		again, none := impl.LockFree(got, m.x.Tx)
		if !sameLocks(again, got) || len(none) != 0 {
			t.Fatalf("freed twice %#v becomes %#v, %#v", got, again, none)
		}
	}
}

// edgeNumbers: those beside the ends of a name's parts, and far ones, some of
// which would be right when cut to fewer bits.
func edgeNumbers() []int {
	return []int{-1, 0, 1, 2, 6, 7, 8, 9, 10, 99, 100, 998, 999, 1000, 1001, 9999, -999, 256 + 1, 65536 + 1, 1 << 32, 1<<32 + 1, -1<<32 + 1,
		impl.MaxNum, impl.MaxNum + 1, math.MinInt64, math.MinInt64 + 1, math.MaxInt64, math.MaxInt64 - 1}
}

func edgeNames() []impl.Tx {
	var l []impl.Tx
	for _, c := range edgeNumbers() {
		for _, e := range edgeNumbers() {
			for _, n := range edgeNumbers() {
				l = append(l, impl.Tx{C: c, E: e, N: n})
			}
		}
	}
	return l
}

func wrongNames() []impl.Tx {
	return slices.DeleteFunc(edgeNames(), rightName)
}

func wantName(t *testing.T, s string, want impl.Tx, right bool) {
	t.Helper()
	if got, ok := impl.TextTx(s); got != want || ok != right {
		t.Errorf("TextTx(%q) is %v, %v, want %v, %v", s, got, ok, want, right)
	}
}

func TestP12NamesAreReadAsWritten(t *testing.T) {
	edges := []int{1, 2, 9, 10, 11, 99, 100, 101, 500, 998, 999}
	for c := range 8 {
		for i := 1; i <= 999; i++ {
			for _, j := range edges {
				for _, x := range []impl.Tx{{C: c, E: i, N: j}, {C: c, E: j, N: i}} {
					if got, ok := impl.TextTx(impl.TxText(x)); got != x || !ok {
						t.Fatalf("the text of %v is %q, read as %v, %v", x, impl.TxText(x), got, ok)
					}
				}
			}
		}
	}
}

// nameIn reads a text apart from the program's way.
func nameIn(s string) (impl.Tx, bool) {
	if !nameForm.MatchString(s) {
		return impl.Tx{}, false
	}
	var l []int
	for _, word := range strings.Split(s, ".") {
		n := 0
		for _, digit := range word {
			n = 10*n + int(digit-'0')
		}
		l = append(l, n)
	}
	return impl.Tx{C: l[0], E: l[1], N: l[2]}, true
}

func checkNameIn(t *testing.T, s string) {
	t.Helper()
	want, right := nameIn(s)
	wantName(t, s, want, right)
	if right && impl.TxText(want) != s {
		t.Errorf("TxText(%v) is %q, want %q", want, impl.TxText(want), s)
	}
}

// Each text that is one byte away from that of a name is read as it stands.
func TestP12OneFormOfANameAloneIsRead(t *testing.T) {
	for _, s := range []string{"0.1.1", "7.999.999", "3.10.100", "1.100.10", "2.9.99", "0.0.0", "7.99.9", "1.1"} {
		checkNameIn(t, s)
		for at := range len(s) + 1 {
			for c := range 256 {
				checkNameIn(t, s[:at]+string([]byte{byte(c)})+s[at:])
				if at < len(s) {
					checkNameIn(t, s[:at]+string([]byte{byte(c)})+s[at+1:])
				}
			}
			if at < len(s) {
				checkNameIn(t, s[:at]+s[at+1:])
			}
			checkNameIn(t, s[:at])
			checkNameIn(t, s[at:])
		}
	}
	throw := dice(912)
	for range 200000 {
		b := make([]byte, 3+throw.below(8))
		for i := range b {
			b[i] = "0123456789...+- "[throw.below(16)]
		}
		checkNameIn(t, string(b))
	}
}

// Of two right names of one coordinator that differ one is after the other.
func TestP12NamesOfOneCoordinatorHaveAnOrder(t *testing.T) {
	right := slices.DeleteFunc(edgeNames(), func(x impl.Tx) bool { return !rightName(x) })
	for _, a := range right {
		for _, b := range right {
			after, ahead := impl.TxAfter(a, b), impl.TxAfter(b, a)
			if a.C == b.C && a != b && after == ahead || (a.C != b.C || a == b) && (after || ahead) {
				t.Fatalf("%v is after %v: %v, and the other way: %v", a, b, after, ahead)
			}
		}
	}
	of := slices.DeleteFunc(right, func(x impl.Tx) bool { return x.C != 7 })
	slices.SortFunc(of, func(a, b impl.Tx) int { return 1000*(a.E-b.E) + a.N - b.N })
	for i, a := range of {
		for j, b := range of {
			if impl.TxAfter(a, b) != (i > j) {
				t.Fatalf("%v is after %v: %v", a, b, i <= j)
			}
		}
	}
}

func TestP15LockLimits(t *testing.T) {
	if impl.MaxLocks != 60 {
		t.Error("a constant isn't as the document says")
	}
}

func TestP15TxOk(t *testing.T) {
	for _, x := range edgeNames() {
		if got := impl.TxOk(x); got != rightName(x) {
			t.Errorf("TxOk(%v) is %v", x, got)
		}
	}
	for c, want := range map[int]bool{-1: false, 0: true, 7: true, 8: false} {
		wantBool(t, "TxOk of a C of "+strconv.Itoa(c), impl.TxOk(impl.Tx{C: c, E: 1, N: 1}), want)
	}
	for n, want := range map[int]bool{-1: false, 0: false, 1: true, 999: true, 1000: false} {
		wantBool(t, "TxOk of an E of "+strconv.Itoa(n), impl.TxOk(impl.Tx{E: n, N: 1}), want)
		wantBool(t, "TxOk of an N of "+strconv.Itoa(n), impl.TxOk(impl.Tx{E: 1, N: n}), want)
	}
}

func TestP15TxAfter(t *testing.T) {
	after := func(a, b string, want bool) {
		t.Helper()
		first, _ := nameIn(a)
		second, _ := nameIn(b)
		wantBool(t, "TxAfter of "+a+" and "+b, impl.TxAfter(first, second), want)
	}
	after("0.1.2", "0.1.1", true)
	after("0.1.1", "0.1.2", false)
	after("0.2.1", "0.1.1", true)
	after("0.1.1", "0.2.1", false)
	after("0.2.1", "0.1.999", true)
	after("0.1.999", "0.2.1", false)
	after("7.999.999", "7.999.998", true)
	after("7.999.1", "7.998.999", true)
	after("0.10.1", "0.9.1", true)
	after("0.1.10", "0.1.9", true)
	after("3.5.5", "3.5.5", false)
	after("1.1.1", "0.1.1", false)
	after("0.1.1", "1.1.1", false)
	after("1.2.2", "0.1.1", false)
	after("0.2.2", "1.1.1", false)
}

func TestP15TxAfterAsksForRightNames(t *testing.T) {
	for _, wrong := range wrongNames() {
		for _, right := range []impl.Tx{{C: 0, E: 1, N: 1}, {C: 0, E: 999, N: 999}, {C: 7, E: 500, N: 500}} {
			right.C = min(max(wrong.C, 0), 7)
			if impl.TxAfter(wrong, right) || impl.TxAfter(right, wrong) || impl.TxAfter(wrong, wrong) {
				t.Fatalf("%v, which isn't right, is after %v or the other way", wrong, right)
			}
		}
	}
	far := impl.Tx{C: 8, E: 2, N: 2}
	wantBool(t, "TxAfter of two names of no coordinator", impl.TxAfter(far, impl.Tx{C: 8, E: 1, N: 1}), false)
}

func TestP15TxText(t *testing.T) {
	for _, x := range edgeNames() {
		want := ""
		if rightName(x) {
			want = dotted(x)
		}
		if got := impl.TxText(x); got != want {
			t.Errorf("TxText(%v) is %q, want %q", x, got, want)
		}
	}
	if got := impl.TxText(impl.Tx{C: 2, E: 10, N: 300}); got != "2.10.300" {
		t.Errorf("the text of 2, 10 and 300 is %q", got)
	}
}

func TestP15TextTx(t *testing.T) {
	wantName(t, "0.1.1", impl.Tx{E: 1, N: 1}, true)
	wantName(t, "7.999.999", impl.Tx{C: 7, E: 999, N: 999}, true)
	wantName(t, "2.10.300", impl.Tx{C: 2, E: 10, N: 300}, true)
	for _, s := range []string{
		"", ".", "..", "...", "1", "1.", "1.1", "1.1.", ".1.1", "1..1", "..1", "1.1.1.", ".1.1.1", "1.1.1.1", "1.1..1", "1.1.1..",
		"01.1.1", "00.1.1", "1.01.1", "1.1.01", "1.001.1", "1.1.0001", "+1.1.1", "1.+1.1", "1.1.+1", "-1.1.1", "-0.1.1", "1.-1.1", "1.1.-1",
		" 1.1.1", "1.1.1 ", "1 .1.1", "1. 1.1", "1.1 .1", "1.1. 1", "1 1 1", "1.1.1\n", "\t1.1.1", "1.1.1\x00", "1,1,1", "1:1:1", "1.1:1", "1/1/1",
		"8.1.1", "9.1.1", "10.1.1", "1.0.1", "1.1.0", "0.0.0", "1.1000.1", "1.1.1000", "1.9999.1", "100.1.1", "1.1e2.1", "1.0x1.1", "1.1_0.1", "1.1.1a", "a.1.1", "1.a.1", "1.1.a",
		"4294967297.1.1", "1.4294967297.1", "1.1.18446744073709551617", "1.1.9223372036854775808", "1.-9223372036854775807.1", "1.1099511627776.1", "1.1.99999999999999999999999999999",
		"\u0661.1.1", "1.1.\uff11", "1\u00b71\u00b71", "\"1.1.1\"", strings.Repeat("1", 5000), strings.Repeat(".", 5000), strings.Repeat("1.", 5000), "1.1." + strings.Repeat("0", 5000) + "1",
	} {
		wantName(t, s, impl.Tx{}, false)
	}
}

// fullLocks: so many shared locks that are held, and so many exclusive ones that
// wait for them, each of its own transaction.
func fullLocks(held, wait int) impl.Locks {
	var l impl.Locks
	for i, x := range manyNames(held + wait) {
		if i < held {
			l.Held = append(l.Held, impl.Lock{Tx: x, Range: impl.Range{Lo: "b", Hi: "d"}})
		} else {
			l.Wait = append(l.Wait, impl.Lock{Tx: x, Range: impl.PointOf("c"), Ex: true})
		}
	}
	return l
}

func TestP15LocksOkOfRightLocks(t *testing.T) {
	for what, l := range map[string]impl.Locks{
		"none":                           {},
		"lists without locks":            {Held: []impl.Lock{}, Wait: []impl.Lock{}},
		"one that is shared":             locksOf("0:a-c", ""),
		"one that is exclusive":          locksOf("0!-", ""),
		"shared ones over all":           locksOf("0:- 1:- 2:- 3:-", ""),
		"ranges that touch":              locksOf("0!a-b 1!b-c 2!c- 3!-a", ""),
		"points beside one another":      {Held: []impl.Lock{{Tx: nameOf(0), Range: impl.PointOf("a"), Ex: true}, {Tx: nameOf(1), Range: impl.PointOf("a\x00"), Ex: true}}},
		"both kinds of one transaction":  locksOf("0:a-c 0!b-d 0!b-d 0:-", ""),
		"one held twice":                 locksOf("0!a-c 0!a-c", ""),
		"one that waits for a held one":  locksOf("0:a-c", "1!b-d"),
		"a reader that waits":            locksOf("0!a-c", "1:b-d"),
		"one that waits for a waiter":    locksOf("0:a-c", "1!b-e 2:d-f"),
		"a row of waiters":               locksOf("0:a-b", "1!a-c 2:b-d 3!c-e 4:d-f 5!e-"),
		"one that holds and waits":       locksOf("0:a-c 1:a-c", "0!a-c"),
		"two that hold and wait":         locksOf("0:a-c 1:a-c", "0!a-c 1!a-c"),
		"one that waits for several":     locksOf("0:a-b 1:b-c 2:c-d", "3!-"),
		"readers behind a writer":        locksOf("0:a-", "1!a- 2:a- 3:a-"),
		"the longest ends":               {Held: []impl.Lock{{Tx: nameOf(0), Range: impl.Range{Lo: longKey, Hi: longEnd}, Ex: true}, {Tx: nameOf(1), Range: impl.Range{Lo: longEnd}, Ex: true}}},
		"a range in which no key can be": {Held: []impl.Lock{{Tx: nameOf(0), Range: impl.Range{Hi: "\x00"}, Ex: true}}, Wait: []impl.Lock{{Tx: nameOf(1)}}},
	} {
		wantLocksOk(t, what, l, true)
		wantBool(t, "the model of LocksOk of "+what, locksStand(l), true)
	}
}

// wrongLocks: one thing in each isn't right.
func wrongLocks() map[string]impl.Locks {
	l := map[string]impl.Locks{
		"readers and a writer that are held":        locksOf("0:a-c 1:a-c 2!b-", ""),
		"a writer and a reader that are held":       locksOf("0!a-c 1:b-d", ""),
		"two writers that are held":                 locksOf("0!a-c 3!a-c", ""),
		"names that differ in E alone":              locksOf("0!a-c 2!a-c", ""),
		"names that differ in N alone":              locksOf("0!a-c 1!a-c", ""),
		"a held one in another":                     locksOf("0!- 1:m-n", ""),
		"held ones without end":                     locksOf("0:m- 1!a-", ""),
		"the first and the last clash":              locksOf("0:a-b 1:b-c 2:c-d 3!a-b", ""),
		"a clash behind one of the same name":       locksOf("0!a-b 0:b-c 1!b-c", ""),
		"one that waits without any held":           locksOf("", "0:a-c"),
		"one that waits for nobody":                 locksOf("0:a-c", "1:a-c"),
		"one that waits where ranges touch":         locksOf("0!a-c", "1!c-d"),
		"one that waits for its own":                locksOf("0!a-c", "0!a-c"),
		"one that waits for one behind it":          locksOf("0:a-b", "1!b-c 2!a-c"),
		"the second waits for nobody":               locksOf("0!a-b", "1:a-b 2:a-b 3!b-c"),
		"readers that wait for one another":         locksOf("0!a-b", "1:a-c 2:b-c"),
		"one that waits twice":                      locksOf("0!a-c", "1!a-c 1!a-c"),
		"one that waits twice, for others":          locksOf("0!a-c 2!d-e", "1:a-c 3:a-b 1:d-e"),
		"one that waits twice, the second for none": locksOf("0!a-c", "1!a-z 1!d-e"),
		"too many that are held":                    fullLocks(61, 0),
		"too many":                                  fullLocks(60, 1),
		"too many that wait":                        fullLocks(1, 60),
		"twice as many":                             fullLocks(60, 60),
		"very many":                                 fullLocks(3000, 3000),
	}
	for i, x := range someWrongNames() {
		name := "the wrong name " + strconv.Itoa(i)
		l[name+", held"] = impl.Locks{Held: []impl.Lock{{Tx: x}}}
		l[name+", held last"] = impl.Locks{Held: append(lockList("0:a-c 1:a-c"), impl.Lock{Tx: x, Range: impl.Range{Lo: "x"}, Ex: true})}
		l[name+", waits"] = impl.Locks{Held: lockList("0:a-c"), Wait: []impl.Lock{{Tx: x, Ex: true}}}
		l[name+", waits last"] = impl.Locks{Held: lockList("0:a-c"), Wait: append(lockList("1!a-c"), impl.Lock{Tx: x})}
	}
	for i, r := range wrongRanges() {
		name := "the wrong range " + strconv.Itoa(i)
		l[name+", held"] = impl.Locks{Held: []impl.Lock{{Tx: nameOf(0), Range: r, Ex: true}}}
		l[name+", held last"] = impl.Locks{Held: append(lockList("1:-"), impl.Lock{Tx: nameOf(0), Range: r})}
		l[name+", waits"] = impl.Locks{Held: lockList("1!-"), Wait: []impl.Lock{{Tx: nameOf(0), Range: r, Ex: true}}}
		l[name+", waits last"] = impl.Locks{Held: lockList("1!-"), Wait: append(lockList("2!-"), impl.Lock{Tx: nameOf(0), Range: r})}
	}
	return l
}

// someWrongNames: each part below and above, and far off.
func someWrongNames() []impl.Tx {
	l := []impl.Tx{{}}
	for _, n := range []int{-1, 0, 8, 1000, 1 << 32, 1<<32 + 1, math.MinInt64, math.MinInt64 + 1, math.MaxInt64} {
		l = append(l, impl.Tx{C: n, E: 1, N: 1}, impl.Tx{C: 1, E: n, N: 1}, impl.Tx{C: 1, E: 1, N: n})
	}
	return slices.DeleteFunc(l, rightName)
}

func TestP15LocksOkOfWrongLocks(t *testing.T) {
	for what, l := range wrongLocks() {
		wantLocksOk(t, what, l, false)
		wantBool(t, "the model of LocksOk of "+what, locksStand(l), false)
	}
}

func TestP15LocksOkKeepsToMaxLocks(t *testing.T) {
	for _, size := range [][2]int{{0, 0}, {59, 0}, {58, 1}, {1, 58}, {60, 0}, {59, 1}, {30, 30}, {1, 59}, {61, 0}, {60, 1}, {31, 30}, {1, 60}, {200, 0}, {1, 200}} {
		wantLocksOk(t, strconv.Itoa(size[0])+" and "+strconv.Itoa(size[1]), fullLocks(size[0], size[1]), size[0]+size[1] <= 60)
	}
	wantLocksOk(t, "as many of one transaction", impl.Locks{Held: slices.Repeat(lockList("0!a-c"), 60)}, true)
	wantLocksOk(t, "one more of one transaction", impl.Locks{Held: slices.Repeat(lockList("0!a-c"), 61)}, false)
}

func TestP15WrongLocksAreRefused(t *testing.T) {
	for what, l := range wrongLocks() {
		for _, x := range append(lockList("5:- 4!y-z 0:a-c 1!a-c"), impl.Lock{}) {
			wantAsked(t, l, x, impl.Locks{}, 1)
		}
		for _, x := range slices.Concat(l.Held[:min(len(l.Held), 3)], l.Wait[:min(len(l.Wait), 3)], []impl.Lock{{}, lockOf("5:-")}) {
			wantFreed(t, l, x.Tx, impl.Locks{}, nil)
			wantHas(t, l, x.Tx, x.Range, false, false)
			wantHas(t, l, x.Tx, x.Range, true, false)
		}
		if t.Failed() {
			t.Fatal(what)
		}
	}
}

func TestP15LockAsk(t *testing.T) {
	ask := func(held, wait, x, wantHeld, wantWait string, code int) {
		t.Helper()
		wantAsked(t, locksOf(held, wait), lockOf(x), locksOf(wantHeld, wantWait), code)
	}
	ask("", "", "0:a-c", "0:a-c", "", 0)
	ask("", "", "0!-", "0!-", "", 0)
	ask("0:a-c", "", "1:a-c", "0:a-c 1:a-c", "", 0)
	ask("0:a-c", "", "1!a-c", "0:a-c", "1!a-c", 3)
	ask("0!a-c", "", "1:a-c", "0!a-c", "1:a-c", 3)
	ask("0!a-c", "", "1!a-c", "0!a-c", "1!a-c", 3)
	ask("0!a-c", "", "1!c-d", "0!a-c 1!c-d", "", 0)
	ask("0!b-c", "", "1!a-b", "0!b-c 1!a-b", "", 0)
	ask("0!a-z", "", "1:m-n", "0!a-z", "1:m-n", 3)
	ask("0:m-n", "", "1!a-z", "0:m-n", "1!a-z", 3)
	ask("0:a-c", "", "1!b-", "0:a-c", "1!b-", 3)
	ask("0!m-", "", "1!x-", "0!m-", "1!x-", 3)
	ask("0!m-", "", "1!-m", "0!m- 1!-m", "", 0)
	ask("0:a-b 1:b-c 2:c-d", "", "3!c-d", "0:a-b 1:b-c 2:c-d", "3!c-d", 3)
	// With its own locks it never clashes, whatever their kind.
	ask("0:a-c", "", "0!a-c", "0:a-c 0!a-c", "", 0)
	ask("0!a-c", "", "0:b-d", "0!a-c 0:b-d", "", 0)
	ask("0!a-c", "", "0!a-c", "0!a-c 0!a-c", "", 0)
	ask("0:a-c 1:a-c", "", "0!b-d", "0:a-c 1:a-c", "0!b-d", 3)
	// With one that waits alone.
	ask("0:a-c", "1!b-e", "2:b-c", "0:a-c", "1!b-e 2:b-c", 3)
	ask("0:a-c", "1!b-e", "2:d-f", "0:a-c", "1!b-e 2:d-f", 3)
	ask("0:a-c", "1!b-e", "2:e-f", "0:a-c 2:e-f", "1!b-e", 0)
	ask("0!a-c", "1:a-c", "2:c-d", "0!a-c 2:c-d", "1:a-c", 0)
	ask("0!a-c", "1:a-e", "2:d-e", "0!a-c 2:d-e", "1:a-e", 0)
	ask("0!a-c", "1:a-e", "2!d-e", "0!a-c", "1:a-e 2!d-e", 3)
	ask("0:a-c", "1!a-c", "0:a-c", "0:a-c", "1!a-c 0:a-c", 3)
	ask("0:a-c 2!x-", "1!a-c 3!y-z", "4!m-n", "0:a-c 2!x- 4!m-n", "1!a-c 3!y-z", 0)
	// Who waits asks for nothing more, not even for what is free.
	ask("0:a-c", "1!a-c", "1:y-z", "", "", 1)
	ask("0:a-c", "1!a-c", "1!a-c", "", "", 1)
	ask("0:a-c 1:a-c", "0!a-c", "0:a-c", "", "", 1)
	ask("0:a-c 1:a-c", "0!a-c 1!a-c", "1:x-", "", "", 1)
}

// Names that differ at all clash, the same one never does.
func TestP15LockAskOfEachTwoNames(t *testing.T) {
	for i := range 10 {
		for j := range 10 {
			l := impl.Locks{Held: []impl.Lock{{Tx: nameOf(i), Range: impl.PointOf("k"), Ex: true}}}
			if _, code := impl.LockAsk(l, impl.Lock{Tx: nameOf(j), Range: impl.PointOf("k")}); code != 0 && i == j || code != 3 && i != j {
				t.Errorf("%v behind %v: code %d", nameOf(j), nameOf(i), code)
			}
		}
	}
}

func TestP15LockAskOfEachTwoRanges(t *testing.T) {
	all := rightRanges()
	for i, a := range all {
		for j, b := range all {
			kinds := (i + j) % 4
			held := impl.Lock{Tx: nameOf(0), Range: a, Ex: kinds&1 > 0}
			x := impl.Lock{Tx: nameOf(1), Range: b, Ex: kinds&2 > 0}
			_, code := impl.LockAsk(impl.Locks{Held: []impl.Lock{held}}, x)
			if want := code == 3; want != clash(held, x) || !want && code != 0 {
				t.Fatalf("LockAsk of %#v behind %#v has code %d", x, held, code)
			}
		}
	}
}

func TestP15LockAskOfWrongLocks(t *testing.T) {
	for _, l := range []impl.Locks{{}, locksOf("0:a-c", "1!a-c"), fullLocks(60, 0), fullLocks(1, 59)} {
		for _, x := range wrongNames() {
			if got, code := impl.LockAsk(l, impl.Lock{Tx: x, Range: impl.Range{Lo: "y"}}); code != 1 || !sameLocks(got, impl.Locks{}) {
				t.Fatalf("LockAsk for %v is %#v, %d", x, got, code)
			}
		}
		for _, r := range wrongRanges() {
			wantAsked(t, l, impl.Lock{Tx: nameOf(9), Range: r}, impl.Locks{}, 1)
			wantAsked(t, l, impl.Lock{Tx: nameOf(9), Range: r, Ex: true}, impl.Locks{}, 1)
		}
	}
}

func TestP15LockAskKeepsToMaxLocks(t *testing.T) {
	for _, size := range [][2]int{{59, 0}, {58, 1}, {30, 29}, {1, 58}} {
		l := fullLocks(size[0], size[1])
		for code, x := range map[int]impl.Lock{0: lockOf("9!x-z"), 3: lockOf("9!a-")} {
			want, is := askedOf(l, x)
			if is != code {
				t.Fatalf("the model has code %d, want %d", is, code)
			}
			wantAsked(t, l, x, want, code)
			wantLocksOk(t, "a full one", want, true)
		}
	}
	for _, size := range [][2]int{{60, 0}, {59, 1}, {30, 30}, {1, 59}} {
		l := fullLocks(size[0], size[1])
		for _, x := range lockList("9!x-z 9!a- 9:b-c") {
			wantAsked(t, l, x, impl.Locks{}, 2)
		}
		wantAsked(t, l, impl.Lock{Tx: l.Held[0].Tx, Range: impl.PointOf("z")}, impl.Locks{}, 2)
		// What isn't right is looked for first.
		for _, x := range l.Wait {
			wantAsked(t, l, impl.Lock{Tx: x.Tx, Range: impl.PointOf("z")}, impl.Locks{}, 1)
		}
		wantAsked(t, l, impl.Lock{}, impl.Locks{}, 1)
	}
}

func TestP15LockFree(t *testing.T) {
	free := func(held, wait string, who int, wantHeld, wantWait, granted string) {
		t.Helper()
		wantFreed(t, locksOf(held, wait), nameOf(who), locksOf(wantHeld, wantWait), lockList(granted))
	}
	free("", "", 0, "", "", "")
	free("0:a-c", "", 0, "", "", "")
	free("0:a-c 1:a-c 0!x-", "", 0, "1:a-c", "", "")
	// Who has none.
	free("0:a-c", "1!a-c", 2, "0:a-c", "1!a-c", "")
	free("0:a-c", "1!a-c 2:a-c 3!-", 4, "0:a-c", "1!a-c 2:a-c 3!-", "")
	// Who only waits.
	free("0:a-c", "1!a-c", 1, "0:a-c", "", "")
	free("0:a-c", "1!a-c 2:a-c", 1, "0:a-c 2:a-c", "", "2:a-c")
	free("0:a-c", "1!a-c 2!a-c", 1, "0:a-c", "2!a-c", "")
	free("0:a-c", "1!a-c 2!a-c", 2, "0:a-c", "1!a-c", "")
	free("0:a-c", "1!b-e 2:d-f 3:d-f", 1, "0:a-c 2:d-f 3:d-f", "", "2:d-f 3:d-f")
	// Who holds and waits.
	free("0:a-c 1:a-c", "0!a-c", 0, "1:a-c", "", "")
	free("0:a-c 1:a-c", "0!a-c", 1, "0:a-c 0!a-c", "", "0!a-c")
	free("0:a-c 1:a-c", "0!a-c 1!a-c", 0, "1:a-c 1!a-c", "", "1!a-c")
	free("0!a-c 1!x-z", "0:x-z 2:a-c 3:x-z", 0, "1!x-z 2:a-c", "3:x-z", "2:a-c")
	// None, one, several.
	free("0:a-c 1:a-c", "2!a-c", 0, "1:a-c", "2!a-c", "")
	free("0!a-c 1:x-", "2!a-c", 0, "1:x- 2!a-c", "", "2!a-c")
	free("0!a-c", "1:a-c 2:a-c 3:b-d", 0, "1:a-c 2:a-c 3:b-d", "", "1:a-c 2:a-c 3:b-d")
	free("0!-", "3!c-d 2!b-c 1!a-b", 0, "3!c-d 2!b-c 1!a-b", "", "3!c-d 2!b-c 1!a-b")
	// One that is granted keeps a later one waiting.
	free("0!a-c", "1!a-c 2!a-c", 0, "1!a-c", "2!a-c", "1!a-c")
	free("0!a-c", "1:a-c 2!a-c 3:a-c", 0, "1:a-c", "2!a-c 3:a-c", "1:a-c")
	free("0!-", "1!a-b 2!a-c 3!c-d 4:b-c", 0, "1!a-b 3!c-d", "2!a-c 4:b-c", "1!a-b 3!c-d")
	// One that stays keeps a later one waiting, of whom none is held.
	free("0!a-b 1:c-d", "2!c-e 3:d-e", 0, "1:c-d", "2!c-e 3:d-e", "")
	free("0!a-b 1:c-d", "2!c-e 3:d-e 4!a-b", 0, "1:c-d 4!a-b", "2!c-e 3:d-e", "4!a-b")
	// Rows in which each waits for the one ahead of it.
	free("0:a-b", "1!a-c 2:b-d 3!c-e 4:d-f", 0, "1!a-c", "2:b-d 3!c-e 4:d-f", "1!a-c")
	free("0:a-b", "1!a-c 2:b-d 3!c-e 4:d-f", 2, "0:a-b 3!c-e", "1!a-c 4:d-f", "3!c-e")
	free("0:a-b", "1!a-c 2:b-d 3!c-e 4:d-f", 1, "0:a-b 2:b-d", "3!c-e 4:d-f", "2:b-d")
}

// Nothing is of a name that isn't right: l comes as it is.
func TestP15LockFreeOfWrongNames(t *testing.T) {
	for _, l := range []impl.Locks{{}, locksOf("0:a-c 1!x-", "2!a-c 3:a-c 4:y-"), fullLocks(60, 0), fullLocks(30, 30)} {
		for _, x := range someWrongNames() {
			wantFreed(t, l, x, l, nil)
		}
	}
}

func TestP15LockFreeOfFullLocks(t *testing.T) {
	l := fullLocks(1, 59)
	wantFreed(t, l, l.Held[0].Tx, impl.Locks{Held: l.Wait[:1], Wait: l.Wait[1:]}, l.Wait[:1])
	readers := impl.Locks{Held: l.Wait[:1]}
	for _, x := range fullLocks(60, 0).Held[:59] {
		x.Tx.N = 999
		readers.Wait = append(readers.Wait, x)
	}
	wantFreed(t, readers, readers.Held[0].Tx, impl.Locks{Held: readers.Wait}, readers.Wait)
	own := impl.Locks{Held: slices.Repeat(lockList("0!a-c"), 60)}
	wantFreed(t, own, nameOf(0), impl.Locks{}, nil)
}

func TestP15LockHas(t *testing.T) {
	l := locksOf("0:b-d 0!m-p 1:b-c 1:c-d 2!x- 3:-a", "1!m-n 4:x-")
	has := func(who int, lo, hi string, ex, want bool) {
		t.Helper()
		wantHas(t, l, nameOf(who), impl.Range{Lo: lo, Hi: hi}, ex, want)
	}
	has(0, "b", "d", false, true)
	has(0, "b", "d", true, false)
	has(0, "b\x00", "c\xff", false, true)
	has(0, "a\xff", "d", false, false)
	has(0, "b", "d\x00", false, false)
	has(0, "b", "", false, false)
	has(0, "d", "e", false, false)
	has(0, "a", "b", false, false)
	has(0, "m", "p", true, true)
	has(0, "m", "p", false, true)
	has(0, "n", "o", true, true)
	has(0, "l", "p", true, false)
	has(0, "m", "q", true, false)
	has(0, "b", "p", false, false)
	// Two locks side by side aren't one.
	has(1, "b", "c", false, true)
	has(1, "c", "d", false, true)
	has(1, "b", "d", false, false)
	has(2, "x", "", true, true)
	has(2, "x", "", false, true)
	has(2, "y", "z", true, true)
	has(2, "w", "", false, false)
	has(3, "", "a", false, true)
	has(3, "", "a", true, false)
	has(3, "", "", false, false)
	has(3, "", "a\x00", false, false)
	// What waits isn't had, nor what another has.
	has(1, "m", "n", false, false)
	has(1, "m", "n", true, false)
	has(4, "x", "", false, false)
	has(4, "y", "z", false, false)
	has(5, "b", "c", false, false)
	has(1, "x", "", false, false)
	has(0, "x", "y", true, false)
	wantHas(t, impl.Locks{}, nameOf(0), impl.Range{}, false, false)
	wantHas(t, impl.Locks{}, impl.Tx{}, impl.Range{}, false, false)
	// An exclusive one behind a shared one is found too.
	wantHas(t, locksOf("0:a-c 0!a-c", ""), nameOf(0), impl.Range{Lo: "a", Hi: "c"}, true, true)
	wantHas(t, locksOf("0!a-c 0:a-c", ""), nameOf(0), impl.Range{Lo: "a", Hi: "c"}, true, true)
}

func TestP15LockHasOfWrongOnes(t *testing.T) {
	all := locksOf("0!-", "")
	for _, r := range wrongRanges() {
		wantHas(t, all, nameOf(0), r, false, false)
		wantHas(t, all, nameOf(0), r, true, false)
	}
	for _, x := range someWrongNames() {
		wantHas(t, all, x, impl.PointOf("k"), false, false)
	}
	wantHas(t, fullLocks(60, 0), manyNames(60)[59], impl.PointOf("c"), false, true)
	wantHas(t, fullLocks(61, 0), manyNames(60)[59], impl.PointOf("c"), false, false)
}

func TestP15LockHasOfEachTwoRanges(t *testing.T) {
	all := rightRanges()
	for i, a := range all {
		l := impl.Locks{Held: []impl.Lock{{Tx: nameOf(0), Range: a, Ex: i%2 > 0}}}
		for j, b := range all {
			ex := j%2 > 0
			wantHas(t, l, nameOf(0), b, ex, hasOf(l, nameOf(0), b, ex))
		}
	}
}

// smallLocks: all of three transactions over four ranges.
func smallLocks() []impl.Lock {
	var l []impl.Lock
	for _, who := range []string{"0", "1", "3"} {
		for _, kind := range []string{":", "!"} {
			l = append(l, lockList(who+kind+"a-b "+who+kind+"b-c "+who+kind+"a-c "+who+kind+"b-")...)
		}
	}
	return l
}

// smallRows: all lists of up to three of these locks.
func smallRows() [][]impl.Lock {
	rows := [][]impl.Lock{nil}
	for from, size := 0, 1; size <= 3; size++ {
		until := len(rows)
		for _, row := range rows[from:until] {
			for _, x := range smallLocks() {
				rows = append(rows, slices.Concat(row, []impl.Lock{x}))
			}
		}
		from = until
	}
	return rows
}

func TestP15AllSmallLocks(t *testing.T) {
	asks := smallLocks()
	for at, row := range smallRows() {
		for held := range len(row) + 1 {
			l := impl.Locks{Held: row[:held], Wait: row[held:]}
			stands := locksStand(l)
			if impl.LocksOk(l) != stands {
				t.Fatalf("LocksOk of %#v is %v", l, !stands)
			}
			// What isn't right is refused whatever is asked, so of each a few will do.
			for i := at % 5; i < len(asks); i += 5 {
				want, code := askedOf(l, asks[i])
				wantAsked(t, l, asks[i], want, code)
			}
			for _, who := range []int{0, 1, 3} {
				freed, granted := freedOf(l, nameOf(who))
				wantFreed(t, l, nameOf(who), freed, granted)
			}
			x := asks[at%len(asks)]
			wantHas(t, l, x.Tx, x.Range, x.Ex, hasOf(l, x.Tx, x.Range, x.Ex))
		}
		if t.Failed() {
			return
		}
	}
}

func TestP15ThrownLivesOfLocks(t *testing.T) {
	for _, m := range turnsOf(915, 1500) {
		want, code := askedOf(m.locks, m.x)
		wantAsked(t, m.locks, m.x, want, code)
		freed, granted := freedOf(m.locks, m.x.Tx)
		wantFreed(t, m.locks, m.x.Tx, freed, granted)
		wantHas(t, m.locks, m.x.Tx, m.x.Range, m.x.Ex, hasOf(m.locks, m.x.Tx, m.x.Range, m.x.Ex))
		wantLocksOk(t, "a moment", m.locks, true)
		if t.Failed() {
			return
		}
	}
}

// Locks as they come, right ones with one thing changed among them.
func TestP15ThrownLocks(t *testing.T) {
	throw := dice(916)
	for i, m := range turnsOf(917, 1500) {
		l := cloneLocks(m.locks)
		for _, list := range [][]impl.Lock{l.Held, l.Wait} {
			if len(list) > 0 && throw.below(2) == 0 {
				list[throw.below(len(list))] = thrownLock(&throw, 5, 4)
			}
		}
		if i%3 == 0 && len(l.Wait) > 0 {
			l.Wait = slices.Insert(l.Wait, throw.below(len(l.Wait)), thrownLock(&throw, 5, 4))
		}
		wantLocksOk(t, "thrown ones", l, locksStand(l))
		want, code := askedOf(l, m.x)
		wantAsked(t, l, m.x, want, code)
		freed, granted := freedOf(l, m.x.Tx)
		wantFreed(t, l, m.x.Tx, freed, granted)
		wantHas(t, l, m.x.Tx, m.x.Range, false, hasOf(l, m.x.Tx, m.x.Range, false))
		if t.Failed() {
			return
		}
	}
}

// lockAnswers: all lists that the chapter's functions answer, by call.
func lockAnswers(l impl.Locks, x impl.Lock) map[string][]any {
	asked, _ := impl.LockAsk(l, x)
	freed, granted := impl.LockFree(l, x.Tx)
	same, none := impl.LockFree(l, impl.Tx{})
	impl.LocksOk(l)
	impl.LockHas(l, x.Tx, x.Range, x.Ex)
	return map[string][]any{"LockAsk": {asked}, "LockFree": {freed, granted}, "LockFree of no name": {same, none}}
}

func checkLockMemory(t *testing.T, l impl.Locks, x impl.Lock) {
	t.Helper()
	before := allText(true, l)
	first, second := lockAnswers(l, x), lockAnswers(l, x)
	if allText(true, l) != before {
		t.Errorf("an argument is changed: %#v, %#v", l, x)
	}
	for name, answer := range first {
		if allText(false, answer...) != allText(false, second[name]...) {
			t.Errorf("a second %s of %#v, %#v answers another thing", name, l, x)
		}
		if sharesMemory(slices.Concat(answer, second[name], []any{l.Held})...) || sharesMemory(slices.Concat(answer, []any{l.Wait})...) {
			t.Errorf("of %s of %#v, %#v two lists share memory", name, l, x)
		}
	}
}

func TestP15LocksAreNewMemory(t *testing.T) {
	mark := lockOf("9!m-n")
	for _, m := range turnsOf(918, 150) {
		checkLockMemory(t, impl.Locks{Held: marked(m.locks.Held, mark), Wait: marked(m.locks.Wait, mark)}, m.x)
	}
	for _, l := range []impl.Locks{fullLocks(60, 0), fullLocks(59, 0), fullLocks(1, 59), fullLocks(1, 58), fullLocks(30, 30)} {
		for _, x := range []impl.Lock{mark, l.Held[0], {Tx: l.Held[0].Tx, Range: impl.Range{Lo: "x"}}} {
			checkLockMemory(t, impl.Locks{Held: marked(l.Held, mark), Wait: marked(l.Wait, mark)}, x)
		}
	}
}

// Held and Wait may be pieces of one memory; those of an answer are not.
func TestP15LocksOfOneMemoryAreApart(t *testing.T) {
	all := lockList("0!a-c 4:x- 1:a-c 2!a-c 3:b-d 9!m-n 9!m-n")
	for _, x := range lockList("5:- 5!m-n 0:a-c 1:y- 2:y-") {
		checkLockMemory(t, impl.Locks{Held: all[:2], Wait: all[2:5]}, x)
		checkLockMemory(t, impl.Locks{Held: all[1:2], Wait: all[:0]}, x)
		checkLockMemory(t, impl.Locks{Held: all[:0], Wait: all[:0]}, x)
	}
}

func TestP15RefusalsChangeNoLocks(t *testing.T) {
	mark := lockOf("9!m-n")
	for _, l := range wrongLocks() {
		checkLockMemory(t, impl.Locks{Held: marked(l.Held, mark), Wait: marked(l.Wait, mark)}, lockOf("0:a-c"))
	}
	for _, x := range []impl.Lock{{}, {Tx: nameOf(9), Range: impl.Range{Lo: "b", Hi: "a"}}, {Tx: impl.Tx{C: 8, E: 1, N: 1}}, lockOf("1:y-")} {
		checkLockMemory(t, impl.Locks{Held: marked(lockList("0!a-c"), mark), Wait: marked(lockList("1:a-c"), mark)}, x)
	}
}
