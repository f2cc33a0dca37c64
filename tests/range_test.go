package tests

import (
	"math"
	"slices"
	"strings"
	"testing"

	"loop.example/g00392/impl"
)

// The longest key, the ends just behind it, and what is longer than any end.
var (
	longKey = strings.Repeat("m", impl.MaxKey)
	longEnd = strings.Repeat("m", impl.MaxKey+1)
	tooLong = strings.Repeat("m", impl.MaxKey+2)
	topKey  = strings.Repeat("\xff", impl.MaxKey)
	topEnd  = strings.Repeat("\xff", impl.MaxKey+1)
)

// someEnds: texts short enough to be Lo or Hi, no two alike, not in order.
func someEnds() []string {
	return []string{"b", "", "\x00", "a", "a\x00", "\x00\x00", "aa", "ab", "A", "b\x00", "c", "\x7f", "\x80", "\xc3\xa9", "\xff", "\xff\x00",
		longKey, longKey + "\x00", longEnd, longKey[1:], longKey[1:] + "n", topKey, topKey + "\x00", topEnd}
}

func someKeys() []string {
	return slices.DeleteFunc(someEnds(), func(s string) bool { return len(s) < 1 || len(s) > impl.MaxKey })
}

// rightRanges: all right ones whose Lo and Hi are among someEnds.
func rightRanges() []impl.Range {
	var l []impl.Range
	for _, lo := range someEnds() {
		for _, hi := range someEnds() {
			if hi == "" || strings.Compare(lo, hi) < 0 {
				l = append(l, impl.Range{Lo: lo, Hi: hi})
			}
		}
	}
	return l
}

// wrongRanges: each Lo and Hi that is too long, and each Hi not above its Lo.
func wrongRanges() []impl.Range {
	l := []impl.Range{{Lo: tooLong}, {Hi: tooLong}, {Lo: "a", Hi: tooLong}, {Lo: tooLong, Hi: "z"}, {Lo: tooLong, Hi: tooLong + "m"},
		{Lo: topEnd, Hi: topEnd + "\xff"}, {Lo: strings.Repeat("a", 5000)}, {Hi: strings.Repeat("z", 5000)}}
	for _, s := range someEnds() {
		if s != "" {
			l = append(l, impl.Range{Lo: s, Hi: s}, impl.Range{Lo: s + "\x00", Hi: s})
		}
	}
	return append(l, impl.Range{Lo: "c", Hi: "b"}, impl.Range{Lo: "\x80", Hi: "\x7f"}, impl.Range{Lo: "b", Hi: "ab"}, impl.Range{Lo: topEnd, Hi: "a"})
}

// isIn: whether a text, key or not, lies in a range that is right.
func isIn(r impl.Range, s string) bool {
	return strings.Compare(s, r.Lo) >= 0 && (r.Hi == "" || strings.Compare(s, r.Hi) < 0)
}

func rightSplits() [][]string {
	return [][]string{nil, {}, {"a"}, {"\x00"}, {longKey}, {topKey}, {"a", "b"}, {"a", "a\x00"}, {"b", "\x80"}, {"\x00", topKey},
		{"a", "b", "c"}, {"\x00", "\x00\x00", "\x00\x00\x00"}, {"a", longKey, "\xff"}, {"\x7f", "\x80", "\xff"}, {longKey[1:], longKey, longKey[1:] + "n"}}
}

func wrongSplits() [][]string {
	many := make([]string, 1000)
	for i := range many {
		many[i] = "k" + strings.Repeat("a", i%10)
	}
	return [][]string{{""}, {"", "a"}, {"a", ""}, {"a", "b", ""}, {longEnd}, {"a", longEnd}, {longEnd, "z"}, {"a", "b", tooLong}, {"a", "a"}, {"b", "a"},
		{"a", "b", "b"}, {"a", "c", "b"}, {"b", "a", "c"}, {"c", "b", "a"}, {"\x80", "\x7f"}, {"a\x00", "a"}, {"ab", "b", "ac"},
		{"a", "b", "c", "d"}, {"a", "b", "c", "d", "e"}, {"a", "a", "a", "a"}, {"", "", "", ""}, many}
}

// wrongShards: numbers of no shard where there are so many of them.
func wrongShards(size int) []int {
	return []int{-1, -2, -size, size, size + 1, 2*size + 100, 1 << 32, -1 << 32, 1<<32 + 1, math.MaxInt64, math.MaxInt64 - 1, math.MinInt64, math.MinInt64 + 1}
}

func wantBool(t *testing.T, what string, got, want bool) {
	t.Helper()
	if got != want {
		t.Errorf("%q is %v, want %v", what, got, want)
	}
}

func wantBoth(t *testing.T, a, b, want impl.Range, right bool) {
	t.Helper()
	if got, ok := impl.RangeBoth(a, b); got != want || ok != right {
		t.Errorf("RangeBoth(%q, %q) is %q, %v, want %q, %v", a, b, got, ok, want, right)
	}
}

func wantIn(t *testing.T, a, b impl.Range, want bool) {
	t.Helper()
	if got := impl.RangeIn(a, b); got != want {
		t.Errorf("RangeIn(%q, %q) is %v, want %v", a, b, got, want)
	}
}

func wantPart(t *testing.T, l []string, i int, want impl.Range, right bool) {
	t.Helper()
	if got, ok := impl.PartOf(l, i); got != want || ok != right {
		t.Errorf("PartOf(%q, %d) is %q, %v, want %q, %v", l, i, got, ok, want, right)
	}
}

func wantRoute(t *testing.T, l []string, k string, want int) {
	t.Helper()
	if got := impl.Route(l, k); got != want {
		t.Errorf("Route(%q, %q) is %d, want %d", l, k, got, want)
	}
}

func wantCut(t *testing.T, l []string, r impl.Range, want ...impl.Part) {
	t.Helper()
	if got := impl.Cut(l, r); !slices.Equal(got, want) {
		t.Errorf("Cut(%q, %q) is %#v, want %#v", l, r, got, want)
	}
}

func TestP8EachKeyHasOneShard(t *testing.T) {
	for _, l := range rightSplits() {
		for _, k := range someKeys() {
			var of []int
			for i := range len(l) + 1 {
				r, ok := impl.PartOf(l, i)
				if ok && impl.RangeHas(r, k) {
					of = append(of, i)
				}
			}
			if len(of) != 1 || impl.Route(l, k) != of[0] {
				t.Errorf("splits %q: Route of %q is %d, in the ranges of shards %v", l, k, impl.Route(l, k), of)
			}
		}
	}
}

func TestP8AKeyIsInItsRange(t *testing.T) {
	for _, r := range rightRanges() {
		for _, k := range someKeys() {
			if got := impl.RangeHas(r, k); got != isIn(r, k) {
				t.Errorf("RangeHas(%q, %q) is %v", r, k, got)
			}
		}
	}
}

func TestP8APointHasItsKeyAlone(t *testing.T) {
	for _, k := range someKeys() {
		r := impl.PointOf(k)
		wantBool(t, "RangeOk of a point", impl.RangeOk(r), true)
		for _, other := range someKeys() {
			if got := impl.RangeHas(r, other); got != (k == other) {
				t.Errorf("the point of %q has %q: %v", k, other, got)
			}
		}
	}
	for _, behind := range []string{longKey[1:] + "n", "n"} {
		wantBool(t, "a key behind the point of the longest key", impl.RangeHas(impl.PointOf(longKey), behind), false)
	}
	wantBool(t, "the least key behind the point of a", impl.RangeHas(impl.PointOf("a"), "a\x00"), false)
}

// What two ranges have in common is what lies in both; where they have no
// range in common, no text lies in both.
func TestP8RangesMeetAsSets(t *testing.T) {
	all := rightRanges()
	for _, a := range all {
		for _, b := range all {
			both, ok := impl.RangeBoth(a, b)
			if ok && !impl.RangeOk(both) || !ok && both != (impl.Range{}) {
				t.Fatalf("RangeBoth(%q, %q) is %q, %v", a, b, both, ok)
			}
			for _, s := range someEnds() {
				if want := isIn(a, s) && isIn(b, s); want != (ok && isIn(both, s)) {
					t.Fatalf("RangeBoth(%q, %q) is %q, %v: %q lies in both: %v", a, b, both, ok, s, want)
				}
			}
		}
	}
}

// Each Lo and Hi is among the texts asked, so that one which lies in a alone
// is found wherever there is any.
func TestP8RangesLieWithinAsSets(t *testing.T) {
	all := rightRanges()
	for _, a := range all {
		for _, b := range all {
			alone := slices.ContainsFunc(someEnds(), func(s string) bool { return isIn(a, s) && !isIn(b, s) })
			wantIn(t, a, b, !alone)
		}
	}
}

func TestP8CutsAreTheKeysOfTheRange(t *testing.T) {
	for _, l := range rightSplits() {
		for _, r := range rightRanges() {
			parts := impl.Cut(l, r)
			checkPartsStand(t, l, r, parts)
			for _, k := range someKeys() {
				checkKeyOfParts(t, l, r, parts, k)
			}
		}
	}
}

// checkPartsStand: in the order of the shards, and just those that meet r.
func checkPartsStand(t *testing.T, l []string, r impl.Range, parts []impl.Part) {
	t.Helper()
	at := 0
	for i := range len(l) + 1 {
		shard, _ := impl.PartOf(l, i)
		both, ok := impl.RangeBoth(shard, r)
		if !ok {
			continue
		}
		if at >= len(parts) || parts[at] != (impl.Part{Shard: i, Range: both}) {
			t.Fatalf("Cut(%q, %q) is %#v: shard %d has %q in common", l, r, parts, i, both)
		}
		at++
	}
	if at != len(parts) {
		t.Fatalf("Cut(%q, %q) is %#v: more than %d parts", l, r, parts, at)
	}
}

func checkKeyOfParts(t *testing.T, l []string, r impl.Range, parts []impl.Part, k string) {
	t.Helper()
	var of []int
	for _, p := range parts {
		if isIn(p.Range, k) {
			of = append(of, p.Shard)
		}
	}
	if !isIn(r, k) && len(of) > 0 || isIn(r, k) && !slices.Equal(of, []int{impl.Route(l, k)}) {
		t.Errorf("Cut(%q, %q) is %#v: %q is in the parts of shards %v", l, r, parts, k, of)
	}
}

func TestP15Limits(t *testing.T) {
	if impl.MaxKey != 16 || impl.MaxVal != 60 || impl.MaxShards != 4 {
		t.Error("a constant isn't as the document says")
	}
}

func TestP15KeyOk(t *testing.T) {
	for _, k := range []string{"a", "\x00", "\x00a", "a\x00b", "\x80", "\xff", "\xff\xfe", "é", " ", "\"", longKey, topKey, strings.Repeat("\x00", impl.MaxKey)} {
		wantBool(t, "KeyOk of "+k, impl.KeyOk(k), true)
	}
	for _, k := range []string{"", longEnd, longKey + "\x00", topEnd, tooLong, strings.Repeat("é", 9), strings.Repeat("a", 256+1), strings.Repeat("a", 5000)} {
		wantBool(t, "KeyOk of "+k, impl.KeyOk(k), false)
	}
	// Eight runes of two bytes are as long as a key may be: bytes count.
	wantBool(t, "KeyOk of eight runes of two bytes", impl.KeyOk(strings.Repeat("é", 8)), true)
}

func TestP15ValOk(t *testing.T) {
	for _, size := range []int{0, 1, impl.MaxKey + 1, impl.MaxVal - 1, impl.MaxVal} {
		wantBool(t, "ValOk", impl.ValOk(strings.Repeat("v", size)), true)
		wantBool(t, "ValOk of bytes 0", impl.ValOk(strings.Repeat("\x00", size)), true)
		wantBool(t, "ValOk of bytes 255", impl.ValOk(strings.Repeat("\xff", size)), true)
	}
	for _, size := range []int{impl.MaxVal + 1, impl.MaxVal + 2, 256, 256 + 5, 5000} {
		wantBool(t, "ValOk of too long a value", impl.ValOk(strings.Repeat("v", size)), false)
		wantBool(t, "ValOk of too many bytes 0", impl.ValOk(strings.Repeat("\x00", size)), false)
	}
	wantBool(t, "ValOk of 30 runes of two bytes", impl.ValOk(strings.Repeat("é", 30)), true)
	wantBool(t, "ValOk of 31 runes of two bytes", impl.ValOk(strings.Repeat("é", 31)), false)
}

func TestP15RangeOk(t *testing.T) {
	for _, r := range rightRanges() {
		if !impl.RangeOk(r) {
			t.Errorf("RangeOk(%q) is false", r)
		}
	}
	for _, r := range wrongRanges() {
		if impl.RangeOk(r) {
			t.Errorf("RangeOk(%q) is true", r)
		}
	}
	for _, r := range []impl.Range{{}, {Lo: "a"}, {Hi: "a"}, {Hi: "\x00"}, {Lo: longEnd}, {Hi: longEnd}, {Lo: longKey, Hi: longEnd}, {Lo: "a", Hi: "a\x00"}, {Lo: "\x7f", Hi: "\x80"}} {
		if !impl.RangeOk(r) {
			t.Errorf("RangeOk(%q) is false", r)
		}
	}
}

func TestP15RangeHas(t *testing.T) {
	has := func(lo, hi, k string, want bool) {
		t.Helper()
		if got := impl.RangeHas(impl.Range{Lo: lo, Hi: hi}, k); got != want {
			t.Errorf("RangeHas from %q to %q of %q is %v, want %v", lo, hi, k, got, want)
		}
	}
	has("b", "d", "b", true)
	has("b", "d", "c", true)
	has("b", "d", "cz", true)
	has("b", "d", "d", false)
	has("b", "d", "a", false)
	has("b", "d", "az", false)
	has("b", "d", "d\x00", false)
	has("b", "", "b", true)
	has("b", "", topKey, true)
	has("b", "", "a\xff", false)
	has("", "b", "\x00", true)
	has("", "b", "b", false)
	has("", "", topKey, true)
	has("\x7f", "\xff", "\x80", true)
	has(longKey, longEnd, longKey, true)
	has(longEnd, "", longKey, false)
	has(longEnd, "", longKey[1:]+"n", true)
}

func TestP15RangeHasAsksForRightOnes(t *testing.T) {
	for _, k := range []string{"", longEnd, tooLong, topEnd, strings.Repeat("c", 300)} {
		for _, r := range rightRanges() {
			if impl.RangeHas(r, k) {
				t.Errorf("RangeHas(%q, %q) is true of no key", r, k)
			}
		}
	}
	for _, r := range wrongRanges() {
		for _, k := range append(someKeys(), "", "a", longEnd) {
			if impl.RangeHas(r, k) {
				t.Errorf("RangeHas(%q, %q) is true of a wrong range", r, k)
			}
		}
	}
}

func TestP15PointOf(t *testing.T) {
	for _, k := range someKeys() {
		if got := impl.PointOf(k); got != (impl.Range{Lo: k, Hi: k + "\x00"}) {
			t.Errorf("PointOf(%q) is %q", k, got)
		}
	}
	for _, k := range []string{"", longEnd, longKey + "\x00", tooLong, strings.Repeat("a", 5000)} {
		if got := impl.PointOf(k); got != (impl.Range{}) {
			t.Errorf("PointOf(%q) is %q, want nothing", k, got)
		}
	}
}

func TestP15RangeBoth(t *testing.T) {
	wantBoth(t, impl.Range{Lo: "a", Hi: "d"}, impl.Range{Lo: "c", Hi: "f"}, impl.Range{Lo: "c", Hi: "d"}, true)
	wantBoth(t, impl.Range{Lo: "c", Hi: "f"}, impl.Range{Lo: "a", Hi: "d"}, impl.Range{Lo: "c", Hi: "d"}, true)
	wantBoth(t, impl.Range{Lo: "a", Hi: "z"}, impl.Range{Lo: "c", Hi: "d"}, impl.Range{Lo: "c", Hi: "d"}, true)
	wantBoth(t, impl.Range{Lo: "a", Hi: "c"}, impl.Range{Lo: "c", Hi: "d"}, impl.Range{}, false)
	wantBoth(t, impl.Range{Lo: "c", Hi: "d"}, impl.Range{Lo: "a", Hi: "c"}, impl.Range{}, false)
	wantBoth(t, impl.Range{Lo: "a", Hi: "b"}, impl.Range{Lo: "c", Hi: "d"}, impl.Range{}, false)
	wantBoth(t, impl.Range{Lo: "a"}, impl.Range{Lo: "c", Hi: "d"}, impl.Range{Lo: "c", Hi: "d"}, true)
	wantBoth(t, impl.Range{Lo: "c", Hi: "d"}, impl.Range{Lo: "a"}, impl.Range{Lo: "c", Hi: "d"}, true)
	wantBoth(t, impl.Range{Lo: "d"}, impl.Range{Lo: "c", Hi: "d"}, impl.Range{}, false)
	wantBoth(t, impl.Range{Lo: "d"}, impl.Range{Lo: "c"}, impl.Range{Lo: "d"}, true)
	wantBoth(t, impl.Range{}, impl.Range{}, impl.Range{}, true)
	wantBoth(t, impl.Range{}, impl.Range{Hi: "\x00"}, impl.Range{Hi: "\x00"}, true)
	wantBoth(t, impl.PointOf(longKey), impl.Range{Lo: longKey}, impl.PointOf(longKey), true)
	wantBoth(t, impl.PointOf("a"), impl.PointOf("a\x00"), impl.Range{}, false)
	wantBoth(t, impl.Range{Lo: longEnd}, impl.Range{Hi: topEnd}, impl.Range{Lo: longEnd, Hi: topEnd}, true)
}

func TestP15RangeIn(t *testing.T) {
	wantIn(t, impl.Range{Lo: "b", Hi: "c"}, impl.Range{Lo: "a", Hi: "d"}, true)
	wantIn(t, impl.Range{Lo: "b", Hi: "c"}, impl.Range{Lo: "b", Hi: "c"}, true)
	wantIn(t, impl.Range{Lo: "b", Hi: "d"}, impl.Range{Lo: "b", Hi: "c"}, false)
	wantIn(t, impl.Range{Lo: "a", Hi: "c"}, impl.Range{Lo: "b", Hi: "c"}, false)
	wantIn(t, impl.Range{Lo: "b"}, impl.Range{Lo: "a"}, true)
	wantIn(t, impl.Range{Lo: "b"}, impl.Range{Lo: "b"}, true)
	wantIn(t, impl.Range{Lo: "a"}, impl.Range{Lo: "b"}, false)
	wantIn(t, impl.Range{Lo: "b"}, impl.Range{Lo: "a", Hi: "z"}, false)
	wantIn(t, impl.Range{Lo: "b", Hi: "c"}, impl.Range{Lo: "a"}, true)
	wantIn(t, impl.Range{Lo: "a", Hi: "b"}, impl.Range{Lo: "b", Hi: "c"}, false)
	wantIn(t, impl.Range{}, impl.Range{}, true)
	wantIn(t, impl.PointOf(longKey), impl.Range{Lo: longKey, Hi: longKey[1:] + "n"}, true)
	// No key lies between these two; Lo is held against Lo all the same.
	wantIn(t, impl.Range{}, impl.Range{Lo: "\x00"}, false)
}

func TestP15WrongRangesMeetNothing(t *testing.T) {
	for _, wrong := range wrongRanges() {
		for _, r := range append(rightRanges(), wrongRanges()...) {
			wantBoth(t, wrong, r, impl.Range{}, false)
			wantBoth(t, r, wrong, impl.Range{}, false)
			wantIn(t, wrong, r, false)
			wantIn(t, r, wrong, false)
		}
		for _, l := range rightSplits() {
			wantCut(t, l, wrong)
		}
	}
}

func TestP15SplitsOk(t *testing.T) {
	for _, l := range rightSplits() {
		if !impl.SplitsOk(l) {
			t.Errorf("SplitsOk(%q) is false", l)
		}
	}
	for _, l := range wrongSplits() {
		if impl.SplitsOk(l) {
			t.Errorf("SplitsOk(%q) is true", l)
		}
	}
}

func TestP15Route(t *testing.T) {
	l := []string{"b", "d", "f"}
	for _, x := range []struct {
		key   string
		shard int
	}{{"\x00", 0}, {"a", 0}, {"a\xff", 0}, {"b", 1}, {"b\x00", 1}, {"c", 1}, {"d", 2}, {"e\xff", 2}, {"f", 3}, {"g", 3}, {"\x80", 3}, {topKey, 3}} {
		wantRoute(t, l, x.key, x.shard)
	}
	wantRoute(t, []string{"b", "d"}, "z", 2)
	wantRoute(t, []string{"\x00"}, "\x00", 1)
	wantRoute(t, []string{longKey}, longKey, 1)
	wantRoute(t, []string{longKey}, longKey[1:], 0)
	wantRoute(t, nil, topKey, 0)
	wantRoute(t, []string{}, "\x00", 0)
}

func TestP15WrongSplitsAndKeysHaveNoShard(t *testing.T) {
	for _, l := range rightSplits() {
		for _, k := range []string{"", longEnd, longKey + "\x00", tooLong, strings.Repeat("a", 5000)} {
			wantRoute(t, l, k, -1)
		}
	}
	for _, l := range wrongSplits() {
		for _, k := range append(someKeys(), "", tooLong) {
			wantRoute(t, l, k, -1)
		}
		for i := range 6 {
			wantPart(t, l, i, impl.Range{}, false)
		}
		for _, i := range wrongShards(len(l) + 1) {
			wantPart(t, l, i, impl.Range{}, false)
		}
		for _, r := range append(rightRanges(), wrongRanges()...) {
			wantCut(t, l, r)
		}
	}
}

func TestP15PartOf(t *testing.T) {
	wantPart(t, nil, 0, impl.Range{}, true)
	wantPart(t, []string{"b"}, 0, impl.Range{Hi: "b"}, true)
	wantPart(t, []string{"b"}, 1, impl.Range{Lo: "b"}, true)
	l := []string{"b", "d", "f"}
	wantPart(t, l, 0, impl.Range{Hi: "b"}, true)
	wantPart(t, l, 1, impl.Range{Lo: "b", Hi: "d"}, true)
	wantPart(t, l, 2, impl.Range{Lo: "d", Hi: "f"}, true)
	wantPart(t, l, 3, impl.Range{Lo: "f"}, true)
	for _, l := range rightSplits() {
		for _, i := range wrongShards(len(l) + 1) {
			wantPart(t, l, i, impl.Range{}, false)
		}
	}
}

func TestP15Cut(t *testing.T) {
	l := []string{"b", "d", "f"}
	part := func(i int, lo, hi string) impl.Part {
		return impl.Part{Shard: i, Range: impl.Range{Lo: lo, Hi: hi}}
	}
	wantCut(t, l, impl.Range{}, part(0, "", "b"), part(1, "b", "d"), part(2, "d", "f"), part(3, "f", ""))
	wantCut(t, l, impl.Range{Lo: "a", Hi: "g"}, part(0, "a", "b"), part(1, "b", "d"), part(2, "d", "f"), part(3, "f", "g"))
	wantCut(t, l, impl.Range{Lo: "c", Hi: "cc"}, part(1, "c", "cc"))
	wantCut(t, l, impl.Range{Lo: "b", Hi: "d"}, part(1, "b", "d"))
	wantCut(t, l, impl.Range{Lo: "d", Hi: "e"}, part(2, "d", "e"))
	wantCut(t, l, impl.Range{Lo: "d", Hi: "f\x00"}, part(2, "d", "f"), part(3, "f", "f\x00"))
	wantCut(t, l, impl.Range{Hi: "a"}, part(0, "", "a"))
	wantCut(t, l, impl.Range{Lo: "f"}, part(3, "f", ""))
	wantCut(t, l, impl.Range{Lo: "e"}, part(2, "e", "f"), part(3, "f", ""))
	wantCut(t, l, impl.Range{Lo: topEnd}, part(3, topEnd, ""))
	wantCut(t, l, impl.PointOf("b"), part(1, "b", "b\x00"))
	wantCut(t, []string{longKey}, impl.PointOf(longKey), part(1, longKey, longKey+"\x00"))
	wantCut(t, nil, impl.Range{Lo: "a", Hi: "c"}, part(0, "a", "c"))
	wantCut(t, []string{}, impl.Range{}, part(0, "", ""))
}

// The list has room and a text behind its end, so that an append into it shows.
func TestP15SplitsAreNotChanged(t *testing.T) {
	room := []string{"b", "d", "f", "behind", "far behind"}
	before := slices.Clone(room)
	for size := range 6 {
		l := room[:size]
		for _, r := range []impl.Range{{}, {Lo: "a", Hi: "e"}, {Lo: "e", Hi: "a"}} {
			impl.Cut(l, r)
		}
		impl.SplitsOk(l)
		impl.Route(l, "c")
		impl.PartOf(l, 1)
		if !slices.Equal(room, before) {
			t.Fatalf("of %d splits one is changed: %q", size, room)
		}
	}
	wrong := []string{"f", "d", "b"}
	impl.Cut(wrong, impl.Range{})
	impl.Route(wrong, "c")
	if impl.SplitsOk(wrong) || !slices.Equal(wrong, []string{"f", "d", "b"}) {
		t.Errorf("wrong splits are changed: %q", wrong)
	}
}

func TestP15PartsAreNewMemory(t *testing.T) {
	l := []string{"b", "d", "f"}
	first := impl.Cut(l, impl.Range{Lo: "a"})
	second := impl.Cut(l, impl.Range{Lo: "a"})
	kept := slices.Clone(second)
	for i := range first[:cap(first)] {
		first[:cap(first)][i] = impl.Part{Shard: 9, Range: impl.Range{Lo: "x", Hi: "y"}}
	}
	if !slices.Equal(second, kept) || !slices.Equal(impl.Cut(l, impl.Range{Lo: "a"}), kept) {
		t.Error("two answers share memory")
	}
	l[0], l[1], l[2] = "x", "y", "z"
	if !slices.Equal(second, kept) {
		t.Error("an answer shares memory with the splits")
	}
}
