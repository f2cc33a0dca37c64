package tests

import (
	"bytes"
	"math"
	"slices"
	"strconv"
	"strings"
	"testing"

	"loop.example/g00392/impl"
)

var longVal = strings.Repeat("v", impl.MaxVal)

func leafPage(pairs ...string) impl.Page {
	var p impl.Page
	for i := 0; i < len(pairs); i += 2 {
		p.Keys, p.Vals = append(p.Keys, pairs[i]), append(p.Vals, pairs[i+1])
	}
	return p
}

func branchPage(keys []string, kids ...int) impl.Page {
	return impl.Page{Keys: keys, Kids: kids}
}

func samePage(a, b impl.Page) bool {
	return slices.Equal(a.Keys, b.Keys) && slices.Equal(a.Vals, b.Vals) && slices.Equal(a.Kids, b.Kids)
}

func padded(b []byte) []byte {
	return append(b, make([]byte, 512-len(b))...)
}

// pageText puts the parts of a page's bytes side by side, apart from the
// program's way.
func pageText(p impl.Page) []byte {
	text := func(s string) string { return string(varOf(len(s))) + s }
	s := "L" + string(varOf(len(p.Keys)))
	if len(p.Kids) > 0 {
		s = "B" + s[1:] + string(varOf(p.Kids[0]))
	}
	for i, k := range p.Keys {
		s += text(k)
		if len(p.Kids) > 0 {
			s += string(varOf(p.Kids[i+1]))
		} else {
			s += text(p.Vals[i])
		}
	}
	return padded([]byte(s))
}

// cutter takes parts off the front of a text; what isn't there makes it bad.
type cutter struct {
	rest string
	bad  bool
}

func (c *cutter) take(size int) string {
	if size > len(c.rest) {
		c.bad, size = true, 0
	}
	s := c.rest[:size]
	c.rest = c.rest[size:]
	return s
}

// num reads numbers of at most two digits: no page has a longer one.
func (c *cutter) num() int {
	first := c.take(1)
	if c.bad {
		return 0
	}
	if first[0] < 128 {
		return int(first[0])
	}
	second := c.take(1)
	if c.bad || second[0] == 0 || second[0] > 127 {
		c.bad = true
		return 0
	}
	return int(first[0]&127) | int(second[0])<<7
}

func (c *cutter) text(least, most int) string {
	s := c.take(c.num())
	c.bad = c.bad || len(s) < least || len(s) > most
	return s
}

func (c *cutter) kid() int {
	n := c.num()
	c.bad = c.bad || n < 2 || n > 399
	return n
}

// pageIn reads a page part by part, asking of each what is right on the spot.
func pageIn(b []byte) (impl.Page, bool) {
	if len(b) != 512 || b[0] != 'L' && b[0] != 'B' {
		return impl.Page{}, false
	}
	c := &cutter{rest: string(b[1:])}
	isLeaf := b[0] == 'L'
	size := c.num()
	if size < 1 || size > 4 || !isLeaf && size > 3 {
		return impl.Page{}, false
	}
	var p impl.Page
	if !isLeaf {
		p.Kids = append(p.Kids, c.kid())
	}
	for i := range size {
		p.Keys = append(p.Keys, c.text(1, 16))
		c.bad = c.bad || i > 0 && strings.Compare(p.Keys[i-1], p.Keys[i]) >= 0
		if isLeaf {
			p.Vals = append(p.Vals, c.text(0, 60))
		} else {
			p.Kids = append(p.Kids, c.kid())
		}
	}
	if c.bad || strings.Trim(c.rest, "\x00") != "" {
		return impl.Page{}, false
	}
	return p, true
}

// metaText puts the digits of a meta in their places one by one.
func metaText(m impl.Meta) []byte {
	b := make([]byte, 512)
	b[0] = 'M'
	for i := range 5 {
		digit := byte(m.Gen >> (32 - 8*i) & 255)
		b[1+i], b[507+i] = digit, digit
	}
	b[6], b[7] = byte(m.Root/256), byte(m.Root%256)
	return b
}

func metaIn(b []byte) (impl.Meta, bool) {
	if len(b) != 512 || b[0] != 'M' || string(b[1:6]) != string(b[507:]) || strings.Trim(string(b[8:507]), "\x00") != "" {
		return impl.Meta{}, false
	}
	gen := int(b[1])<<32 | int(b[2])<<24 | int(b[3])<<16 | int(b[4])<<8 | int(b[5])
	root := int(b[6])*256 + int(b[7])
	if gen == 0 || root == 1 || root > 399 {
		return impl.Meta{}, false
	}
	return impl.Meta{Gen: gen, Root: root}, true
}

// rightPages: each number of keys and kids, kids at both ends of the sheets, and
// the shortest and longest keys and values.
func rightPages() []impl.Page {
	return []impl.Page{
		leafPage("a", "x"), leafPage("a", ""), leafPage("\x00", "\x00"), leafPage(longKey, longVal), leafPage(topKey, strings.Repeat("\xff", 60)),
		leafPage("a", "1", "b", "2"), leafPage("a", "z", "a\x00", "y", "aa", "y"), leafPage("\x7f", "", "\x80", ""), leafPage("a", "1", "b", "2", "c", "3", "d", "4"),
		leafPage("\x00", "L", "\x01", "B", "\x02", "M", "\x03", "\x01a"), fullLeaf(),
		{Keys: []string{"k"}, Vals: []string{"v"}, Kids: []int{}},
		branchPage([]string{"m"}, 2, 300), branchPage([]string{"m"}, 2, 2), branchPage([]string{"m"}, 399, 2), branchPage([]string{"\x00"}, 399, 399),
		branchPage([]string{"m", "m\x00"}, 127, 128, 129), branchPage([]string{longKey, topKey}, 3, 255, 256), branchPage([]string{"a", "b", "c"}, 2, 3, 4, 5),
		branchPage([]string{"b", "ba", "c"}, 399, 398, 3, 2), fullBranch(), {Keys: []string{"k"}, Vals: []string{}, Kids: []int{2, 3}},
	}
}

// fullLeaf takes more of its bytes than any other page.
func fullLeaf() impl.Page {
	var p impl.Page
	for i := range 4 {
		p.Keys = append(p.Keys, longKey[:15]+strconv.Itoa(i))
		p.Vals = append(p.Vals, longVal[:59]+strconv.Itoa(i))
	}
	return p
}

func fullBranch() impl.Page {
	return branchPage(fullLeaf().Keys[:3], 399, 398, 397, 396)
}

// farNumbers: no numbers of sheets, some of which are when cut to fewer bits.
func farNumbers() []int {
	return []int{-1, -2, -398, 400, 401, 511, 512, 65536 + 2, 1<<32 + 2, impl.MaxNum, impl.MaxNum + 1, impl.MaxNum + 3,
		math.MinInt64, math.MinInt64 + 2, math.MaxInt64, math.MaxInt64 - 1}
}

func wrongPages() []impl.Page {
	l := []impl.Page{
		{}, {Keys: []string{"a"}}, {Vals: []string{"x"}}, {Keys: []string{}, Vals: []string{}, Kids: []int{}}, {Keys: []string{"a", "b"}, Vals: []string{"x"}}, {Keys: []string{"a"}, Vals: []string{"x", "y"}},
		leafPage("a", "", "b", "", "c", "", "d", "", "e", ""), leafPage("b", "", "a", ""), leafPage("a", "", "a", ""), leafPage("a\x00", "", "a", ""), leafPage("\x80", "", "\x7f", ""),
		{Kids: []int{2}}, {Kids: []int{2, 3}}, {Keys: []string{"a"}, Kids: []int{2}}, {Keys: []string{"a"}, Vals: []string{"x"}, Kids: []int{2}}, branchPage([]string{"a", "b"}, 2, 3), branchPage([]string{"a"}, 2, 3, 4),
		branchPage([]string{"a", "b", "c", "d"}, 2, 3, 4, 5, 6), branchPage([]string{"a", "b", "c"}, 2, 3, 4, 5, 6), branchPage([]string{"b", "a"}, 2, 3, 4), branchPage([]string{"a", "a"}, 2, 3, 4),
		{Keys: []string{"a"}, Vals: []string{""}, Kids: []int{2, 3}}, {Keys: []string{"a"}, Vals: []string{"x"}, Kids: []int{2, 3}}, {Keys: []string{"a"}, Vals: []string{"x", "y"}, Kids: []int{2, 3}},
		{Keys: []string{"a", "b"}, Vals: []string{"x", "y"}, Kids: []int{2, 3, 4}},
		{Keys: make([]string, 5000), Vals: make([]string, 5000)}, {Keys: make([]string, 5000), Kids: make([]int, 5001)},
	}
	for i := range 4 {
		for _, k := range []string{"", longEnd, tooLong, strings.Repeat("k", 5000)} {
			leaf, branch := clonePage(fullLeaf()), clonePage(fullBranch())
			leaf.Keys[i], branch.Keys[i%3] = k, k
			l = append(l, leaf, branch)
		}
		leaf := clonePage(fullLeaf())
		leaf.Vals[i] = longVal + "v"
		l = append(l, leaf)
		for _, kid := range append(farNumbers(), 0, 1) {
			branch := clonePage(fullBranch())
			branch.Kids[i] = kid
			l = append(l, branch)
		}
	}
	return l
}

func clonePage(p impl.Page) impl.Page {
	return impl.Page{Keys: slices.Clone(p.Keys), Vals: slices.Clone(p.Vals), Kids: slices.Clone(p.Kids)}
}

func someGens() []int {
	l := []int{1, 2, 3, 4, 255, 256, 257, 258, 65535, 65536, 65537, 123456789, impl.MaxNum - 2, impl.MaxNum - 1, impl.MaxNum}
	for bit := 8; bit < 1<<39; bit *= 2 {
		l = append(l, bit-1, bit, bit+1)
	}
	return l
}

func someRoots() []int {
	return []int{0, 2, 3, 127, 128, 255, 256, 257, 258, 398, 399}
}

// thrownText: 1 to most bytes, few of them different, so that what begins alike
// and what ends early is met.
func thrownText(d *dice, most int) string {
	b := make([]byte, 1+d.below(most))
	for i := range b {
		b[i] = "\x00\x01ab\xff"[d.below(5)]
	}
	return string(b)
}

func thrownPage(d *dice) impl.Page {
	var p impl.Page
	size := 1 + d.below(3)
	for len(p.Keys) < size {
		p.Keys = append(p.Keys, thrownText(d, 16))
		slices.Sort(p.Keys)
		p.Keys = slices.Compact(p.Keys)
	}
	if d.below(2) == 0 {
		for range p.Keys {
			p.Vals = append(p.Vals, thrownText(d, 61)[1:])
		}
		return p
	}
	for range size + 1 {
		p.Kids = append(p.Kids, 2+d.below(398))
	}
	return p
}

func wantPage(t *testing.T, what string, b []byte, want impl.Page, right bool) {
	t.Helper()
	if p, ok := impl.PageRead(b); ok != right || !samePage(p, want) {
		t.Errorf("%s: PageRead is %#v %v, want %#v %v", what, p, ok, want, right)
	}
}

func wantMeta(t *testing.T, what string, b []byte, want impl.Meta, right bool) {
	t.Helper()
	if m, ok := impl.MetaRead(b); ok != right || m != want {
		t.Errorf("%s: MetaRead is %v %v, want %v %v", what, m, ok, want, right)
	}
}

func TestP6PagesAreReadAsWritten(t *testing.T) {
	pages := rightPages()
	d := dice(6)
	for range 3000 {
		pages = append(pages, thrownPage(&d))
	}
	for _, p := range pages {
		b, ok := impl.PageBytes(p)
		wantBytes(t, "PageBytes", b, ok, pageText(p))
		wantPage(t, "what PageBytes wrote", b, p, true)
		wantMeta(t, "a page", b, impl.Meta{}, false)
	}
}

// otherBytes: each of the 256, or a few of them where all say the same.
func otherBytes(few bool) []byte {
	if few {
		return []byte("\x00\x01L\x7f\x80\xff")
	}
	return []byte(everyByte())
}

// Every byte of a page in turn is another one: what is read is the page with
// just these bytes, or nothing.
func TestP6NothingElseIsReadAsAPage(t *testing.T) {
	for _, p := range rightPages() {
		b := pageText(p)
		behind := len(bytes.TrimRight(b, "\x00")) + 4
		for at := range b {
			kept := b[at]
			for _, c := range otherBytes(at > behind) {
				b[at] = c
				want, right := pageIn(b)
				if at > behind && right != (c == 0) {
					t.Fatalf("the tests' own reader reads a byte %d at %d", c, at)
				}
				wantPage(t, "one other byte at "+strconv.Itoa(at), b, want, right)
			}
			b[at] = kept
		}
	}
}

// Bytes that look like the parts of a page, thrown together.
func TestP6ThrownBytesAreReadAsTheyStand(t *testing.T) {
	d := dice(66)
	read := 0
	for range 200000 {
		b := make([]byte, 512)
		b[0] = "LB"[d.below(2)]
		b[1] = byte(1 + d.below(3))
		for i := range 2 + d.below(16) {
			b[2+i] = "\x00\x01\x01\x01\x02\x02\x03\x05abcd\x80\x83\x90\xff"[d.below(16)]
		}
		want, right := pageIn(b)
		wantPage(t, "thrown bytes", b, want, right)
		if right {
			read++
			again, ok := impl.PageBytes(want)
			wantBytes(t, "PageBytes of what was read", again, ok, b)
		}
	}
	if read < 100 {
		t.Errorf("only %d of the thrown bytes are a page", read)
	}
}

func TestP6OneFormOfAPageAloneIsRead(t *testing.T) {
	wantPage(t, "a leaf", padded([]byte("L\x01\x01a\x01x")), leafPage("a", "x"), true)
	wantPage(t, "a branch", padded([]byte("B\x01\x02\x01m\xac\x02")), branchPage([]string{"m"}, 2, 300), true)
	wantPage(t, "a leaf with the bytes of a branch", padded([]byte("L\x01\x02\x01m\x03")), leafPage("\x01m", "\x00\x00\x00"), true)
	wantPage(t, "a branch of the greatest kids", padded([]byte("B\x01\x8f\x03\x01m\x8f\x03")), branchPage([]string{"m"}, 399, 399), true)
	for _, s := range []string{
		"", "\x00", "L", "B", "l\x01\x01a\x01x", "M\x01\x01a\x01x", "\x00\x01\x01a\x01x", "b\x01\x02\x01m\x03", "B\x01\x01a\x01x",
		"L\x00", "L\x00\x01a\x01x", "L\x02\x01a\x01x", "L\x01\x01a\x01x\x01b\x01y", "L\x03\x01a\x00\x01b\x00", "L\x05\x01a\x00\x01b\x00\x01c\x00\x01d\x00\x01e\x00",
		"L\x81\x00\x01a\x01x", "L\x01\x81\x00a\x01x", "L\x01\x01a\x81\x00x", "L\x01\x01a\x80\x00", "L\x81\x80\x00\x01a\x01x", "L\x02\x01b\x00\x01a\x00", "L\x02\x01a\x00\x01a\x00",
		"L\x01\x00\x01x", "L\x01\x11" + longEnd + "\x00", "L\x01\x01a\x3d" + longVal + "v", "L\x01\x80\x02" + strings.Repeat("k", 256) + "\x00", "L\x01\xff\xff\xff\xff\xff\x1f",
		"L\x01\x01a\xff\x03", "L\xff\xff\xff\xff\xff\x1f", "L\xff\xff\xff\xff\xff\xff\xff\xff\x7f", "L" + strings.Repeat("\xff", 511),
		"B\x00\x02", "B\x01\x02\x01m", "B\x01\x02\x01m\x00", "B\x01\x02\x01m\x01", "B\x01\x01\x01m\x02", "B\x01\x00\x01m\x02", "B\x01\x02\x01m\x90\x03", "B\x01\x90\x03\x01m\x02",
		"B\x01\x82\x00\x01m\x03", "B\x01\x02\x01m\x83\x00", "B\x81\x00\x02\x01m\x03", "B\x01\x02\x81\x00m\x03", "B\x01\x02\x00\x03", "B\x01\x02\x11" + longEnd + "\x03",
		"B\x02\x02\x01b\x03\x01a\x04", "B\x02\x02\x01a\x03\x01a\x04", "B\x04\x02\x01a\x03\x01b\x04\x01c\x05\x01d\x06", "B\x02\x02\x01m\x03", "B\x01\x02\x01m\x03\x01n\x04",
		"B\x01\xff\xff\xff\xff\xff\x1f\x01m\x02", "B\x01\x02\x01m\xff\xff\xff\xff\xff\xff\xff\xff\x7f", "B" + strings.Repeat("\xff", 511),
	} {
		wantPage(t, strconv.Quote(s), padded([]byte(s)), impl.Page{}, false)
	}
}

func TestP6PagesOfAnotherLengthAreNotRead(t *testing.T) {
	for _, p := range rightPages() {
		b := pageText(p)
		for size := range 512 {
			wantPage(t, "too few bytes", b[:size:size], impl.Page{}, false)
		}
		for _, more := range []int{1, 2, 8, 512, 3584, 5000} {
			wantPage(t, "too many bytes", append(slices.Clone(b), make([]byte, more)...), impl.Page{}, false)
		}
	}
	wantPage(t, "nil", nil, impl.Page{}, false)
	long := append([]byte("L\x01\x80\x80\x80\x01"), bytes.Repeat([]byte("k"), 1<<22)...)
	wantPage(t, "a text of many bytes", long, impl.Page{}, false)
}

func TestP6MetasAreReadAsWritten(t *testing.T) {
	for _, gen := range someGens() {
		for _, root := range someRoots() {
			m := impl.Meta{Gen: gen, Root: root}
			b, ok := impl.MetaBytes(m)
			wantBytes(t, "MetaBytes", b, ok, metaText(m))
			wantMeta(t, "what MetaBytes wrote", b, m, true)
			wantPage(t, "a meta", b, impl.Page{}, false)
		}
	}
}

func TestP6NothingElseIsReadAsAMeta(t *testing.T) {
	for _, m := range []impl.Meta{{Gen: 1}, {Gen: 1, Root: 2}, {Gen: 258, Root: 259}, {Gen: impl.MaxNum, Root: 399}, {Gen: 1 << 32, Root: 256}, {Gen: 0x0102030405, Root: 128}} {
		b := metaText(m)
		for at := range b {
			kept := b[at]
			for _, c := range otherBytes(at > 12 && at < 500) {
				b[at] = c
				want, right := metaIn(b)
				if right && at != 6 && at != 7 && c != kept {
					t.Fatalf("the tests' own reader reads another byte at %d", at)
				}
				wantMeta(t, "one other byte at "+strconv.Itoa(at), b, want, right)
			}
			b[at] = kept
		}
		for size := range 512 {
			wantMeta(t, "too few bytes", b[:size:size], impl.Meta{}, false)
		}
		for _, more := range []int{1, 5, 512, 5000} {
			wantMeta(t, "too many bytes", append(slices.Clone(b), make([]byte, more)...), impl.Meta{}, false)
			wantMeta(t, "too many bytes with a Gen behind", append(append(slices.Clone(b), make([]byte, more)...), b[507:]...), impl.Meta{}, false)
		}
	}
	wantMeta(t, "nil", nil, impl.Meta{}, false)
	wantMeta(t, "zeros", make([]byte, 512), impl.Meta{}, false)
	wantMeta(t, "a Gen of 0", padded([]byte("M\x00\x00\x00\x00\x00\x00\x02")), impl.Meta{}, false)
}

// Every Root that two bytes can tell, and Gens that are and aren't the same.
func TestP6MetasWithOtherNumbers(t *testing.T) {
	for root := range 65536 {
		b := metaText(impl.Meta{Gen: 7, Root: root})
		right := root == 0 || root > 1 && root < 400
		want := impl.Meta{}
		if right {
			want = impl.Meta{Gen: 7, Root: root}
		}
		wantMeta(t, "Root "+strconv.Itoa(root), b, want, right)
	}
	for _, first := range someGens() {
		for _, last := range someGens() {
			b := slices.Concat(metaText(impl.Meta{Gen: first, Root: 9})[:507], metaText(impl.Meta{Gen: last})[507:])
			want := impl.Meta{}
			if first == last {
				want = impl.Meta{Gen: first, Root: 9}
			}
			wantMeta(t, "two Gens", b, want, first == last)
		}
	}
}

// differs is the first place at which two sheets aren't the same.
func differs(a, b []byte) int {
	at := 0
	for at < len(a) && a[at] == b[at] {
		at++
	}
	return at
}

// Torn over the one that it follows on its sheet, a meta is there with its last
// byte and not ahead of it; the old one is there until a byte of it is changed.
func TestP5AMetaTornOverTheOneTwoBeforeIt(t *testing.T) {
	for _, gen := range append(someGens(), 254, 510, 1<<32-2, 1<<39-2, impl.MaxNum-3) {
		for _, roots := range [][2]int{{0, 0}, {0, 2}, {2, 0}, {2, 399}, {255, 256}, {256, 255}, {399, 3}, {258, 3}} {
			if gen > impl.MaxNum-2 {
				continue
			}
			before, after := impl.Meta{Gen: gen, Root: roots[0]}, impl.Meta{Gen: gen + 2, Root: roots[1]}
			old, _ := impl.MetaBytes(before)
			fresh, _ := impl.MetaBytes(after)
			changed := differs(old, fresh)
			if changed > 5 {
				t.Fatalf("the first Gen of %v is that of %v", before, after)
			}
			for n := -1; n <= 513; n++ {
				want, right := impl.Meta{}, true
				switch {
				case n <= changed:
					want = before
				case n >= 512:
					want = after
				default:
					right = false
				}
				wantMeta(t, "torn at "+strconv.Itoa(n), impl.Tear(old, fresh, n), want, right)
			}
		}
	}
}

// The new meta is there just where the sheet holds all its bytes, also those
// that hadn't come and were there.
func TestP5AMetaTornOverOtherSheets(t *testing.T) {
	var metas [][]byte
	for _, gen := range []int{1, 256, 1 << 16, 1 << 32, 1<<32 + 256, impl.MaxNum - 255, impl.MaxNum} {
		for _, root := range []int{0, 2, 256, 258, 399} {
			metas = append(metas, metaText(impl.Meta{Gen: gen, Root: root}))
		}
	}
	sheets := append(slices.Clone(metas), nil, make([]byte, 512), pageText(fullLeaf()), pageText(fullBranch()), bytes.Repeat([]byte{255}, 512))
	for _, old := range sheets {
		for _, fresh := range metas {
			for n := range 513 {
				torn := impl.Tear(old, fresh, n)
				want, right := metaIn(torn)
				wantMeta(t, "torn at "+strconv.Itoa(n), torn, want, right)
			}
		}
	}
	fresh := metaText(impl.Meta{Gen: 256, Root: 9})
	wantMeta(t, "torn over no bytes ahead of a last 0", impl.Tear(nil, fresh, 511), impl.Meta{Gen: 256, Root: 9}, true)
	wantMeta(t, "torn over no bytes ahead of a last 1", impl.Tear(nil, fresh, 510), impl.Meta{}, false)
	wantMeta(t, "torn over itself", impl.Tear(fresh, fresh, 3), impl.Meta{Gen: 256, Root: 9}, true)
}

func TestP15PageLimits(t *testing.T) {
	if impl.PageSize != 512 || impl.MaxPages != 400 {
		t.Error("a constant isn't as the document says")
	}
}

func TestP15PageOk(t *testing.T) {
	for _, p := range rightPages() {
		if !impl.PageOk(p) {
			t.Errorf("PageOk(%#v) is false", p)
		}
	}
	for _, p := range wrongPages() {
		wantBool(t, "PageOk of a wrong page", impl.PageOk(p), false)
		b, ok := impl.PageBytes(p)
		wantNoBytes(t, "PageBytes of a wrong page", b, ok)
	}
}

// Each number of keys, values and kids beside each other.
func TestP15PageOkOfEachShape(t *testing.T) {
	for keys := range 8 {
		for vals := range 8 {
			for kids := range 8 {
				p := impl.Page{Vals: make([]string, vals), Kids: slices.Repeat([]int{9}, kids)}
				for i := range keys {
					p.Keys = append(p.Keys, numbered(i))
				}
				isLeaf := kids == 0 && keys == vals && keys >= 1 && keys <= 4
				isBranch := kids >= 2 && kids <= 4 && keys == kids-1 && vals == 0
				wantBool(t, "PageOk of "+strconv.Itoa(keys)+" keys, "+strconv.Itoa(vals)+" values, "+strconv.Itoa(kids)+" kids", impl.PageOk(p), isLeaf || isBranch)
			}
		}
	}
}

func TestP15PageOkOfKeysAndValues(t *testing.T) {
	for _, a := range someEnds() {
		for _, b := range someEnds() {
			right := len(a) >= 1 && len(a) <= 16 && len(b) >= 1 && len(b) <= 16 && strings.Compare(a, b) < 0
			wantBool(t, "a leaf of "+a+" and "+b, impl.PageOk(leafPage(a, "", b, "")), right)
			wantBool(t, "a branch of "+a+" and "+b, impl.PageOk(branchPage([]string{a, b}, 2, 3, 4)), right)
		}
	}
	for _, size := range []int{0, 1, 59, 60, 61, 62, 127, 128, 256, 316, 5000} {
		v := strings.Repeat("v", size)
		wantBool(t, "a first value of "+strconv.Itoa(size), impl.PageOk(leafPage("a", v, "b", "")), size <= 60)
		wantBool(t, "a last value of "+strconv.Itoa(size), impl.PageOk(leafPage("a", "", "b", v)), size <= 60)
	}
	for kid := -10; kid < 1000; kid++ {
		right := kid >= 2 && kid <= 399
		wantBool(t, "a first kid "+strconv.Itoa(kid), impl.PageOk(branchPage([]string{"a"}, kid, 9)), right)
		wantBool(t, "a last kid "+strconv.Itoa(kid), impl.PageOk(branchPage([]string{"a"}, 9, kid)), right)
	}
}

func TestP15PageBytes(t *testing.T) {
	written := func(p impl.Page, want string) {
		t.Helper()
		b, ok := impl.PageBytes(p)
		wantBytes(t, "PageBytes", b, ok, padded([]byte(want)))
	}
	written(leafPage("a", "x"), "L\x01\x01a\x01x")
	written(leafPage("a", "", "bc", "yz"), "L\x02\x01a\x00\x02bc\x02yz")
	written(leafPage(longKey, longVal), "L\x01\x10"+longKey+"\x3c"+longVal)
	written(branchPage([]string{"m"}, 2, 300), "B\x01\x02\x01m\xac\x02")
	written(branchPage([]string{"a", "b", "c"}, 127, 128, 2, 399), "B\x03\x7f\x01a\x80\x01\x01b\x02\x01c\x8f\x03")
	b, _ := impl.PageBytes(fullLeaf())
	if len(b) != 512 || b[313] != '3' || b[314] != 0 {
		t.Errorf("the fullest page has %d bytes, ending %q", len(b), bytes.TrimRight(b, "\x00"))
	}
}

func TestP15Metas(t *testing.T) {
	for _, gen := range append(farNumbers(), someGens()...) {
		for _, root := range append(farNumbers(), -512, 0, 1, 2, 3, 256, 398, 399) {
			m := impl.Meta{Gen: gen, Root: root}
			right := gen >= 1 && gen <= 1099511627775 && (root == 0 || root >= 2 && root <= 399)
			b, ok := impl.MetaBytes(m)
			if impl.MetaOk(m) != right || ok != right || len(b) != map[bool]int{true: 512}[right] {
				t.Errorf("%v: MetaOk is %v, MetaBytes %d bytes and %v, want %v", m, impl.MetaOk(m), len(b), ok, right)
			}
		}
	}
	for _, gen := range []int{0, -1, impl.MaxNum + 1, impl.MaxNum + 2, 2*impl.MaxNum + 2, 1 << 41, math.MinInt64, math.MaxInt64} {
		wantBool(t, "MetaOk of Gen "+strconv.Itoa(gen), impl.MetaOk(impl.Meta{Gen: gen, Root: 2}), false)
		b, ok := impl.MetaBytes(impl.Meta{Gen: gen})
		wantNoBytes(t, "MetaBytes of Gen "+strconv.Itoa(gen), b, ok)
	}
	b, ok := impl.MetaBytes(impl.Meta{Gen: 0x0102030405, Root: 259})
	wantBytes(t, "MetaBytes", b, ok, []byte("M\x01\x02\x03\x04\x05\x01\x03"+strings.Repeat("\x00", 499)+"\x01\x02\x03\x04\x05"))
}

// counted: a sheet no two neighbours of which are the same.
func counted(from int) []byte {
	b := make([]byte, 512)
	for i := range b {
		b[i] = byte(from + i*7)
	}
	return b
}

func TestP15Tear(t *testing.T) {
	old, fresh := counted(1), counted(2)
	sheets := map[string][2][]byte{"two sheets": {old, fresh}, "over nothing": {nil, fresh}, "nothing over": {old, {}}, "nothing over nothing": {{}, nil}}
	for what, both := range sheets {
		ahead, behind := both[1], both[0]
		if len(ahead) == 0 {
			ahead = make([]byte, 512)
		}
		if len(behind) == 0 {
			behind = make([]byte, 512)
		}
		for n := range 513 {
			wantBytes(t, what+" at "+strconv.Itoa(n), impl.Tear(both[0], both[1], n), true, slices.Concat(ahead[:n], behind[n:]))
		}
		for _, n := range []int{-1, -2, -512, math.MinInt64, math.MinInt64 + 1} {
			wantBytes(t, what+" at "+strconv.Itoa(n), impl.Tear(both[0], both[1], n), true, behind)
		}
		for _, n := range []int{513, 600, 1 << 32, impl.MaxNum + 1, math.MaxInt64} {
			wantBytes(t, what+" at "+strconv.Itoa(n), impl.Tear(both[0], both[1], n), true, ahead)
		}
	}
}

func TestP15TearOfOtherLengths(t *testing.T) {
	whole := counted(3)
	for _, size := range []int{1, 2, 256, 510, 511, 513, 514, 1024, 4096, 5000} {
		odd := make([]byte, size)
		for _, n := range []int{math.MinInt64, -1, 0, 1, 256, 511, 512, 513, math.MaxInt64} {
			for what, torn := range map[string][]byte{
				"an old one": impl.Tear(odd, whole, n), "a new one": impl.Tear(whole, odd, n), "both": impl.Tear(odd, odd, n),
				"an old one under nothing": impl.Tear(odd, nil, n), "a new one over nothing": impl.Tear(nil, odd, n),
			} {
				wantNoBytes(t, what+" of another length", torn, false)
			}
		}
	}
}

func pageWithRoom(p impl.Page) impl.Page {
	return impl.Page{Keys: marked(p.Keys, "mark"), Vals: marked(p.Vals, "mark"), Kids: marked(p.Kids, -7)}
}

func pageRoom(p impl.Page) impl.Page {
	return clonePage(impl.Page{Keys: p.Keys[:cap(p.Keys)], Vals: p.Vals[:cap(p.Vals)], Kids: p.Kids[:cap(p.Kids)]})
}

func TestP15PagesAreNotChanged(t *testing.T) {
	for _, p := range append(rightPages(), wrongPages()...) {
		arg := pageWithRoom(p)
		before := pageRoom(arg)
		first, ok := impl.PageBytes(arg)
		second, also := impl.PageBytes(arg)
		if ok != also || ok != impl.PageOk(arg) || !bytes.Equal(first, second) {
			t.Errorf("two calls of PageBytes answer %v and %v", ok, also)
		}
		kept := slices.Clone(second)
		fillUp(first, 'X')
		if !samePage(pageRoom(arg), before) || !bytes.Equal(second, kept) {
			t.Errorf("a page is changed, or two answers share memory: %#v", p)
		}
	}
}

func TestP15WhatWasReadIsNewMemory(t *testing.T) {
	for _, p := range rightPages() {
		b := marked(pageText(p), 'R')
		before := slices.Clone(b[:cap(b)])
		first, _ := impl.PageRead(b)
		second, _ := impl.PageRead(b)
		impl.MetaRead(b)
		if !bytes.Equal(b[:cap(b)], before) {
			t.Error("PageRead or MetaRead changes its bytes")
		}
		fillUp(b, 'X')
		if !samePage(first, p) || !samePage(second, p) {
			t.Errorf("a page that was read is %#v behind a change of the bytes", first)
		}
		texts := [][]string{first.Keys, first.Vals, second.Keys, second.Vals}
		if !areApart(texts, "scribble") || !areApart([][]int{first.Kids, second.Kids}, -99) {
			t.Errorf("two lists of what was read share memory: %#v", p)
		}
	}
	for _, b := range [][]byte{[]byte("L\x01\x01a"), pageText(fullLeaf())[:511], bytes.Repeat([]byte{255}, 512), metaText(impl.Meta{Gen: 5}), padded([]byte("B\x02\x02\x01b\x03\x01a\x04"))} {
		arg := marked(b, 'R')
		before := slices.Clone(arg[:cap(arg)])
		impl.PageRead(arg)
		impl.MetaRead(arg)
		if !bytes.Equal(arg[:cap(arg)], before) {
			t.Error("bytes that aren't read are changed")
		}
	}
}

func TestP15MetasAndTearsAreNewMemory(t *testing.T) {
	first, _ := impl.MetaBytes(impl.Meta{Gen: 300, Root: 5})
	second, _ := impl.MetaBytes(impl.Meta{Gen: 300, Root: 5})
	fillUp(first, 'X')
	wantBytes(t, "MetaBytes behind a change of its answer", second, true, metaText(impl.Meta{Gen: 300, Root: 5}))
	whole, none, odd := marked(counted(4), 'R'), marked([]byte{}, 'R'), marked(counted(4)[:9], 'R')
	other := marked(counted(5), 'R')
	args := [][]byte{whole, none, odd, other}
	var before [][]byte
	for _, b := range args {
		before = append(before, slices.Clone(b[:cap(b)]))
	}
	for _, old := range args {
		for _, fresh := range args {
			for _, n := range []int{-1, 0, 1, 300, 511, 512, 513} {
				first, second := impl.Tear(old, fresh, n), impl.Tear(old, fresh, n)
				kept := slices.Clone(second)
				fillUp(first, 'X')
				if !bytes.Equal(second, kept) {
					t.Fatal("two answers of Tear share memory")
				}
				for i, b := range args {
					if !bytes.Equal(b[:cap(b)], before[i]) {
						t.Fatal("Tear changes an argument, or shares its memory")
					}
				}
			}
		}
	}
}
