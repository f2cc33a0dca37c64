package tests

import (
	"math"
	"slices"
	"strconv"
	"strings"
	"testing"

	"loop.example/g00392/impl"
)

func askGet(k string) impl.Ask { return impl.Ask{Kind: 1, Key: k} }

func askPut(k, v string) impl.Ask { return impl.Ask{Kind: 2, Key: k, Val: v} }

func askDel(k string) impl.Ask { return impl.Ask{Kind: 3, Key: k} }

func askScan(lo, hi string, most int, back bool) impl.Ask {
	return impl.Ask{Kind: 4, Range: impl.Range{Lo: lo, Hi: hi}, Most: most, Back: back}
}

// rightAsk: an ask is the same as one built of nothing but the parts of its
// kind, and these are right.
func rightAsk(a impl.Ask) bool {
	switch a {
	case askGet(a.Key), askDel(a.Key):
		return isUser(a.Key)
	case askPut(a.Key, a.Val):
		return isUser(a.Key) && isUval(a.Val)
	case askScan(a.Range.Lo, a.Range.Hi, a.Most, a.Back):
		return isReach(a.Range) && slices.Contains(upFrom(1, 8), a.Most)
	}
	return false
}

// lockFor is what AskLock must answer.
func lockFor(a impl.Ask) (impl.Range, bool) {
	if !rightAsk(a) {
		return impl.Range{}, false
	}
	if a.Kind == 4 {
		return a.Range, false
	}
	return impl.Range{Lo: a.Key, Hi: a.Key + "\x00"}, a.Kind > 1
}

func sameMsg(a, b impl.Msg) bool { return allText(false, a) == allText(false, b) }

func isUserPair(p impl.Pair) bool { return isUser(p.Key) && isUval(p.Val) }

// partsOfKind: a word for each part that a message of a kind has beside those
// that all have.
func partsOfKind(kind int) (string, bool) {
	if kind < 1 || kind > 7 {
		return "", false
	}
	return []string{"", "num ask", "num stamp code pairs", "num stamp", "yes", "yes", "", ""}[kind], true
}

// bare is a message without the parts that its kind has.
func bare(m impl.Msg) impl.Msg {
	parts, _ := partsOfKind(m.Kind)
	for _, part := range strings.Fields(parts) {
		switch part {
		case "num":
			m.Num = 0
		case "ask":
			m.Ask = impl.Ask{}
		case "stamp":
			m.Stamp = 0
		case "code":
			m.Code = 0
		case "pairs":
			m.Pairs = nil
		case "yes":
			m.Yes = false
		}
	}
	return m
}

// rightMsg: without the parts of its kind nothing stays, and these are right.
func rightMsg(m impl.Msg) bool {
	parts, known := partsOfKind(m.Kind)
	if !known || !rightName(m.Tx) || m.Shard < 0 || m.Shard > 3 || !sameMsg(bare(m), impl.Msg{Kind: m.Kind, Tx: m.Tx, Shard: m.Shard}) {
		return false
	}
	ok := true
	for _, part := range strings.Fields(parts) {
		switch part {
		case "num":
			ok = ok && m.Num > 0 && m.Num < 17
		case "ask":
			ok = ok && rightAsk(m.Ask)
		case "stamp":
			ok = ok && (m.Code == 0) == (m.Stamp != 0) && m.Stamp >= 0 && m.Stamp < 1<<40
		case "code":
			ok = ok && m.Code >= 0 && m.Code < 10
		case "pairs":
			ok = ok && len(m.Pairs) < 9 && !slices.ContainsFunc(m.Pairs, func(p impl.Pair) bool { return !isUserPair(p) })
		}
	}
	return ok
}

func bit(yes bool) int {
	if yes {
		return 1
	}
	return 0
}

// piece is a part of a message's bytes: a number, and, of a text, its bytes.
type piece struct {
	num  int
	text string
}

func textPiece(s string) piece { return piece{len(s), s} }

// piecesOf cuts a message, right or not, into the pieces of its bytes.
func piecesOf(m impl.Msg) []piece {
	l := []piece{{num: m.Kind}, {num: m.Tx.C}, {num: m.Tx.E}, {num: m.Tx.N}, {num: m.Shard}, {num: m.Num}, {num: m.Stamp},
		{num: m.Ask.Kind}, textPiece(m.Ask.Key), textPiece(m.Ask.Val), textPiece(m.Ask.Range.Lo), textPiece(m.Ask.Range.Hi), {num: m.Ask.Most}, {num: bit(m.Ask.Back)},
		{num: m.Code}, {num: len(m.Pairs)}}
	for _, p := range m.Pairs {
		l = append(l, textPiece(p.Key), textPiece(p.Val))
	}
	return append(l, piece{num: bit(m.Yes)})
}

// The places of some pieces.
const (
	backPiece  = 13
	countPiece = 15
)

func joined(l []piece) []byte {
	var b []byte
	for _, p := range l {
		b = append(append(b, varOf(p.num)...), p.text...)
	}
	return b
}

// withPiece is the bytes of a message with other ones for the piece at a place.
func withPiece(m impl.Msg, at int, other []byte) []byte {
	l := piecesOf(m)
	return slices.Concat(joined(l[:at]), other, joined(l[at+1:]))
}

// msgText is the bytes of a message, right or not, whose numbers aren't below 0.
func msgText(m impl.Msg) []byte { return joined(piecesOf(m)) }

// wide reads numbers of all lengths, of the one form that they are written in.
func (c *cutter) wide() int {
	n := 0
	for shift := 0; shift < 42; shift += 7 {
		s := c.take(1)
		if c.bad {
			return 0
		}
		n |= int(s[0]&127) << shift
		if s[0] < 128 {
			c.bad = s[0] == 0 && shift > 0 || n >= 1<<40
			return n
		}
	}
	c.bad = true
	return 0
}

func (c *cutter) word() string { return c.take(c.wide()) }

func (c *cutter) truth() bool {
	n := c.wide()
	c.bad = c.bad || n > 1
	return n == 1
}

// msgIn reads a message from its front, where the program writes what it read
// again.
func msgIn(b []byte) (impl.Msg, bool) {
	c := &cutter{rest: string(b)}
	m := impl.Msg{Kind: c.wide(), Tx: impl.Tx{C: c.wide(), E: c.wide(), N: c.wide()}, Shard: c.wide(), Num: c.wide(), Stamp: c.wide(),
		Ask: impl.Ask{Kind: c.wide(), Key: c.word(), Val: c.word(), Range: impl.Range{Lo: c.word(), Hi: c.word()}, Most: c.wide(), Back: c.truth()}, Code: c.wide()}
	for n := c.wide(); n > 0 && !c.bad; n-- {
		m.Pairs = append(m.Pairs, impl.Pair{Key: c.word(), Val: c.word()})
	}
	m.Yes = c.truth()
	if c.bad || c.rest != "" || !rightMsg(m) {
		return impl.Msg{}, false
	}
	return m, true
}

func wantMsg(t *testing.T, what string, b []byte, want impl.Msg, right bool) {
	t.Helper()
	if got, ok := impl.MsgRead(b); ok != right || !sameMsg(got, want) {
		t.Errorf("%s: MsgRead(%q) is %#v, %v, want %#v, %v", what, b, got, ok, want, right)
	}
}

func wantNoMsg(t *testing.T, what string, b []byte) {
	t.Helper()
	wantMsg(t, what, b, impl.Msg{}, false)
}

func checkMsgIn(t *testing.T, what string, b []byte) bool {
	t.Helper()
	want, right := msgIn(b)
	wantMsg(t, what, b, want, right)
	return right
}

// checkMsg holds all that the chapter tells of a message against the models.
func checkMsg(t *testing.T, m impl.Msg) {
	t.Helper()
	right := rightMsg(m)
	if got := impl.MsgOk(m); got != right {
		t.Errorf("MsgOk(%#v) is %v, want %v", m, got, right)
	}
	b, ok := impl.MsgBytes(m)
	if right {
		wantBytes(t, "MsgBytes", b, ok, msgText(m))
		wantMsg(t, "what was written", b, m, true)
	} else {
		wantNoBytes(t, "MsgBytes", b, ok)
	}
}

func checkAsk(t *testing.T, a impl.Ask) {
	t.Helper()
	if got, want := impl.AskOk(a), rightAsk(a); got != want {
		t.Errorf("AskOk(%#v) is %v, want %v", a, got, want)
	}
	r, ex := impl.AskLock(a)
	if want, also := lockFor(a); r != want || ex != also {
		t.Errorf("AskLock(%#v) is %q, %v, want %q, %v", a, r, ex, want, also)
	}
}

// rightAsks: of each kind, with all parts that clients may have.
func rightAsks() []impl.Ask {
	var l []impl.Ask
	for _, k := range someUsers() {
		l = append(l, askGet(k), askDel(k))
		for _, v := range someUvals() {
			l = append(l, askPut(k, v))
		}
	}
	for i, r := range someReaches() {
		l = append(l, askScan(r.Lo, r.Hi, 1+i%8, i%3 == 0), askScan(r.Lo, r.Hi, 8-i%8, i%3 > 0))
	}
	return l
}

// farEnds: numbers that no part of an ask or of a message may have, some of
// which would be right when cut to fewer bits.
func farEnds() []int {
	return []int{-1, -2, -8, 256 + 1, 65536 + 1, 1<<32 + 1, -1<<32 + 1, 1<<40 + 1, 1 << 41, math.MinInt64, math.MinInt64 + 1, math.MaxInt64, math.MaxInt64 - 1}
}

// wrongAsks: each is wrong in one way.
func wrongAsks() []impl.Ask {
	r := impl.Range{Lo: "a", Hi: "b"}
	l := []impl.Ask{{}, {Key: "a"}, {Range: r, Most: 1}}
	for _, kind := range []int{1, 2, 3} {
		l = append(l, impl.Ask{Kind: kind}, impl.Ask{Kind: kind, Val: "x"}, impl.Ask{Kind: kind, Key: longUser + "i"}, impl.Ask{Kind: kind, Key: "a", Val: longUval + "v"},
			impl.Ask{Kind: kind, Key: "a", Range: r}, impl.Ask{Kind: kind, Key: "a", Range: impl.Range{Lo: "a"}}, impl.Ask{Kind: kind, Key: "a", Range: impl.Range{Hi: "a"}},
			impl.Ask{Kind: kind, Key: "a", Most: 1}, impl.Ask{Kind: kind, Key: "a", Most: -1}, impl.Ask{Kind: kind, Key: "a", Back: true}, impl.Ask{Kind: kind, Range: r, Most: 1})
	}
	l = append(l, impl.Ask{Kind: 1, Key: "a", Val: "x"}, impl.Ask{Kind: 3, Key: "a", Val: "x"}, impl.Ask{Kind: 4, Key: "a", Range: r, Most: 1}, impl.Ask{Kind: 4, Val: "x", Range: r, Most: 1},
		impl.Ask{Kind: 4, Key: "a"}, askScan("a", "b", 0, false), askScan("a", "b", 0, true), askScan("a", "b", 9, false), askScan("", "", 0, false))
	for _, n := range farEnds() {
		l = append(l, askScan("a", "b", n, false), impl.Ask{Kind: 1, Key: "a", Most: n})
	}
	for _, wrong := range wrongReaches() {
		l = append(l, askScan(wrong.Lo, wrong.Hi, 1, false), askScan(wrong.Lo, wrong.Hi, 8, true))
	}
	for _, kind := range wrongKinds() {
		l = append(l, impl.Ask{Kind: kind}, impl.Ask{Kind: kind, Key: "a"}, impl.Ask{Kind: kind, Key: "a", Val: "x"}, impl.Ask{Kind: kind, Range: r, Most: 1})
	}
	return l
}

var here = impl.Tx{C: 1, E: 2, N: 3}

func userPairs(n int) []impl.Pair {
	var l []impl.Pair
	for i := range n {
		l = append(l, pair("k"+strconv.Itoa(i), strconv.Itoa(i)))
	}
	return l
}

// someMsgs: right ones, of each kind with each of its parts at its ends.
func someMsgs() []impl.Msg {
	full := slices.Repeat([]impl.Pair{pair(longUser, longUval)}, 8)
	return []impl.Msg{
		{Kind: 1, Tx: here, Num: 1, Ask: askGet("a")},
		{Kind: 1, Tx: here, Shard: 3, Num: 16, Ask: askPut(longUser, longUval)},
		{Kind: 1, Tx: here, Num: 2, Ask: askPut("a", "")},
		{Kind: 1, Tx: here, Num: 3, Ask: askDel("\x00")},
		{Kind: 1, Tx: here, Num: 4, Ask: askScan("", "", 1, false)},
		{Kind: 1, Tx: nameOf(4), Shard: 1, Num: 16, Ask: askScan(longUser+"i", topUser+"\xff", 8, true)},
		{Kind: 2, Tx: here, Num: 1, Stamp: 1},
		{Kind: 2, Tx: here, Num: 16, Stamp: impl.MaxNum, Pairs: full},
		{Kind: 2, Tx: nameOf(4), Shard: 2, Num: 3, Stamp: 300, Pairs: []impl.Pair{pair("b", "1"), pair("a", ""), pair("b", "2")}},
		{Kind: 2, Tx: here, Num: 1, Code: 1},
		{Kind: 2, Tx: here, Shard: 3, Num: 16, Code: 9, Pairs: userPairs(2)},
		{Kind: 3, Tx: here, Num: 1, Stamp: 1},
		{Kind: 3, Tx: nameOf(4), Shard: 3, Num: 16, Stamp: impl.MaxNum},
		{Kind: 4, Tx: here}, {Kind: 4, Tx: here, Shard: 1, Yes: true},
		{Kind: 5, Tx: here}, {Kind: 5, Tx: nameOf(4), Shard: 3, Yes: true},
		{Kind: 6, Tx: here}, {Kind: 6, Tx: nameOf(0), Shard: 3},
		{Kind: 7, Tx: here}, {Kind: 7, Tx: nameOf(4), Shard: 2},
	}
}

// rightMsgs: more of them, with each name, each ask and each number of pairs.
func rightMsgs() []impl.Msg {
	l := someMsgs()
	for _, a := range rightAsks() {
		l = append(l, impl.Msg{Kind: 1, Tx: nameOf(8), Num: 7, Ask: a})
	}
	for n := range 9 {
		l = append(l, impl.Msg{Kind: 2, Tx: nameOf(9), Num: 8, Stamp: 100001, Pairs: userPairs(n)}, impl.Msg{Kind: 2, Tx: nameOf(9), Num: 8, Code: 1 + n, Pairs: userPairs(n)})
	}
	for _, n := range someNumbers() {
		if n > 0 {
			l = append(l, impl.Msg{Kind: 2, Tx: nameOf(7), Num: 9, Stamp: n}, impl.Msg{Kind: 3, Tx: nameOf(7), Num: 9, Stamp: n})
		}
	}
	for i := range 10 {
		for kind := 4; kind < 8; kind++ {
			for shard := range 4 {
				l = append(l, impl.Msg{Kind: kind, Tx: nameOf(i), Shard: shard}, impl.Msg{Kind: kind, Tx: nameOf(i), Shard: shard, Yes: kind < 6})
			}
		}
	}
	return l
}

func thrownAsk(d *dice) impl.Ask {
	k := thrownText(d, 8)
	lo, hi := thrownText(d, 10)[1:], thrownText(d, 10)[1:]
	if lo >= hi {
		hi = ""
	}
	return []impl.Ask{askGet(k), askPut(k, thrownText(d, 21)[1:]), askDel(k), askScan(lo, hi, 1+d.below(8), d.below(2) == 0)}[d.below(4)]
}

func thrownUserPairs(d *dice, size int) []impl.Pair {
	var l []impl.Pair
	for range size {
		l = append(l, pair(thrownText(d, 8), thrownText(d, 21)[1:]))
	}
	return l
}

// thrownMsg: right ones, of all kinds.
func thrownMsg(d *dice) impl.Msg {
	m := impl.Msg{Kind: 1 + d.below(7), Tx: impl.Tx{C: d.below(8), E: 1 + d.below(999), N: 1 + d.below(999)}, Shard: d.below(4)}
	if m.Kind < 4 {
		m.Num = 1 + d.below(16)
	}
	switch m.Kind {
	case 1:
		m.Ask = thrownAsk(d)
	case 2:
		m.Code, m.Pairs = max(0, d.below(20)-10), thrownUserPairs(d, d.below(9))
	case 4, 5:
		m.Yes = d.below(2) == 0
	}
	if m.Kind == 2 && m.Code == 0 || m.Kind == 3 {
		m.Stamp = 1 + d.below(1<<d.below(40))
	}
	return m
}

func TestP12MessagesAreReadAsWritten(t *testing.T) {
	seen := map[string]string{}
	for _, m := range rightMsgs() {
		wantBool(t, "MsgOk of a right message", impl.MsgOk(m), true)
		checkMsg(t, m)
		b, _ := impl.MsgBytes(m)
		if other, there := seen[string(b)]; there && other != allText(false, m) {
			t.Errorf("%#v has the bytes of another message", m)
		}
		seen[string(b)] = allText(false, m)
	}
	throw := dice(901)
	kinds := map[int]int{}
	for range 20000 {
		m := thrownMsg(&throw)
		checkMsg(t, m)
		wantBool(t, "MsgOk of a thrown message", impl.MsgOk(m), true)
		kinds[m.Kind]++
	}
	if len(kinds) != 7 {
		t.Errorf("messages of %d kinds alone", len(kinds))
	}
}

// Each list of bytes that is one byte away from a message's is read as it stands.
func TestP12OneFormOfAMessageAloneIsRead(t *testing.T) {
	for _, m := range someMsgs() {
		s := string(msgText(m))
		for i := range len(s) + 1 {
			for c := range 256 {
				put := string([]byte{byte(c)})
				checkMsgIn(t, "a byte put in", []byte(s[:i]+put+s[i:]))
				if i < len(s) {
					checkMsgIn(t, "another byte", []byte(s[:i]+put+s[i+1:]))
				}
			}
			if i < len(s) {
				checkMsgIn(t, "a byte taken out", []byte(s[:i]+s[i+1:]))
			}
		}
	}
}

func TestP12BytesTooFewOrTooManyAreNoMessage(t *testing.T) {
	wantNoMsg(t, "none", nil)
	wantNoMsg(t, "none, but a list", []byte{})
	for _, m := range someMsgs() {
		b := msgText(m)
		for i := range b {
			wantNoMsg(t, "the first bytes alone", b[:i])
			if i > 0 {
				wantNoMsg(t, "the last bytes alone", b[i:])
			}
		}
		for c := range 256 {
			wantNoMsg(t, "a byte behind", append(slices.Clone(b), byte(c)))
		}
		wantNoMsg(t, "twice", slices.Concat(b, b))
		wantNoMsg(t, "filled", append(slices.Clone(b), make([]byte, 512)...))
	}
}

// longer is a number in more bytes than it needs.
func longer(n, more int) []byte {
	b := varOf(n)
	b[len(b)-1] |= 128
	return append(b, append(slices.Repeat([]byte{128}, more-1), 0)...)
}

func TestP12NumbersInMoreBytesAreNotRead(t *testing.T) {
	for _, m := range someMsgs() {
		for at, p := range piecesOf(m) {
			for more := 1; more < 10; more++ {
				wantNoMsg(t, "a longer number at "+strconv.Itoa(at), withPiece(m, at, append(longer(p.num, more), p.text...)))
			}
		}
	}
}

// Each number of a message's bytes is changed in turn.
func TestP12OtherNumbersAreReadAsTheyStand(t *testing.T) {
	for _, m := range someMsgs() {
		for at, p := range piecesOf(m) {
			for _, n := range append(someNumbers(), 3, 4, 5, 6, 7, 8, 15, 16, 17, 20, 21, 999, 1000) {
				checkMsgIn(t, "another number at "+strconv.Itoa(at), withPiece(m, at, append(varOf(n), p.text...)))
			}
			for _, n := range []int{impl.MaxNum + 1, impl.MaxNum + 2, 1 << 41, 1 << 42, 1<<42 + 1, 1 << 56, math.MaxInt64} {
				wantNoMsg(t, "no number at "+strconv.Itoa(at), withPiece(m, at, append(varOf(n), p.text...)))
			}
			wantNoMsg(t, "a number without an end", withPiece(m, at, slices.Repeat([]byte{255}, 40)))
		}
	}
}

func TestP12TruthsAreZeroOrOne(t *testing.T) {
	for _, m := range []impl.Msg{{Kind: 1, Tx: here, Num: 1, Ask: askScan("a", "", 2, true)}, {Kind: 1, Tx: here, Num: 1, Ask: askScan("a", "", 2, false)}} {
		for n := 2; n < 300; n++ {
			wantNoMsg(t, "Back as "+strconv.Itoa(n), withPiece(m, backPiece, varOf(n)))
		}
		back := m
		back.Ask.Back = !m.Ask.Back
		wantMsg(t, "the other Back", withPiece(m, backPiece, varOf(bit(back.Ask.Back))), back, true)
	}
	for _, m := range []impl.Msg{{Kind: 4, Tx: here, Yes: true}, {Kind: 4, Tx: here}, {Kind: 5, Tx: here, Yes: true}, {Kind: 5, Tx: here}} {
		last := len(piecesOf(m)) - 1
		for n := 2; n < 300; n++ {
			wantNoMsg(t, "Yes as "+strconv.Itoa(n), withPiece(m, last, varOf(n)))
		}
		other := m
		other.Yes = !m.Yes
		wantMsg(t, "the other Yes", withPiece(m, last, varOf(bit(other.Yes))), other, true)
	}
}

func TestP12ACountThatIsNotWhatFollows(t *testing.T) {
	for n := range 12 {
		for _, code := range []int{0, 4} {
			m := impl.Msg{Kind: 2, Tx: here, Num: 1, Stamp: bit(code == 0), Code: code, Pairs: userPairs(n)}
			checkMsgIn(t, strconv.Itoa(n)+" pairs", msgText(m))
			for _, count := range append(upFrom(0, 20), 127, 128, 255, 256, 257, 65536, 1<<32, 1<<32+n, impl.MaxNum) {
				if count != n {
					wantNoMsg(t, strconv.Itoa(n)+" pairs, told as "+strconv.Itoa(count), withPiece(m, countPiece, varOf(count)))
				}
			}
		}
	}
}

// Thrown changes of the pieces leave some messages right.
func TestP12ThrownBytesAreReadAsTheyStandInMessages(t *testing.T) {
	throw := dice(902)
	read := 0
	for range 60000 {
		m := thrownMsg(&throw)
		pieces := piecesOf(m)
		for range 1 + throw.below(3) {
			at := throw.below(len(pieces))
			pieces[at].num = throw.below([]int{3, 10, 20, 1100}[throw.below(4)])
			if pieces[at].text != "" {
				pieces[at] = textPiece(thrownText(&throw, 25))
			}
		}
		b := joined(pieces)
		if throw.below(4) == 0 {
			b[throw.below(len(b))] = byte(throw.below(256))
		}
		if checkMsgIn(t, "thrown", b) {
			read++
		}
	}
	if read < 1000 || read > 59000 {
		t.Errorf("%d of the thrown bytes are messages", read)
	}
}

func TestP12ThrownAsksGoOnTheirWay(t *testing.T) {
	throw := dice(903)
	for range 5000 {
		a := thrownAsk(&throw)
		b, _ := impl.MsgBytes(impl.Msg{Kind: impl.MsgAsk, Tx: here, Num: 1, Ask: a})
		if m, ok := impl.MsgRead(b); !ok || m.Ask != a {
			t.Errorf("the ask %#v comes as %#v, %v", a, m.Ask, ok)
		}
	}
}

func TestP15MsgLimits(t *testing.T) {
	if impl.AskGet != 1 || impl.AskPut != 2 || impl.AskDel != 3 || impl.AskScan != 4 || impl.MaxMost != 8 {
		t.Error("the kinds of asks, or their bound, are others")
	}
	if impl.MsgAsk != 1 || impl.MsgTell != 2 || impl.MsgReady != 3 || impl.MsgVote != 4 || impl.MsgEnd != 5 || impl.MsgDone != 6 || impl.MsgWhat != 7 {
		t.Error("the kinds of messages are others")
	}
}

func TestP15AskOk(t *testing.T) {
	for _, a := range rightAsks() {
		wantBool(t, "AskOk of a right ask", impl.AskOk(a), true)
		checkAsk(t, a)
	}
	for _, a := range wrongAsks() {
		wantBool(t, "AskOk of a wrong ask", impl.AskOk(a), false)
		checkAsk(t, a)
	}
}

// Each kind with each part, right and wrong, of its kind and not.
func TestP15AskOkOfAllParts(t *testing.T) {
	ranges := []impl.Range{{}, {Lo: "a"}, {Hi: "a"}, {Lo: "a", Hi: "b"}, {Lo: "b", Hi: "a"}, {Lo: "a", Hi: "a"}, impl.PointOf("a"), impl.PointOf(longUser), impl.PointOf(longUser + "i"),
		{Lo: longUser + "i"}, {Hi: longUser + "i"}, {Lo: longUser + "ij"}, {Hi: longUser + "ij"}, {Lo: longEnd}, {Hi: tooLong}}
	for _, kind := range []int{-1, 0, 1, 2, 3, 4, 5, 6, 256 + 1, 1<<32 + 4, math.MinInt64, math.MaxInt64} {
		for _, k := range []string{"", "a", longUser, longUser + "i", longKey} {
			for _, v := range []string{"", "x", longUval, longUval + "v"} {
				for _, r := range ranges {
					for _, most := range []int{-1, 0, 1, 2, 8, 9, 256 + 1, math.MinInt64, math.MaxInt64} {
						checkAsk(t, impl.Ask{Kind: kind, Key: k, Val: v, Range: r, Most: most})
						checkAsk(t, impl.Ask{Kind: kind, Key: k, Val: v, Range: r, Most: most, Back: true})
					}
				}
			}
		}
	}
}

func TestP15AskOkOfLengths(t *testing.T) {
	for size := range 70 {
		s := strings.Repeat("m", size)
		wantBool(t, "a get of a key of "+strconv.Itoa(size), impl.AskOk(askGet(s)), size >= 1 && size <= 8)
		wantBool(t, "a put of a key of "+strconv.Itoa(size), impl.AskOk(askPut(s, "")), size >= 1 && size <= 8)
		wantBool(t, "a delete of a key of "+strconv.Itoa(size), impl.AskOk(askDel(s)), size >= 1 && size <= 8)
		wantBool(t, "a put of a value of "+strconv.Itoa(size), impl.AskOk(askPut("a", s)), size <= 20)
		wantBool(t, "a get with a value of "+strconv.Itoa(size), impl.AskOk(impl.Ask{Kind: 1, Key: "a", Val: s}), size == 0)
		wantBool(t, "a delete with a value of "+strconv.Itoa(size), impl.AskOk(impl.Ask{Kind: 3, Key: "a", Val: s}), size == 0)
		wantBool(t, "a scan from a text of "+strconv.Itoa(size), impl.AskOk(askScan(s, "", 1, false)), size <= 9)
		wantBool(t, "a scan up to a text of "+strconv.Itoa(size), impl.AskOk(askScan("", s, 1, false)), size <= 9)
		wantBool(t, "a scan of "+strconv.Itoa(size), impl.AskOk(askScan("", "", size, size%2 == 0)), size >= 1 && size <= 8)
	}
	for _, a := range []impl.Ask{askGet(strings.Repeat("a", 5000)), askPut("a", strings.Repeat("a", 5000)), askScan(strings.Repeat("a", 5000), "", 1, false), askScan("", strings.Repeat("a", 5000), 1, false)} {
		wantBool(t, "an ask of 5000 bytes", impl.AskOk(a), false)
		checkAsk(t, a)
	}
}

func wantAskLock(t *testing.T, a impl.Ask, lo, hi string, ex bool) {
	t.Helper()
	if r, got := impl.AskLock(a); r.Lo != lo || r.Hi != hi || got != ex {
		t.Errorf("AskLock(%#v) is %q, %v, want from %q to %q, %v", a, r, got, lo, hi, ex)
	}
}

func TestP15AskLock(t *testing.T) {
	wantAskLock(t, askGet("a"), "a", "a\x00", false)
	wantAskLock(t, askPut("a", "x"), "a", "a\x00", true)
	wantAskLock(t, askPut("a", ""), "a", "a\x00", true)
	wantAskLock(t, askDel("a"), "a", "a\x00", true)
	wantAskLock(t, askDel(topUser), topUser, topUser+"\x00", true)
	wantAskLock(t, askGet("\x00"), "\x00", "\x00\x00", false)
	wantAskLock(t, askScan("", "", 1, false), "", "", false)
	wantAskLock(t, askScan("a", "", 8, true), "a", "", false)
	wantAskLock(t, askScan("", "b", 8, true), "", "b", false)
	wantAskLock(t, askScan("a", "a\x00", 3, false), "a", "a\x00", false)
	wantAskLock(t, askScan(longUser, longUser+"\x00", 3, false), longUser, longUser+"\x00", false)
	for _, a := range wrongAsks() {
		wantAskLock(t, a, "", "", false)
	}
}

// What an ask locks is a range that clients reach, and holds what is asked for.
func TestP15AskLockIsARangeOfClients(t *testing.T) {
	for _, a := range rightAsks() {
		r, ex := impl.AskLock(a)
		wantBool(t, "ReachOk of a lock", impl.ReachOk(r), true)
		if a.Kind != impl.AskScan {
			wantBool(t, "the key in its lock", impl.RangeHas(r, a.Key), true)
		}
		if _, code := impl.LockAsk(impl.Locks{}, impl.Lock{Tx: here, Range: r, Ex: ex}); code != 0 {
			t.Errorf("LockAsk of the lock of %#v has code %d", a, code)
		}
	}
}

func wantMsgOk(t *testing.T, m impl.Msg, want bool) {
	t.Helper()
	if impl.MsgOk(m) != want {
		t.Errorf("MsgOk(%#v) is %v", m, !want)
	}
	checkMsg(t, m)
}

func TestP15MsgOkOfNumbers(t *testing.T) {
	for _, n := range append(upFrom(-3, 30), append(farEnds(), 999, 1000, impl.MaxNum-1, impl.MaxNum, impl.MaxNum+1)...) {
		isNum, isCode, isStamp := n >= 1 && n <= 16, n >= 0 && n <= 9, n >= 1 && n <= impl.MaxNum
		wantMsgOk(t, impl.Msg{Kind: 1, Tx: here, Num: n, Ask: askGet("a")}, isNum)
		wantMsgOk(t, impl.Msg{Kind: 2, Tx: here, Num: n, Stamp: 1}, isNum)
		wantMsgOk(t, impl.Msg{Kind: 2, Tx: here, Num: n, Code: 1}, isNum)
		wantMsgOk(t, impl.Msg{Kind: 3, Tx: here, Num: n, Stamp: 1}, isNum)
		wantMsgOk(t, impl.Msg{Kind: 2, Tx: here, Num: 1, Stamp: n}, isStamp)
		wantMsgOk(t, impl.Msg{Kind: 3, Tx: here, Num: 1, Stamp: n}, isStamp)
		wantMsgOk(t, impl.Msg{Kind: 2, Tx: here, Num: 1, Stamp: n, Code: 1}, n == 0)
		wantMsgOk(t, impl.Msg{Kind: 2, Tx: here, Num: 1, Stamp: n, Code: 9}, n == 0)
		wantMsgOk(t, impl.Msg{Kind: 2, Tx: here, Num: 1, Code: n}, isCode && n != 0)
		wantMsgOk(t, impl.Msg{Kind: 2, Tx: here, Num: 1, Stamp: 1, Code: n}, n == 0)
		for kind := 4; kind < 8; kind++ {
			wantMsgOk(t, impl.Msg{Kind: kind, Tx: here, Shard: n}, n >= 0 && n <= 3)
			wantMsgOk(t, impl.Msg{Kind: kind, Tx: here, Num: n}, n == 0)
			wantMsgOk(t, impl.Msg{Kind: kind, Tx: here, Stamp: n}, n == 0)
			wantMsgOk(t, impl.Msg{Kind: kind, Tx: here, Code: n}, n == 0)
		}
		wantMsgOk(t, impl.Msg{Kind: n, Tx: here}, n >= 4 && n <= 7)
		wantMsgOk(t, impl.Msg{Kind: n, Tx: here, Yes: true}, n == 4 || n == 5)
		wantMsgOk(t, impl.Msg{Kind: n, Tx: here, Num: 1, Stamp: 1}, n == 2 || n == 3)
		wantMsgOk(t, impl.Msg{Kind: n, Tx: here, Num: 1, Ask: askGet("a")}, n == 1)
	}
}

// partChanges: each sets one part of a message to something.
func partChanges() map[string]func(m *impl.Msg) {
	return map[string]func(m *impl.Msg){
		"num":       func(m *impl.Msg) { m.Num = 1 },
		"stamp":     func(m *impl.Msg) { m.Stamp = 1 },
		"code":      func(m *impl.Msg) { m.Code = 1 },
		"pairs":     func(m *impl.Msg) { m.Pairs = userPairs(1) },
		"yes":       func(m *impl.Msg) { m.Yes = true },
		"ask":       func(m *impl.Msg) { m.Ask = askGet("a") },
		"ask kind":  func(m *impl.Msg) { m.Ask.Kind = 1 },
		"ask key":   func(m *impl.Msg) { m.Ask.Key = "a" },
		"ask val":   func(m *impl.Msg) { m.Ask.Val = "x" },
		"ask lo":    func(m *impl.Msg) { m.Ask.Range.Lo = "a" },
		"ask hi":    func(m *impl.Msg) { m.Ask.Range.Hi = "z" },
		"ask most":  func(m *impl.Msg) { m.Ask.Most = 1 },
		"ask back":  func(m *impl.Msg) { m.Ask.Back = true },
		"no pair":   func(m *impl.Msg) { m.Pairs = []impl.Pair{{}} },
		"neg num":   func(m *impl.Msg) { m.Num = -1 },
		"neg stamp": func(m *impl.Msg) { m.Stamp = -1 },
		"neg code":  func(m *impl.Msg) { m.Code = -1 },
		"neg most":  func(m *impl.Msg) { m.Ask.Most = -1 },
	}
}

// Each message with each part that isn't of its kind set is wrong.
func TestP15MsgOkOfPartsOfOtherKinds(t *testing.T) {
	for _, m := range someMsgs() {
		parts, _ := partsOfKind(m.Kind)
		for name, change := range partChanges() {
			other := m
			change(&other)
			checkMsg(t, other)
			if !slices.Contains(strings.Fields(parts), strings.Fields(name)[0]) && impl.MsgOk(other) {
				t.Errorf("MsgOk(%#v) is true", other)
			}
		}
		for _, kind := range append(wrongKinds(), 1, 2, 3, 4, 5, 6, 7, 8) {
			other := m
			other.Kind = kind
			checkMsg(t, other)
		}
	}
	for _, kind := range append(wrongKinds(), 8, 9) {
		if kind < 1 || kind > 7 {
			for _, m := range someMsgs() {
				m.Kind = kind
				wantMsgOk(t, m, false)
			}
		}
	}
}

// All parts of all kinds together, right and wrong ones.
func TestP15MsgOkOfAllParts(t *testing.T) {
	asks := []impl.Ask{{}, askGet("a"), askPut("a", "x"), askScan("", "", 8, true), {Kind: 1}, askScan("", "", 9, false)}
	lists := [][]impl.Pair{nil, {}, userPairs(1), userPairs(8), userPairs(9), {pair("", "x")}, {pair("b", ""), pair("a", longUval+"v")}}
	for kind := -1; kind < 10; kind++ {
		for _, num := range []int{-1, 0, 1, 16, 17} {
			for _, stamp := range []int{-1, 0, 1, impl.MaxNum, impl.MaxNum + 1} {
				for _, code := range []int{-1, 0, 1, 9, 10} {
					for _, a := range asks {
						for _, l := range lists {
							checkMsg(t, impl.Msg{Kind: kind, Tx: here, Num: num, Stamp: stamp, Code: code, Ask: a, Pairs: l})
							checkMsg(t, impl.Msg{Kind: kind, Tx: here, Num: num, Stamp: stamp, Code: code, Ask: a, Pairs: l, Yes: true})
						}
					}
				}
			}
		}
	}
}

func TestP15MsgOkOfNamesAndShards(t *testing.T) {
	for _, m := range someMsgs() {
		for _, x := range append(someWrongNames(), manyNames(12)...) {
			m.Tx = x
			wantMsgOk(t, m, rightName(x))
		}
		m.Tx = here
		for _, shard := range append(upFrom(-2, 8), farEnds()...) {
			m.Shard = shard
			wantMsgOk(t, m, shard >= 0 && shard <= 3)
		}
	}
}

func TestP15MsgOkOfAsks(t *testing.T) {
	for _, a := range rightAsks() {
		wantMsgOk(t, impl.Msg{Kind: 1, Tx: here, Num: 1, Ask: a}, true)
		for kind := 2; kind < 8; kind++ {
			wantMsgOk(t, impl.Msg{Kind: kind, Tx: here, Num: bit(kind < 4), Stamp: bit(kind < 4), Ask: a}, false)
		}
	}
	for _, a := range wrongAsks() {
		wantMsgOk(t, impl.Msg{Kind: 1, Tx: here, Num: 1, Ask: a}, false)
	}
}

func TestP15MsgOkOfPairs(t *testing.T) {
	for n := range 20 {
		wantMsgOk(t, impl.Msg{Kind: 2, Tx: here, Num: 1, Stamp: 1, Pairs: userPairs(n)}, n <= 8)
		wantMsgOk(t, impl.Msg{Kind: 2, Tx: here, Num: 1, Code: 3, Pairs: userPairs(n)}, n <= 8)
		wantMsgOk(t, impl.Msg{Kind: 3, Tx: here, Num: 1, Stamp: 1, Pairs: userPairs(n)}, n == 0)
		wantMsgOk(t, impl.Msg{Kind: 1, Tx: here, Num: 1, Ask: askGet("a"), Pairs: userPairs(n)}, n == 0)
		wantMsgOk(t, impl.Msg{Kind: 6, Tx: here, Pairs: userPairs(n)}, n == 0)
	}
	for _, l := range [][]impl.Pair{{pair("b", "1"), pair("a", "2")}, {pair("a", "1"), pair("a", "1")}, {pair("a", "1"), pair("b", ""), pair("a", "2")}, slices.Repeat([]impl.Pair{pair("\x00", "")}, 8)} {
		wantMsgOk(t, impl.Msg{Kind: 2, Tx: here, Num: 1, Stamp: 1, Pairs: l}, true)
	}
	for _, wrong := range []impl.Pair{{}, pair("", "x"), pair(longUser+"i", ""), pair("a", longUval+"v"), pair(longKey, ""), pair("a", longVal), pair(strings.Repeat("a", 5000), ""), pair("a", strings.Repeat("a", 5000))} {
		for at := range 8 {
			for _, size := range []int{at + 1, 8} {
				l := userPairs(size)
				l[at] = wrong
				wantMsgOk(t, impl.Msg{Kind: 2, Tx: here, Num: 1, Stamp: 1, Pairs: l}, false)
				wantMsgOk(t, impl.Msg{Kind: 2, Tx: here, Num: 1, Code: 2, Pairs: l}, false)
			}
		}
	}
	wantMsgOk(t, impl.Msg{Kind: 2, Tx: here, Num: 1, Stamp: 1, Pairs: userPairs(5000)}, false)
}

func wantMsgBytes(t *testing.T, m impl.Msg, want string) {
	t.Helper()
	b, ok := impl.MsgBytes(m)
	wantBytes(t, "MsgBytes", b, ok, []byte(want))
	wantMsg(t, "written by hand", []byte(want), m, true)
}

func TestP15MsgBytes(t *testing.T) {
	wantMsgBytes(t, impl.Msg{Kind: impl.MsgAsk, Tx: here, Shard: 3, Num: 16, Ask: askPut("a", "xy")}, "\x01\x01\x02\x03\x03\x10\x00"+"\x02\x01a\x02xy\x00\x00\x00\x00"+"\x00\x00\x00")
	wantMsgBytes(t, impl.Msg{Kind: impl.MsgAsk, Tx: nameOf(4), Num: 1, Ask: askScan("a", "bc", 8, true)}, "\x01\x07\xe7\x07\xe7\x07\x00\x01\x00"+"\x04\x00\x00\x01a\x02bc\x08\x01"+"\x00\x00\x00")
	wantMsgBytes(t, impl.Msg{Kind: impl.MsgAsk, Tx: here, Num: 1, Ask: askScan("", "", 1, false)}, "\x01\x01\x02\x03\x00\x01\x00"+"\x04\x00\x00\x00\x00\x01\x00"+"\x00\x00\x00")
	wantMsgBytes(t, impl.Msg{Kind: impl.MsgTell, Tx: here, Num: 2, Stamp: 300, Pairs: []impl.Pair{pair("b", "1"), pair("a", "")}}, "\x02\x01\x02\x03\x00\x02\xac\x02"+"\x00\x00\x00\x00\x00\x00\x00"+"\x00\x02\x01b\x011\x01a\x00\x00")
	wantMsgBytes(t, impl.Msg{Kind: impl.MsgTell, Tx: here, Num: 2, Code: 9}, "\x02\x01\x02\x03\x00\x02\x00"+"\x00\x00\x00\x00\x00\x00\x00"+"\x09\x00\x00")
	wantMsgBytes(t, impl.Msg{Kind: impl.MsgReady, Tx: here, Num: 2, Stamp: impl.MaxNum}, "\x03\x01\x02\x03\x00\x02\xff\xff\xff\xff\xff\x1f"+"\x00\x00\x00\x00\x00\x00\x00"+"\x00\x00\x00")
	wantMsgBytes(t, impl.Msg{Kind: impl.MsgVote, Tx: here, Shard: 1, Yes: true}, "\x04\x01\x02\x03\x01\x00\x00"+"\x00\x00\x00\x00\x00\x00\x00"+"\x00\x00\x01")
	wantMsgBytes(t, impl.Msg{Kind: impl.MsgEnd, Tx: here}, "\x05\x01\x02\x03\x00\x00\x00"+"\x00\x00\x00\x00\x00\x00\x00"+"\x00\x00\x00")
	wantMsgBytes(t, impl.Msg{Kind: impl.MsgDone, Tx: nameOf(0)}, "\x06\x00\x01\x01\x00\x00\x00"+"\x00\x00\x00\x00\x00\x00\x00"+"\x00\x00\x00")
	wantMsgBytes(t, impl.Msg{Kind: impl.MsgWhat, Tx: nameOf(0), Shard: 2}, "\x07\x00\x01\x01\x02\x00\x00"+"\x00\x00\x00\x00\x00\x00\x00"+"\x00\x00\x00")
}

// Written as a right one is, a message that isn't right is read as none.
func TestP15MsgReadOfWrongMessages(t *testing.T) {
	var l []impl.Msg
	for _, m := range someMsgs() {
		for _, change := range partChanges() {
			other := m
			change(&other)
			l = append(l, other)
		}
		for kind := range 10 {
			other := m
			other.Kind = kind
			l = append(l, other)
		}
		for _, n := range []int{0, 4, 8, 17, 1000, impl.MaxNum} {
			more, far, last := m, m, m
			more.Num, far.Shard, last.Tx.E = n, n, n
			l = append(l, more, far, last)
		}
	}
	for _, a := range wrongAsks() {
		l = append(l, impl.Msg{Kind: 1, Tx: here, Num: 1, Ask: a})
	}
	for _, p := range []impl.Pair{pair("", "x"), pair(longUser+"i", ""), pair("a", longUval+"v"), pair(strings.Repeat("a", 128), strings.Repeat("a", 300))} {
		l = append(l, impl.Msg{Kind: 2, Tx: here, Num: 1, Stamp: 1, Pairs: []impl.Pair{p}}, impl.Msg{Kind: 2, Tx: here, Num: 1, Stamp: 1, Pairs: []impl.Pair{pair("a", ""), p}})
	}
	l = append(l, impl.Msg{}, impl.Msg{Kind: 2, Tx: here, Num: 1, Stamp: 1, Pairs: userPairs(9)}, impl.Msg{Kind: 2, Tx: here, Num: 1, Stamp: 1, Pairs: userPairs(2000)})
	wrong := 0
	for _, m := range l {
		if rightMsg(m) || slices.ContainsFunc(piecesOf(m), func(p piece) bool { return p.num < 0 }) {
			continue
		}
		wrong++
		wantNoMsg(t, "bytes of a wrong message", msgText(m))
		wantMsgOk(t, m, false)
	}
	if wrong < 400 {
		t.Errorf("only %d wrong messages", wrong)
	}
}

func TestP15MsgReadOfOtherBytes(t *testing.T) {
	head := string(msgText(impl.Msg{Kind: 2, Tx: here, Num: 1, Stamp: 1}))[:countPiece]
	for _, fill := range []string{"\x00", "\x01", "\x02", "\x7f", "\x80", "\x81", "\xff", "a"} {
		for _, size := range []int{1, 2, 16, 17, 18, 263, 264, 265, 512, 4095, 4096, 4097, 100000} {
			checkMsgIn(t, "one byte "+strconv.Itoa(size)+" times", []byte(strings.Repeat(fill, size)))
			checkMsgIn(t, "behind a right head", []byte(head+strings.Repeat(fill, size)))
		}
	}
	for _, size := range []string{"\xff\xff\xff\xff\xff\x1f", "\xff\xff\xff\xff\xff\x20", "\xff\xff\xff\xff\xff\xff\xff\xff\x7f", "\xff\xff\xff\xff\xff\xff\xff\xff\xff\x01"} {
		wantNoMsg(t, "a text of many bytes", []byte(head+"\x01"+size+"a\x00\x00"))
		wantNoMsg(t, "many pairs", []byte(head+size+"\x01a\x00\x00"))
	}
	for _, p := range []impl.Page{leafPage("a", "1"), branchPage([]string{"a"}, 2, 3)} {
		b, _ := impl.PageBytes(p)
		wantNoMsg(t, "a page", b)
	}
}

// The longest message is far from MaxBytes: all that are right are written.
func TestP15TheLongestMessage(t *testing.T) {
	m := impl.Msg{Kind: 2, Tx: nameOf(4), Shard: 3, Num: 16, Stamp: impl.MaxNum, Pairs: slices.Repeat([]impl.Pair{pair(topUser, topUval)}, 8)}
	b, ok := impl.MsgBytes(m)
	if !ok || len(b) != 1+1+2+2+1+1+6+7+1+1+8*30+1 {
		t.Errorf("the longest message has %d bytes, %v", len(b), ok)
	}
	wantMsg(t, "the longest", b, m, true)
}

// Each number of a message near the ends of what an int may be.
func TestP15NumbersNearTheEndsOfAnInt(t *testing.T) {
	parts := []func(m *impl.Msg) *int{
		func(m *impl.Msg) *int { return &m.Kind }, func(m *impl.Msg) *int { return &m.Tx.C }, func(m *impl.Msg) *int { return &m.Tx.E }, func(m *impl.Msg) *int { return &m.Tx.N },
		func(m *impl.Msg) *int { return &m.Shard }, func(m *impl.Msg) *int { return &m.Num }, func(m *impl.Msg) *int { return &m.Stamp }, func(m *impl.Msg) *int { return &m.Code },
		func(m *impl.Msg) *int { return &m.Ask.Kind }, func(m *impl.Msg) *int { return &m.Ask.Most },
	}
	for _, m := range someMsgs() {
		for _, part := range parts {
			for _, far := range farEnds() {
				other := m
				old := *part(&other)
				for _, n := range []int{far, far + old, far - old, far &^ 255 & math.MaxInt64, far&^255 + old} {
					*part(&other) = n
					checkMsg(t, other)
					checkAsk(t, other.Ask)
				}
			}
		}
	}
}

func msgAnswers(m impl.Msg, b []byte) map[string][]any {
	impl.MsgOk(m)
	impl.AskOk(m.Ask)
	impl.AskLock(m.Ask)
	written, _ := impl.MsgBytes(m)
	read, _ := impl.MsgRead(b)
	return map[string][]any{"MsgBytes": {written}, "MsgRead": {read}}
}

func checkMsgMemory(t *testing.T, what string, m impl.Msg, b []byte) {
	t.Helper()
	m.Pairs, b = marked(m.Pairs, pair("mark", "mark")), marked(b, 'R')
	first := askTwice(t, what, func() map[string][]any { return msgAnswers(m, b) }, m, b)
	wantApart(t, what, first, m, b)
	told := allText(false, first["MsgBytes"]...) + allText(false, first["MsgRead"]...)
	fillUp(b, 'z')
	fillUp(m.Pairs, pair("z", "z"))
	if allText(false, first["MsgBytes"]...)+allText(false, first["MsgRead"]...) != told {
		t.Errorf("%s: an answer changes with its argument", what)
	}
}

func TestP15MessagesAreNewMemory(t *testing.T) {
	for _, m := range someMsgs() {
		checkMsgMemory(t, "right ones", m, msgText(m))
	}
	throw := dice(904)
	for range 2000 {
		m := thrownMsg(&throw)
		checkMsgMemory(t, "thrown ones", m, msgText(m))
	}
}

func TestP15RefusalsChangeNoMessage(t *testing.T) {
	for _, m := range someMsgs() {
		b := msgText(m)
		for _, change := range partChanges() {
			other := m
			change(&other)
			checkMsgMemory(t, "a part changed", other, b[:len(b)-1])
		}
		for _, x := range someWrongNames() {
			other := m
			other.Tx = x
			checkMsgMemory(t, "a wrong name", other, append(slices.Clone(b), 0))
		}
	}
	checkMsgMemory(t, "too many pairs", impl.Msg{Kind: 2, Tx: here, Num: 1, Stamp: 1, Pairs: userPairs(9)}, nil)
	checkMsgMemory(t, "nothing", impl.Msg{}, nil)
}
