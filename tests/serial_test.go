package tests

import (
	"maps"
	"slices"
	"strconv"
	"strings"
	"testing"

	"loop.example/g00392/impl"
)

// rightData: a map's pairs in the order of its keys, which clients may have.
func rightData(l []impl.Pair) bool {
	keys := map[string]int{}
	for _, p := range l {
		keys[p.Key]++
	}
	var told []string
	for _, p := range l {
		told = append(told, p.Key)
	}
	return slices.Equal(told, slices.Sorted(maps.Keys(keys))) && !slices.ContainsFunc(l, func(p impl.Pair) bool { return !isUserPair(p) })
}

// ran is what RunAsk must answer.
func ran(l []impl.Pair, a impl.Ask) (behind, told []impl.Pair, ok bool) {
	if !rightData(l) || !rightAsk(a) {
		return nil, nil, false
	}
	switch a.Kind {
	case 2:
		return dataOf(dPairs(l), []impl.Edit{puts(a.Key, a.Val)}), nil, true
	case 3:
		return dataOf(dPairs(l), []impl.Edit{goes(a.Key)}), nil, true
	}
	return l, readOf(l, a), true
}

// ranTx is what RunTx must answer.
func ranTx(l []impl.Pair, log []impl.Reply, x impl.Tx) ([]impl.Pair, bool) {
	if !rightData(l) {
		return nil, false
	}
	same := true
	for _, r := range log {
		if r.Kind != 2 || r.Tx != x || r.Code != 0 {
			continue
		}
		behind, told, ok := ran(l, r.Ask)
		if !ok {
			return nil, false
		}
		l, same = behind, same && slices.Equal(told, r.Pairs)
	}
	return l, same
}

// ranAll is what Serial must answer.
func ranAll(log []impl.Reply, order []impl.Tx) ([]impl.Pair, bool) {
	var l []impl.Pair
	for _, x := range order {
		behind, ok := ranTx(l, log, x)
		if !ok {
			return nil, false
		}
		l = behind
	}
	return l, true
}

// outcomeOf is what Outcome must answer.
func outcomeOf(log []impl.Reply, x impl.Tx) int {
	has := func(yes func(r impl.Reply) bool) bool {
		return slices.ContainsFunc(log, func(r impl.Reply) bool { return r.Tx == x && yes(r) })
	}
	switch {
	case has(func(r impl.Reply) bool { return r.Kind == 3 && r.Code == 0 }):
		return 1
	case has(func(r impl.Reply) bool {
		return r.Kind == 4 && r.Code == 0 || (r.Kind == 2 || r.Kind == 3) && r.Code > 1
	}):
		return 2
	}
	return 0
}

func timesAsked(log []impl.Reply, x impl.Tx) int {
	n := 0
	for _, r := range log {
		n += bit(r.Kind == 2 && r.Tx == x && r.Code == 0)
	}
	return n
}

func wantRun(t *testing.T, l []impl.Pair, a impl.Ask, behind, told []impl.Pair, ok bool) {
	t.Helper()
	got, said, also := impl.RunAsk(l, a)
	what := "RunAsk of " + strconv.Itoa(len(l)) + " pairs and " + allText(false, a)
	wantPairs(t, what+", the data", got, behind)
	wantPairs(t, what+", what is told", said, told)
	wantBool(t, what, also, ok)
}

// checkRun holds RunAsk against the model, and answers the data behind it.
func checkRun(t *testing.T, l []impl.Pair, a impl.Ask) []impl.Pair {
	t.Helper()
	behind, told, ok := ran(l, a)
	wantRun(t, l, a, behind, told, ok)
	return behind
}

func wantTx(t *testing.T, l []impl.Pair, log []impl.Reply, x impl.Tx, want []impl.Pair, same bool) {
	t.Helper()
	got, ok := impl.RunTx(l, log, x)
	what := "RunTx of " + strconv.Itoa(len(l)) + " pairs, " + repliesText(log) + " and " + allText(false, x)
	wantPairs(t, what, got, want)
	wantBool(t, what, ok, same)
}

func checkTx(t *testing.T, l []impl.Pair, log []impl.Reply, x impl.Tx) ([]impl.Pair, bool) {
	t.Helper()
	want, same := ranTx(l, log, x)
	wantTx(t, l, log, x, want, same)
	return want, same
}

func wantSerial(t *testing.T, log []impl.Reply, order []impl.Tx, want []impl.Pair, ok bool) {
	t.Helper()
	got, also := impl.Serial(log, order)
	what := "Serial of " + repliesText(log) + " and " + allText(false, order)
	wantPairs(t, what, got, want)
	wantBool(t, what, also, ok)
}

func checkSerial(t *testing.T, log []impl.Reply, order []impl.Tx) ([]impl.Pair, bool) {
	t.Helper()
	want, ok := ranAll(log, order)
	wantSerial(t, log, order, want, ok)
	return want, ok
}

func wantOutcome(t *testing.T, log []impl.Reply, x impl.Tx, want int) {
	t.Helper()
	if got := impl.Outcome(log, x); got != want {
		t.Errorf("Outcome of %s and %v is %d, want %d", repliesText(log), x, got, want)
	}
}

func wantTimes(t *testing.T, log []impl.Reply, x impl.Tx, want int) {
	t.Helper()
	if got := impl.Asked(log, x); got != want {
		t.Errorf("Asked of %s and %v is %d, want %d", repliesText(log), x, got, want)
	}
}

// manyPairs: so many, with keys as long as a client's may be.
func manyPairs(size int) []impl.Pair {
	l := make([]impl.Pair, 0, size)
	for i := range size {
		l = append(l, pair("k"+strconv.Itoa(1000000+i), strconv.Itoa(i)))
	}
	return l
}

// someData: no pair, one, several, and more than any other chapter's lists have.
func someData() [][]impl.Pair {
	l := [][]impl.Pair{nil, {}, {pair("b", "2")}, {pair("\x00", "")}, {pair(longUser, longUval)}, {pair(topUser, topUval)},
		{pair("b", "2"), pair("d", "4"), pair("f", "6")}, {pair("a", "1"), pair("a\x00", "2"), pair("aa", "3"), pair("b", "4")},
		{pair("\x7f", "1"), pair("\x80", "2"), pair("\xff", "2"), pair(topUser, "")}, manyPairs(9)}
	var users []impl.Pair
	for _, k := range slices.Compact(slices.Sorted(slices.Values(someUsers()))) {
		users = append(users, pair(k, "of it"))
	}
	return append(l, users, manyPairs(201), manyPairs(301), manyPairs(2500))
}

// wrongData have one thing that isn't right.
func wrongData() map[string][]impl.Pair {
	l := map[string][]impl.Pair{
		"no key": {pair("", "1")}, "a key too long": {pair(longUser+"i", "1")}, "a tree's longest key": {pair(longKey, "1")}, "a value too long": {pair("a", longUval+"v")},
		"two alike": {pair("a", "1"), pair("a", "1")}, "two with one key": {pair("a", "1"), pair("a", "2")}, "falling": {pair("b", "1"), pair("a", "2")},
		"a longer one ahead": {pair("ab", "1"), pair("a", "2")}, "one with a byte 0 ahead": {pair("a\x00", "1"), pair("a", "2")}, "the top ahead": {pair("\xff", "1"), pair("a", "2")},
		"the first has no key": {pair("", "1"), pair("a", "2")}, "the last value is too long": {pair("a", "1"), pair("b", "2"), pair("c", longUval+"v")},
		"the last key is too long": {pair("a", "1"), pair("b", "2"), pair("c12345678", "3")}, "the midst is too long": {pair("a", "1"), pair("b", longUval+"v"), pair("c", "3")},
	}
	for what, at := range map[string]int{"the first": 0, "one in the midst": 150, "the last but one": 299} {
		twice, fallen := manyPairs(301), manyPairs(301)
		twice[at].Key = twice[at+1].Key
		fallen[at], fallen[at+1] = fallen[at+1], fallen[at]
		l[what+" of many twice"], l[what+" of many behind the next"] = twice, fallen
	}
	return l
}

func TestP13DataIsAMap(t *testing.T) {
	one := []impl.Pair{pair("d", "4")}
	three := []impl.Pair{pair("b", "2"), pair("d", "4"), pair("f", "6")}
	wantRun(t, nil, askPut("d", "4"), one, nil, true)
	wantRun(t, nil, askDel("d"), nil, nil, true)
	wantRun(t, nil, askGet("d"), nil, nil, true)
	wantRun(t, nil, askScan("", "", 8, false), nil, nil, true)
	wantRun(t, one, askPut("d", ""), []impl.Pair{pair("d", "")}, nil, true)
	wantRun(t, one, askDel("d"), nil, nil, true)
	wantRun(t, one, askDel("c"), one, nil, true)
	wantRun(t, one, askGet("d"), one, one, true)
	wantRun(t, one, askGet("d\x00"), one, nil, true)
	wantRun(t, one, askGet("c"), one, nil, true)
	wantRun(t, three, askPut("a", "1"), append([]impl.Pair{pair("a", "1")}, three...), nil, true)
	wantRun(t, three, askPut("c", "3"), []impl.Pair{three[0], pair("c", "3"), three[1], three[2]}, nil, true)
	wantRun(t, three, askPut("g", "7"), []impl.Pair{three[0], three[1], three[2], pair("g", "7")}, nil, true)
	wantRun(t, three, askPut("d", "x"), []impl.Pair{three[0], pair("d", "x"), three[2]}, nil, true)
	wantRun(t, three, askPut("d", "4"), three, nil, true)
	wantRun(t, three, askDel("b"), three[1:], nil, true)
	wantRun(t, three, askDel("d"), []impl.Pair{three[0], three[2]}, nil, true)
	wantRun(t, three, askDel("f"), three[:2], nil, true)
	for _, k := range []string{"a", "c", "b\x00", "g"} {
		wantRun(t, three, askDel(k), three, nil, true)
		wantRun(t, three, askGet(k), three, nil, true)
	}
	for i, k := range []string{"b", "d", "f"} {
		wantRun(t, three, askGet(k), three, three[i:i+1], true)
	}
}

func TestP13ScansTellTheFirstOrTheLast(t *testing.T) {
	l := []impl.Pair{pair("b", "2"), pair("d", "4"), pair("f", "6"), pair("h", "8")}
	back := slices.Clone(l)
	slices.Reverse(back)
	for most := 1; most < 9; most++ {
		told := min(most, 4)
		wantRun(t, l, askScan("", "", most, false), l, l[:told], true)
		wantRun(t, l, askScan("", "", most, true), l, back[:told], true)
		told = min(most, 2)
		wantRun(t, l, askScan("d", "h", most, false), l, l[1:1+told], true)
		wantRun(t, l, askScan("d", "h", most, true), l, back[1:1+told], true)
		for _, none := range []impl.Range{{Lo: "i"}, {Lo: "h\x00"}, {Hi: "b"}, {Lo: "a", Hi: "b"}, {Lo: "d\x00", Hi: "f"}, {Lo: "e", Hi: "e\x00"}} {
			wantRun(t, l, askScan(none.Lo, none.Hi, most, most%2 == 0), l, nil, true)
		}
	}
	wantRun(t, l, askScan("c", "g", 8, false), l, l[1:3], true)
	wantRun(t, l, askScan("d", "d\x00", 8, true), l, l[1:2], true)
	wantRun(t, l, askScan("f", "", 1, false), l, l[2:3], true)
	wantRun(t, l, askScan("f", "", 1, true), l, l[3:], true)
	wantRun(t, l, askScan("", "f", 1, true), l, l[1:2], true)
	many := manyPairs(1000)
	wantRun(t, many, askScan("k1000500", "", 8, false), many, many[500:508], true)
	wantRun(t, many, askScan("", "k1000500", 1, true), many, many[499:500], true)
}

func TestP13EachAskOnEachData(t *testing.T) {
	for _, l := range someData() {
		for i, a := range rightAsks() {
			if len(l) < 200 || i%9 == 0 {
				checkRun(t, l, a)
			}
		}
		for i := 0; i < len(l); i += 1 + len(l)/20 {
			for _, a := range []impl.Ask{askGet(l[i].Key), askDel(l[i].Key), askPut(l[i].Key, "new"), askScan(l[i].Key, "", 8, false), askScan("", l[i].Key, 8, true)} {
				checkRun(t, l, a)
			}
		}
	}
}

// Data grows and shrinks by asks of all kinds.
func TestP13ThrownAsksAreAMap(t *testing.T) {
	throw := dice(1301)
	longest, told := 0, 0
	for range 12 {
		var l []impl.Pair
		for range 300 {
			a := thrownAsk(&throw)
			if throw.below(2) == 0 {
				a = askPut(thrownText(&throw, 3), thrownText(&throw, 3))
			}
			l = checkRun(t, l, a)
			wantBool(t, "DataOk behind an ask", impl.DataOk(l), true)
			longest, told = max(longest, len(l)), told+len(readOf(l, a))
		}
	}
	if longest < 80 || told < 1500 {
		t.Errorf("at most %d pairs, %d told", longest, told)
	}
}

// tellAll are the replies of asks that are done on data, and the data behind them.
func tellAll(l []impl.Pair, x impl.Tx, asks ...impl.Ask) ([]impl.Reply, []impl.Pair) {
	var log []impl.Reply
	for _, a := range asks {
		behind, told, _ := ran(l, a)
		log, l = append(log, replyAsk(x, a, 0, told...)), behind
	}
	return log, l
}

// thrownWord is an ask of one of few keys.
func thrownWord(d *dice) impl.Ask {
	k := "abcdef"[d.below(6):][:1]
	return []impl.Ask{askPut(k, strconv.Itoa(d.below(50))), askPut(k, ""), askDel(k), askGet(k), askScan(k, "", 1+d.below(8), false), askScan("", k+"\x00", 1+d.below(8), true)}[d.below(6)]
}

// thrownNoise is a reply that tells nothing that is done.
func thrownNoise(d *dice) impl.Reply {
	r := impl.Reply{Kind: 1 + d.below(4), Tx: dx(1 + d.below(6)), Ask: thrownWord(d), Code: d.below(10), Pairs: thrownUserPairs(d, d.below(3))}
	if r.Kind == 2 && r.Code == 0 {
		r.Code = 1
	}
	return r
}

// thrownLog is what transactions tell that run one after the other, their replies
// among one another and others, and the order.
func thrownLog(d *dice) ([]impl.Reply, []impl.Tx) {
	var data []impl.Pair
	var order []impl.Tx
	var parts [][]impl.Reply
	for i := range 1 + d.below(5) {
		x := dx(1 + i)
		asks := make([]impl.Ask, d.below(6))
		for j := range asks {
			asks[j] = thrownWord(d)
		}
		part, behind := tellAll(data, x, asks...)
		order, parts, data = append(order, x), append(parts, part), behind
	}
	var log []impl.Reply
	for {
		parts = slices.DeleteFunc(parts, func(l []impl.Reply) bool { return len(l) == 0 })
		if len(parts) == 0 {
			return log, order
		}
		at := d.below(len(parts))
		log, parts[at] = append(log, parts[at][0]), parts[at][1:]
		if d.below(3) == 0 {
			log = append(log, thrownNoise(d))
		}
	}
}

// An order in two parts, wherever it is cut, is the order: what the first part
// leaves is what the second begins with.
func TestP13AnOrderInTwoPartsIsTheOrder(t *testing.T) {
	throw := dice(1302)
	said := map[bool]int{}
	for round := range 400 {
		log, order := thrownLog(&throw)
		if round%2 == 0 {
			i, j := throw.below(len(order)), throw.below(len(order))
			order[i], order[j] = order[j], order[i]
		}
		whole, ok := checkSerial(t, log, order)
		for cut := range len(order) + 1 {
			l, right := impl.Serial(log, order[:cut])
			wantBool(t, "the first part of a true order", ok && !right, false)
			for _, x := range order[cut:] {
				if right {
					l, right = impl.RunTx(l, log, x)
				}
			}
			wantBool(t, "an order in two parts", right, ok)
			if right {
				wantPairs(t, "an order in two parts", l, whole)
			}
		}
		said[ok]++
	}
	if said[true] < 220 || said[false] < 35 {
		t.Errorf("only %v", said)
	}
}

// So is a log whose first part has all of one transaction that the second has not.
func TestP13ALogInTwoParts(t *testing.T) {
	throw := dice(1303)
	for range 200 {
		log, order := thrownLog(&throw)
		l := manyPairs(throw.below(4))
		for _, x := range order {
			whole, same := checkTx(t, l, log, x)
			for cut := range len(log) + 1 {
				half, first := impl.RunTx(l, log[:cut], x)
				rest, second := impl.RunTx(half, log[cut:], x)
				wantPairs(t, "a log in two parts", rest, whole)
				wantBool(t, "a log in two parts", first && second, same)
				if impl.Asked(log[:cut], x)+impl.Asked(log[cut:], x) != impl.Asked(log, x) {
					t.Errorf("Asked of a log in two parts isn't that of the log")
				}
			}
		}
	}
}

// The replies of two transactions among one another: each runs as if it were
// alone.
func TestP13RepliesAmongThoseOfOthers(t *testing.T) {
	x, y := dx(1), dx(2)
	a, b := pair("a", "1"), pair("b", "2")
	log := []impl.Reply{
		replyOf(x, 1, 0), replyOf(y, 1, 0),
		replyAsk(x, askPut("a", "1"), 0),
		replyAsk(y, askScan("", "", 8, false), 0, a),
		replyAsk(x, askPut("c", "3"), 5),
		replyAsk(x, askGet("a"), 0, a),
		replyAsk(y, askPut("b", "2"), 0),
		replyOf(x, 3, 0),
		replyAsk(y, askScan("", "", 8, true), 0, b, a),
		replyOf(y, 3, 0),
	}
	wantTx(t, nil, log, x, []impl.Pair{a}, true)
	wantTx(t, nil, log, y, []impl.Pair{b}, false)
	wantTx(t, []impl.Pair{a}, log, y, []impl.Pair{a, b}, true)
	wantTx(t, []impl.Pair{b}, log, x, []impl.Pair{a, b}, true)
	wantSerial(t, log, []impl.Tx{x, y}, []impl.Pair{a, b}, true)
	wantSerial(t, log, []impl.Tx{y, x}, nil, false)
	wantSerial(t, log, []impl.Tx{x}, []impl.Pair{a}, true)
	wantSerial(t, log, []impl.Tx{y}, nil, false)
	for _, other := range []impl.Tx{x, y} {
		wantOutcome(t, log, other, 1)
		wantTimes(t, log, other, 2*bit(other == x)+3*bit(other == y))
	}
}

// checkOneOrder asks a net that was played what clients are promised of it.
func checkOneOrder(t *testing.T, n impl.Net) []impl.Pair {
	t.Helper()
	data, ok := checkSerial(t, n.Log, n.Order)
	wantBool(t, "the log is told one after the other", ok, true)
	for _, x := range n.Order {
		if impl.Outcome(n.Log, x) == 2 {
			t.Errorf("%v is in the order, and undone: %s", x, repliesText(n.Log))
		}
	}
	for _, r := range n.Log {
		wantOutcome(t, n.Log, r.Tx, outcomeOf(n.Log, r.Tx))
		wantTimes(t, n.Log, r.Tx, timesAsked(n.Log, r.Tx))
		if r.Kind == 3 && r.Code == 0 && !slices.Contains(n.Order, r.Tx) && impl.Asked(n.Log, r.Tx) != 0 {
			t.Errorf("%v was told committed, and isn't in the order: %s", r.Tx, netText(n))
		}
	}
	return data
}

// thrownHurry is a step that brings transactions to their ends more often than a
// thrown one does, so that a play has many of them.
func thrownHurry(d *dice, n impl.Net) impl.Step {
	roll := d.below(100)
	desk := d.below(len(n.Desks))
	c := n.Desks[desk].Coord
	vote := slices.IndexFunc(n.Letters, func(x impl.Letter) bool {
		m, ok := msgIn(x.Bytes)
		return ok && m.Kind == 4
	})
	switch {
	case vote >= 0 && roll%5 == 0:
		return toTear(vote, 3+d.below(7), thrownKeep(d, 1)...)
	case roll < 50 && n.Desks[desk].Up && c.Phase == 0:
		return toCall(desk, toBegin())
	case roll < 50 && n.Desks[desk].Up && c.Phase == 1 && (impl.Asked(n.Log, c.Tx) == 0 || roll < 25):
		return toCall(desk, toAsk(thrownWord(d)))
	case roll < 50 && n.Desks[desk].Up && c.Phase == 1:
		return toCall(desk, toCommit())
	case roll < 76 && len(n.Letters) > 0:
		return thrownKind(d, n, 2)
	case roll < 92:
		return toCalm(1)
	}
	return thrownKind(d, n, []int{1, 3, 4, 5, 6, 7, 7, 7}[roll-92])
}

func TestP1ThrownPlaysSeeOneOrder(t *testing.T) {
	ways := map[string]int{}
	look := func(n impl.Net) {
		data := checkOneOrder(t, n)
		calm := impl.Do(n, toCalm(30))
		if !t.Failed() && impl.Settled(calm) {
			wantPairs(t, "the data of a play that rests", impl.AllData(calm), checkOneOrder(t, calm))
			ways["rests"]++
		}
		ways["pairs"] += len(data)
		for _, x := range n.Order {
			ways["decided, outcome "+strconv.Itoa(impl.Outcome(n.Log, x))]++
		}
		for _, r := range n.Log {
			ways["committed without asks"] += bit(r.Kind == 3 && r.Code == 0 && impl.Asked(n.Log, r.Tx) == 0)
			ways["outcome "+strconv.Itoa(impl.Outcome(n.Log, r.Tx))]++
		}
		for i := 1; i < len(n.Order); i++ {
			other := slices.Clone(n.Order)
			other[i-1], other[i] = other[i], other[i-1]
			_, ok := checkSerial(t, n.Log, other)
			ways["another order "+strconv.FormatBool(ok)]++
		}
	}
	throw := dice(1304)
	for range 12 {
		for _, n := range someNets(t, 80) {
			for range 60 {
				n = impl.Do(n, thrownHurry(&throw, n))
			}
			if len(n.Log) < 300 {
				look(n)
			}
		}
	}
	netLives(t, 1305, 6, 80, func(before impl.Net, x impl.Step, after impl.Net) {
		if x.Kind < 0 && len(after.Log) < 300 {
			look(after)
		}
	})
	for way, least := range map[string]int{"rests": 150, "pairs": 150, "decided, outcome 1": 200, "decided, outcome 0": 5, "committed without asks": 100, "outcome 0": 200, "outcome 1": 500, "outcome 2": 200, "another order true": 100, "another order false": 20} {
		if ways[way] < least {
			t.Errorf("only %d of %s: %v", ways[way], way, ways)
		}
	}
}

// Who waits for a lock reads what the one ahead wrote: the order is that one, and
// no other.
func TestP1TwoDesksThatClash(t *testing.T) {
	p := newPlay(t, []string{"g"}, 2)
	x, y := nx(0, 1), nx(1, 1)
	for _, step := range []impl.Step{toCall(0, toBegin()), toCall(1, toBegin()), toCall(0, toAsk(askPut("k", "1"))), toCall(1, toAsk(askGet("k")))} {
		p.n = checkDo(t, "a play", p.n, step)
	}
	for range 3 {
		p.n = checkDo(t, "a play", p.n, toDeliver(0))
	}
	wantTimes(t, p.n.Log, x, 1)
	wantTimes(t, p.n.Log, y, 0)
	p.n = impl.Play(p.n, []impl.Step{toCall(0, toCommit()), toCalm(1), toCall(1, toAsk(askDel("k"))), toCalm(1), toCall(1, toCommit()), toCalm(1)})
	p.wantOrder(x, y)
	wantSerial(t, p.n.Log, []impl.Tx{x}, []impl.Pair{pair("k", "1")}, true)
	wantSerial(t, p.n.Log, []impl.Tx{x, y}, nil, true)
	wantSerial(t, p.n.Log, []impl.Tx{y, x}, nil, false)
	wantSerial(t, p.n.Log, []impl.Tx{y}, nil, false)
	wantOutcome(t, p.n.Log, x, 1)
	wantOutcome(t, p.n.Log, y, 1)
	wantTimes(t, p.n.Log, y, 2)
	checkOneOrder(t, p.n)
}

// A crash within the decision: where it came to the disk it stands in the order,
// though nobody was told.
func TestP1ATornDecision(t *testing.T) {
	p := newPlay(t, nil, 1)
	x, nothing := nx(0, 1), nx(0, 2)
	p.n = impl.Play(p.n, []impl.Step{toCall(0, toBegin()), toCall(0, toAsk(askPut("a", "1"))), toCalm(1), toCall(0, toCommit()), toDeliver(0)})
	for done, order := range map[int][]impl.Tx{0: nil, 1: nil, 9: {x}} {
		n := impl.Play(p.n, []impl.Step{toTear(0, done), toCalm(9)})
		wantBool(t, "the order", slices.Equal(n.Order, order), true)
		wantOutcome(t, n.Log, x, 0)
		wantTimes(t, n.Log, x, 1)
		wantPairs(t, "what is left", impl.AllData(n), checkOneOrder(t, n))
		wantSerial(t, n.Log, []impl.Tx{x}, []impl.Pair{pair("a", "1")}, true)
	}
	n := impl.Play(p.n, []impl.Step{toCall(0, toAbort()), toCall(0, toBegin()), toCall(0, toCommit())})
	wantOutcome(t, n.Log, x, 2)
	wantOutcome(t, n.Log, nothing, 1)
	wantTimes(t, n.Log, nothing, 0)
	wantBool(t, "no order", len(n.Order) == 0, true)
	checkOneOrder(t, n)
}

func TestP15DataOk(t *testing.T) {
	for _, l := range someData() {
		wantBool(t, "the model of DataOk", rightData(l), true)
		wantBool(t, "DataOk of "+strconv.Itoa(len(l))+" pairs", impl.DataOk(l), true)
	}
	for what, l := range wrongData() {
		wantBool(t, "the model of DataOk: "+what, rightData(l), false)
		wantBool(t, "DataOk: "+what, impl.DataOk(l), false)
	}
	for size := range 25 {
		k, v := strings.Repeat("k", size), strings.Repeat("v", size)
		wantBool(t, "a key of "+strconv.Itoa(size), impl.DataOk([]impl.Pair{pair(k, "")}), size > 0 && size < 9)
		wantBool(t, "a value of "+strconv.Itoa(size), impl.DataOk([]impl.Pair{pair("a", v)}), size < 21)
	}
	throw := dice(1306)
	right := 0
	for range 3000 {
		l := thrownUserPairs(&throw, throw.below(4))
		if throw.below(8) == 0 && len(l) > 0 {
			l[0].Key = thrownText(&throw, 10)
		}
		wantBool(t, "DataOk "+allText(false, l), impl.DataOk(l), rightData(l))
		right += bit(rightData(l) && len(l) > 1)
	}
	if right < 200 {
		t.Errorf("only %d were right", right)
	}
}

func TestP15RunAskOfWrongArguments(t *testing.T) {
	asks := []impl.Ask{askGet("a"), askPut("a", "5"), askDel("a"), askDel("b"), askScan("", "", 8, false), askScan("a", "c", 1, true)}
	for _, l := range wrongData() {
		for _, a := range asks {
			wantRun(t, l, a, nil, nil, false)
		}
		wantRun(t, l, impl.Ask{}, nil, nil, false)
	}
	for _, l := range [][]impl.Pair{nil, {pair("a", "1")}, manyPairs(3)} {
		for _, a := range wrongAsks() {
			wantRun(t, l, a, nil, nil, false)
		}
		for _, a := range asks {
			_, _, ok := impl.RunAsk(l, a)
			wantBool(t, "a right ask", ok, true)
		}
	}
}

// otherNames are names that differ in one thing, also in more than 32 bits, and
// such as no transaction has.
func otherNames(x impl.Tx) []impl.Tx {
	l := []impl.Tx{{}, {C: x.E, E: x.C, N: x.N}, {C: x.C, E: x.N, N: x.E}}
	for _, more := range []int{1, -1, 256, 1 << 32, -1 << 63} {
		l = append(l, impl.Tx{C: x.C + more, E: x.E, N: x.N}, impl.Tx{C: x.C, E: x.E + more, N: x.N}, impl.Tx{C: x.C, E: x.E, N: x.N + more})
	}
	return l
}

// otherCodes are all but 0.
func otherCodes() []int {
	return append(far(), 1, 2, 3, 4, 5, 6, 7, 8, 9, 10, 256, 1<<32)
}

// What isn't a reply of an ask of the transaction with Code 0 isn't run, right or
// not.
func TestP15OtherRepliesAreNotRun(t *testing.T) {
	x := nameOf(8)
	l := []impl.Pair{pair("a", "1")}
	asks := append([]impl.Ask{askPut("b", "2"), askDel("a"), askGet("a")}, wrongAsks()[:30]...)
	for i, a := range asks {
		var others []impl.Reply
		for _, y := range otherNames(x) {
			others = append(others, replyAsk(y, a, 0, pair("z", "")))
		}
		for _, code := range otherCodes() {
			others = append(others, replyAsk(x, a, code, pair("z", "")))
		}
		for _, kind := range append(far(), 0, 1, 3, 4, 5, 258) {
			others = append(others, impl.Reply{Kind: kind, Tx: x, Ask: a, Pairs: []impl.Pair{pair("z", "")}})
		}
		wantTx(t, l, others, x, l, true)
		wantTimes(t, others, x, 0)
		wantSerial(t, others, []impl.Tx{x, x}, nil, true)
		half := len(others) / 2
		log := slices.Concat(others[:half], []impl.Reply{replyAsk(x, askPut("c", "3"), 0)}, others[half:])
		wantTx(t, l, log, x, []impl.Pair{l[0], pair("c", "3")}, true)
		wantTimes(t, log, x, 1)
		if i < 3 {
			for _, y := range otherNames(x)[1:] {
				_, same := checkTx(t, l, others, y)
				wantBool(t, "another's reply with what it wasn't told", same, false)
			}
		}
	}
	wantTx(t, l, nil, x, l, true)
	wantTx(t, nil, nil, x, nil, true)
	wantTx(t, nil, []impl.Reply{replyOf(x, 1, 0), replyOf(x, 3, 0)}, x, nil, true)
	wantTx(t, nil, []impl.Reply{replyAsk(impl.Tx{}, askPut("a", "1"), 0)}, impl.Tx{}, l, true)
}

func TestP15RunTxOfWrongArguments(t *testing.T) {
	x := dx(1)
	right := replyAsk(x, askPut("a", "5"), 0)
	for _, l := range wrongData() {
		wantTx(t, l, nil, x, nil, false)
		wantTx(t, l, []impl.Reply{right}, x, nil, false)
		wantTx(t, l, []impl.Reply{replyAsk(dx(2), askGet("a"), 0)}, x, nil, false)
	}
	other := replyAsk(x, askGet("b"), 0, pair("b", "that isn't there"))
	for _, a := range wrongAsks() {
		wrong := replyAsk(x, a, 0)
		for _, log := range [][]impl.Reply{{wrong}, {right, wrong}, {wrong, right}, {right, wrong, right}, {other, wrong}, {right, other, right, wrong}, {wrong, other}} {
			wantTx(t, nil, log, x, nil, false)
			wantTx(t, manyPairs(3), log, x, nil, false)
			wantSerial(t, log, []impl.Tx{x}, nil, false)
		}
		wantTx(t, nil, []impl.Reply{right, replyAsk(dx(2), a, 0)}, x, []impl.Pair{pair("a", "5")}, true)
		wantSerial(t, []impl.Reply{right, replyAsk(dx(2), a, 0)}, []impl.Tx{x}, []impl.Pair{pair("a", "5")}, true)
		wantSerial(t, []impl.Reply{right, replyAsk(dx(2), a, 0)}, []impl.Tx{x, dx(2)}, nil, false)
	}
}

// Where one was told another thing, the data is still that behind all asks.
func TestP15RunTxOfWhatWasNotTold(t *testing.T) {
	x := dx(1)
	a, b, c := pair("a", "1"), pair("b", "2"), pair("c", "3")
	l := []impl.Pair{a, b}
	both := askScan("", "", 2, false)
	for what, others := range map[string][]impl.Pair{
		"none": nil, "one too few": {a}, "the other one": {b}, "turned": {b, a}, "one too many": {a, b, c}, "one twice": {a, a, b}, "another value": {a, pair("b", "3")}, "another key": {pair("", "1"), b}, "far too many": manyPairs(400),
	} {
		for at := range 3 {
			log := []impl.Reply{replyAsk(x, both, 0, a, b), replyAsk(x, both, 0, a, b), replyAsk(x, both, 0, a, b), replyAsk(x, askPut("c", "3"), 0), replyAsk(x, askDel("a"), 0)}
			wantTx(t, l, log, x, []impl.Pair{b, c}, true)
			log[at].Pairs = others
			wantTx(t, l, log, x, []impl.Pair{b, c}, false)
			wantSerial(t, append([]impl.Reply{replyAsk(dx(2), askPut("a", "1"), 0), replyAsk(dx(2), askPut("b", "2"), 0)}, log...), []impl.Tx{dx(2), x}, nil, false)
			wantBool(t, what, len(l) == 2, true)
		}
	}
	for _, a := range []impl.Ask{askPut("a", "1"), askDel("z")} {
		wantTx(t, l, []impl.Reply{replyAsk(x, a, 0, pair("a", "1")), replyAsk(x, askDel("b"), 0)}, x, l[:1], false)
	}
	log := []impl.Reply{replyAsk(x, askGet("a"), 0, b), replyAsk(x, askPut("c", "3"), 0), replyAsk(x, askGet("c"), 0, c)}
	wantTx(t, l, log, x, []impl.Pair{a, b, c}, false)
	empty := impl.Reply{Kind: 2, Tx: x, Ask: askGet("c"), Pairs: []impl.Pair{}}
	wantTx(t, l, []impl.Reply{empty, empty}, x, l, true)
}

// Each ask reads what those ahead of it wrote, and data and logs are of whatever
// length.
func TestP15RunTxOfManyAsks(t *testing.T) {
	x := dx(1)
	many := manyPairs(700)
	var asks []impl.Ask
	for i := range 400 {
		k := strconv.Itoa(1000 + i)
		asks = append(asks, askPut(k, "1"), askGet(k), askScan("", "", 1, true), askScan("1", "k", 8, i%2 == 0))
		if i%3 == 0 {
			asks = append(asks, askDel(k), askGet(k))
		}
	}
	log, want := tellAll(many, x, asks...)
	wantTx(t, many, log, x, want, true)
	wantTimes(t, log, x, len(asks))
	log[len(log)-1].Pairs = many[:1]
	wantTx(t, many, log, x, want, false)
	log, want = tellAll(nil, x, asks...)
	wantSerial(t, log, []impl.Tx{dx(9), x, dx(8)}, want, true)
	wantBool(t, "there are many", len(want) > 200 && len(log) > 1000, true)
}

func TestP15Serial(t *testing.T) {
	x, y, z := dx(1), dx(2), dx(3)
	a, b := pair("a", "1"), pair("b", "2")
	log := []impl.Reply{
		replyAsk(x, askPut("a", "1"), 0),
		replyAsk(y, askGet("a"), 0, a), replyAsk(y, askPut("b", "2"), 0),
		replyAsk(z, askScan("", "", 8, false), 0, a, b), replyAsk(z, askDel("a"), 0),
	}
	wantSerial(t, nil, nil, nil, true)
	wantSerial(t, log, nil, nil, true)
	wantSerial(t, log, []impl.Tx{}, nil, true)
	wantSerial(t, nil, []impl.Tx{x, {}, x}, nil, true)
	wantSerial(t, log, []impl.Tx{x, y, z}, []impl.Pair{b}, true)
	wantSerial(t, log, []impl.Tx{x, x, y, y, z}, []impl.Pair{b}, true)
	wantSerial(t, log, []impl.Tx{x, y, z, z}, nil, false)
	wantSerial(t, log, []impl.Tx{x, y, z, x}, []impl.Pair{a, b}, true)
	wantSerial(t, log, []impl.Tx{x, y, z, y}, nil, false)
	wantSerial(t, log, []impl.Tx{x, dx(7), y}, []impl.Pair{a, b}, true)
	for what, order := range map[string][]impl.Tx{"the first": {y, x, x}, "the only one": {z}, "one in the midst": {x, z, x}, "the last": {x, y, z, x, y, z, z}, "all": {z, z, z}} {
		want, ok := ranAll(log, order)
		wantBool(t, what+" says false", ok || len(want) > 0, false)
		wantSerial(t, log, order, nil, false)
	}
	// One that says false also ends what a later one would mend or spoil.
	wantSerial(t, append(slices.Clone(log), replyAsk(dx(4), impl.Ask{}, 0)), []impl.Tx{z, x, dx(4)}, nil, false)
	wantSerial(t, append(slices.Clone(log), replyAsk(dx(4), impl.Ask{}, 0)), []impl.Tx{x, y, z, dx(4)}, nil, false)
	// What one does in vain is told also where all was undone by the next.
	wantSerial(t, []impl.Reply{replyAsk(x, askPut("a", "1"), 0), replyAsk(y, askDel("a"), 0)}, []impl.Tx{x, y}, nil, true)
}

func TestP15ThrownLogs(t *testing.T) {
	throw := dice(1307)
	ways := map[string]int{}
	for range 1500 {
		log, order := thrownLog(&throw)
		at := throw.below(len(log) + 1)
		what := "as it is"
		switch roll := throw.below(5); {
		case at == len(log):
		case roll == 0:
			what, log[at].Ask = "another ask", thrownWord(&throw)
		case roll == 1:
			what, log[at].Pairs = "other pairs", thrownUserPairs(&throw, throw.below(3))
		case roll == 2:
			wrong := wrongAsks()
			what, log[at].Ask = "a wrong ask", wrong[throw.below(len(wrong))]
		case roll == 3:
			what, log = "one reply less", slices.Delete(log, at, at+1)
		}
		if throw.below(4) == 0 {
			what, order = what+", one twice", append(order, order[throw.below(len(order))])
		}
		_, ok := checkSerial(t, log, order)
		ways[what+" "+strconv.FormatBool(ok)]++
		for n := range 8 {
			_, same := checkTx(t, manyPairs(throw.below(3)), log, dx(n))
			ways["alone "+strconv.FormatBool(same)]++
			wantOutcome(t, log, dx(n), outcomeOf(log, dx(n)))
			ways["outcome "+strconv.Itoa(outcomeOf(log, dx(n)))]++
			wantTimes(t, log, dx(n), timesAsked(log, dx(n)))
		}
	}
	for way, least := range map[string]int{"as it is true": 200, "another ask false": 20, "other pairs false": 20, "a wrong ask false": 50, "one reply less false": 10, "as it is, one twice false": 10, "as it is, one twice true": 10, "alone true": 2000, "alone false": 500, "outcome 0": 500, "outcome 1": 50, "outcome 2": 500} {
		if ways[way] < least {
			t.Errorf("only %d of %s: %v", ways[way], way, ways)
		}
	}
}

// someOutcomes: what one reply of a kind and a code alone makes of the outcome.
func TestP15OutcomeOfOneReply(t *testing.T) {
	x := nameOf(8)
	for _, kind := range append(far(), 0, 1, 2, 3, 4, 5, 258, 259, 260) {
		for _, code := range append(otherCodes(), 0) {
			want := 0
			switch {
			case kind == 3 && code == 0:
				want = 1
			case kind == 4 && code == 0, kind == 2 && code >= 2, kind == 3 && code >= 2:
				want = 2
			}
			log := []impl.Reply{replyOf(x, kind, code)}
			wantOutcome(t, log, x, want)
			wantTimes(t, log, x, bit(kind == 2 && code == 0))
			for _, y := range otherNames(x) {
				wantOutcome(t, log, y, 0)
				wantTimes(t, log, y, 0)
			}
		}
	}
	wantOutcome(t, nil, x, 0)
	wantOutcome(t, nil, impl.Tx{}, 0)
}

func TestP15Outcome(t *testing.T) {
	x := dx(1)
	committed := replyOf(x, 3, 0)
	undone := []impl.Reply{replyOf(x, 4, 0), replyOf(x, 2, 2), replyAsk(x, askPut("a", "1"), 8), replyOf(x, 3, 2), replyOf(x, 3, 7), replyOf(x, 3, 9)}
	neither := []impl.Reply{replyOf(x, 1, 0), replyOf(x, 1, 9), replyOf(x, 2, 0), replyOf(x, 2, 1), replyOf(x, 3, 1), replyOf(x, 3, -1), replyOf(x, 4, 1), replyOf(x, 4, 2), replyOf(x, 4, 9), replyOf(x, 2, -2), replyOf(dx(2), 3, 0), replyOf(dx(2), 4, 0)}
	wantOutcome(t, neither, x, 0)
	for _, r := range undone {
		wantOutcome(t, []impl.Reply{r, committed}, x, 1)
		wantOutcome(t, []impl.Reply{committed, r}, x, 1)
		wantOutcome(t, []impl.Reply{r, committed, r}, x, 1)
		wantOutcome(t, slices.Concat(neither, []impl.Reply{r}, neither), x, 2)
		wantOutcome(t, slices.Concat(neither, []impl.Reply{r}, neither, []impl.Reply{committed}, neither), x, 1)
		wantOutcome(t, []impl.Reply{r, replyOf(dx(2), 3, 0)}, x, 2)
	}
	for _, r := range neither {
		wantOutcome(t, []impl.Reply{r, committed}, x, 1)
		wantOutcome(t, []impl.Reply{committed, r}, x, 1)
	}
	wantOutcome(t, []impl.Reply{committed, undone[0]}, impl.Tx{}, 0)
	wantOutcome(t, []impl.Reply{replyOf(impl.Tx{}, 3, 0)}, impl.Tx{}, 1)
	wantOutcome(t, []impl.Reply{replyOf(impl.Tx{}, 4, 1), replyOf(impl.Tx{}, 3, 1)}, impl.Tx{}, 0)
}

func TestP15Asked(t *testing.T) {
	x := dx(1)
	for n := range 12 {
		log := slices.Repeat([]impl.Reply{replyOf(x, 1, 0), replyAsk(x, askGet("a"), 0), replyAsk(x, askGet("a"), 1), replyAsk(dx(2), askGet("a"), 0), replyOf(x, 3, 0), replyOf(x, 4, 0)}, n)
		wantTimes(t, log, x, n)
		wantTimes(t, log, dx(2), n)
		wantTimes(t, log, dx(3), 0)
		wantTimes(t, log, impl.Tx{}, 0)
	}
	wantTimes(t, nil, x, 0)
	wantTimes(t, slices.Repeat([]impl.Reply{replyAsk(x, impl.Ask{Kind: 9}, 0, manyPairs(9)...)}, 700), x, 700)
}

// serialGiven is what the functions are given, each list with room behind it.
type serialGiven struct {
	Data  []impl.Pair
	Log   []impl.Reply
	Order []impl.Tx
	Asks  []impl.Ask
}

func serialWithRoom(l []impl.Pair, log []impl.Reply, order []impl.Tx, asks []impl.Ask) serialGiven {
	log = slices.Clone(log)
	for i, r := range log {
		log[i].Pairs = marked(r.Pairs, pair("mark", ""))
	}
	return serialGiven{marked(l, pair("mark", "")), marked(log, impl.Reply{Kind: -7}), marked(order, dx(7)), marked(asks, impl.Ask{Kind: -7})}
}

func serialAnswers(g serialGiven) map[string][]any {
	data, _ := impl.Serial(g.Log, g.Order)
	all := map[string][]any{"Serial": {data}}
	for i, a := range g.Asks {
		behind, told, _ := impl.RunAsk(g.Data, a)
		all["RunAsk "+strconv.Itoa(i)] = []any{behind, told}
	}
	for i, x := range g.Order {
		behind, _ := impl.RunTx(g.Data, g.Log, x)
		all["RunTx "+strconv.Itoa(i)] = []any{behind}
		impl.Outcome(g.Log, x)
		impl.Asked(g.Log, x)
	}
	impl.DataOk(g.Data)
	return all
}

func checkSerialMemory(t *testing.T, what string, g serialGiven) {
	t.Helper()
	told := askTwice(t, what, func() map[string][]any { return serialAnswers(g) }, g)
	wantApart(t, what, told, g)
}

// memoryAsks are of each kind, on what is there and what isn't.
func memoryAsks(l []impl.Pair) []impl.Ask {
	asks := []impl.Ask{askGet("zz"), askDel("zz"), askPut("zz", ""), askPut("\x00", ""), askScan("", "", 8, false), askScan("", "", 8, true), askScan("zz", "", 3, true), {}}
	for _, p := range l[:min(len(l), 5)] {
		asks = append(asks, askGet(p.Key), askDel(p.Key), askPut(p.Key, "new"), askScan(p.Key, "", 1, false), askScan("", p.Key, 1, true))
	}
	return asks
}

func TestP15SerialIsNewMemory(t *testing.T) {
	throw := dice(1308)
	for i, l := range someData() {
		log, order := thrownLog(&throw)
		checkSerialMemory(t, "data "+strconv.Itoa(i), serialWithRoom(l, log, order, memoryAsks(l)))
	}
	for what, l := range wrongData() {
		checkSerialMemory(t, what, serialWithRoom(l, nil, []impl.Tx{dx(1)}, memoryAsks(l)))
	}
	for range 100 {
		log, order := thrownLog(&throw)
		l, _ := ranAll(log, order)
		checkSerialMemory(t, "a thrown log", serialWithRoom(l, log, append(order, dx(9)), memoryAsks(l)))
	}
	l := manyPairs(4)
	log := []impl.Reply{replyAsk(dx(1), askPut("b", "2"), 0), replyAsk(dx(1), wrongAsks()[0], 0), replyAsk(dx(2), askDel("k1000000"), 0, l...)}
	checkSerialMemory(t, "a wrong ask", serialWithRoom(l, log, []impl.Tx{dx(2), dx(1)}, wrongAsks()))
}

// What a log tells may be one memory, also with the data.
func TestP15SerialOfOneMemory(t *testing.T) {
	l := manyPairs(6)
	x := dx(1)
	log := []impl.Reply{replyAsk(x, askScan("", "", 6, false), 0), replyAsk(x, askScan("k1000002", "", 4, false), 0), replyAsk(x, askDel("k1000003"), 0), replyAsk(x, askPut("k1000004", ""), 0), replyAsk(x, askPut("a", "1"), 0)}
	log[0].Pairs, log[1].Pairs = l, l[2:]
	before := allText(true, l, log)
	got, same := impl.RunTx(l, log, x)
	want, _ := ranTx(slices.Clone(l), log, x)
	wantPairs(t, "RunTx of one memory", got, want)
	wantBool(t, "RunTx of one memory", same, true)
	wantBool(t, "it stays as it is", allText(true, l, log) == before, true)
	wantBool(t, "it shares none", sharesMemory(got, l), false)
	behind, told, _ := impl.RunAsk(l, askScan("", "", 8, false))
	wantBool(t, "the lists are apart", sharesMemory(behind, told, l), false)
}
