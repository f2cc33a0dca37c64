package tests

import (
	"math"
	"regexp"
	"slices"
	"strconv"
	"strings"
	"testing"

	"loop.example/g00392/impl"
)

// The coordinator of the tests, its epoch, and its shards: up to g, from g up to
// p, from p on.
const (
	deskId    = 2
	deskEpoch = 5
)

var deskSplits = []string{"g", "p"}

// dx names a transaction of the coordinator of the tests.
func dx(n int) impl.Tx { return impl.Tx{C: deskId, E: deskEpoch, N: n} }

// ofShard is a message to or from a shard.
func ofShard(shard int, m impl.Msg) impl.Msg {
	m.Shard = shard
	return m
}

func toBegin() impl.Call { return impl.Call{Kind: 1} }

func toAsk(a impl.Ask) impl.Call { return impl.Call{Kind: 2, Ask: a} }

func toCommit() impl.Call { return impl.Call{Kind: 3} }

func toAbort() impl.Call { return impl.Call{Kind: 4} }

func replyOf(x impl.Tx, kind, code int) impl.Reply { return impl.Reply{Kind: kind, Tx: x, Code: code} }

func replyAsk(x impl.Tx, a impl.Ask, code int, pairs ...impl.Pair) impl.Reply {
	return impl.Reply{Kind: 2, Tx: x, Ask: a, Code: code, Pairs: pairs}
}

func cloneMsgs(l []impl.Msg) []impl.Msg {
	l = slices.Clone(l)
	for i := range l {
		l[i].Pairs = slices.Clone(l[i].Pairs)
	}
	return l
}

func cloneCoord(c impl.Coord) impl.Coord {
	c.Splits, c.Store = slices.Clone(c.Splits), cloneStore(c.Store)
	c.Counts, c.Stamps, c.Pend = slices.Clone(c.Counts), slices.Clone(c.Stamps), slices.Clone(c.Pend)
	c.Got = cloneMsgs(c.Got)
	return c
}

func sameCoord(a, b impl.Coord) bool { return allText(false, a) == allText(false, b) }

func sameReplies(a, b []impl.Reply) bool { return allText(false, a) == allText(false, b) }

func pairsAt(c impl.Coord) []impl.Pair { return regrown(c.Store.Tree, 0).all() }

// coordText tells a coordinator but for its disk.
func coordText(c impl.Coord) string {
	text := "Id " + strconv.Itoa(c.Id) + ", Splits " + strings.Join(c.Splits, " ") + ", Epoch " + strconv.Itoa(c.Epoch) + ", Num " + strconv.Itoa(c.Num) + ", Phase " + strconv.Itoa(c.Phase) + ", Tx " + allText(false, c.Tx)
	text += " Counts " + intsText(c.Counts) + ", Stamps " + intsText(c.Stamps) + ", Pend " + intsText(c.Pend) + ", Ask " + allText(false, c.Ask) + ", Age " + strconv.Itoa(c.Age) + ", Gen " + strconv.Itoa(c.Store.Gen)
	for _, p := range pairsAt(c) {
		text += " " + p.Key + "=" + p.Val
	}
	return text + ", got " + msgsText(c.Got)
}

func repliesText(l []impl.Reply) string {
	text := strconv.Itoa(len(l)) + " replies"
	for _, r := range l {
		text += "\n\t" + allText(false, r)
	}
	return text
}

// epochIn is the epoch that a tree with these pairs tells, or 0.
func epochIn(pairs []impl.Pair) int {
	for _, p := range pairs {
		if p.Key == "e" && bootForm.MatchString(p.Val) {
			n, _ := strconv.Atoi(p.Val)
			return n
		}
	}
	return 0
}

var decisionForm = regexp.MustCompile(`^([^:]*):(0?1?2?3?)$`)

// decidedIn is what stands under 'c', for a coordinator with so many shards.
func decidedIn(pairs []impl.Pair, id, shards int) (impl.Tx, []int, bool) {
	for _, p := range pairs {
		words := decisionForm.FindStringSubmatch(p.Val)
		if p.Key != "c" || words == nil || words[2] == "" {
			continue
		}
		var l []int
		for _, digit := range words[2] {
			l = append(l, int(digit-'0'))
		}
		x, ok := nameIn(words[1])
		return x, l, ok && x.C == id && l[len(l)-1] < shards
	}
	return impl.Tx{}, nil, false
}

func rightDesk(id int, splits []string) bool {
	for i, k := range splits {
		if !isUser(k) || i > 0 && strings.Compare(splits[i-1], k) >= 0 {
			return false
		}
	}
	return slices.Contains(upFrom(0, 8), id) && len(splits) < 4
}

// inIt are the shards with a count.
func inIt(counts []int) []int {
	return slices.DeleteFunc(upFrom(0, len(counts)), func(i int) bool { return counts[i] == 0 })
}

// stampStands: whether the stamp of a shard is there, or isn't, as it must.
func stampStands(c impl.Coord, i int) bool {
	none := c.Counts[i] == 0 || c.Phase == 0 || c.Phase == 4 || c.Phase == 2 && c.Counts[i] == 1 && slices.Contains(c.Pend, i)
	return c.Stamps[i] >= 0 && c.Stamps[i] < 1<<40 && (c.Stamps[i] == 0) == none
}

func gotStands(c impl.Coord) bool {
	var seen []int
	for _, m := range c.Got {
		if c.Phase != 2 || !rightMsg(m) || m.Kind != 2 || m.Tx != c.Tx || m.Code > 0 || !slices.Contains(inIt(c.Counts), m.Shard) || slices.Contains(c.Pend, m.Shard) || slices.Contains(seen, m.Shard) {
			return false
		}
		seen = append(seen, m.Shard)
	}
	return true
}

// coordStands is what CoordOk must say.
func coordStands(c impl.Coord) bool {
	n := len(c.Splits) + 1
	if !rightDesk(c.Id, c.Splits) || !storeStands(c.Store) || c.Epoch == 0 || c.Epoch != epochIn(pairsAt(c)) || c.Num < 0 || c.Num > 999 {
		return false
	}
	if !slices.Contains(upFrom(0, 5), c.Phase) || len(c.Counts) != n || len(c.Stamps) != n || c.Age < 0 || c.Age > 7 || c.Age > 0 && c.Phase != 2 && c.Phase != 3 {
		return false
	}
	for i, count := range c.Counts {
		if !slices.Contains(upFrom(0, 17), count) || !stampStands(c, i) || c.Phase == 0 && count > 0 {
			return false
		}
	}
	rising := slices.DeleteFunc(upFrom(0, n), func(i int) bool { return c.Counts[i] == 0 || !slices.Contains(c.Pend, i) })
	if !slices.Equal(rising, c.Pend) || (len(c.Pend) > 0) != (c.Phase > 1) || c.Phase > 0 && (!rightName(c.Tx) || c.Tx.C != c.Id) {
		return false
	}
	if c.Phase == 2 && !rightAsk(c.Ask) || c.Phase != 2 && c.Ask != (impl.Ask{}) || !gotStands(c) {
		return false
	}
	x, shards, decided := decidedIn(pairsAt(c), c.Id, n)
	return decided == (c.Phase == 4) && (!decided || x == c.Tx && slices.Equal(shards, inIt(c.Counts)))
}

func rightCall(x impl.Call) bool {
	if x.Kind == 2 {
		return rightAsk(x.Ask)
	}
	return slices.Contains([]int{1, 3, 4}, x.Kind) && x.Ask == impl.Ask{}
}

// deskOf is what CoordOpen must answer.
func deskOf(id int, splits []string, d impl.Disk) (impl.Coord, int) {
	store, code := foundOn(d)
	if code != 0 {
		return impl.Coord{}, code
	}
	if !rightDesk(id, splits) {
		return impl.Coord{}, 4
	}
	pairs := regrown(store.Tree, 0).all()
	n := len(splits) + 1
	c := impl.Coord{Id: id, Splits: splits, Epoch: epochIn(pairs) + 1, Counts: make([]int, n), Stamps: make([]int, n)}
	next, ok := committedOf(store, []impl.Edit{puts("e", strconv.Itoa(c.Epoch))})
	if c.Epoch == 1000 || !ok {
		return impl.Coord{}, 5
	}
	c.Store = next
	if x, shards, ok := decidedIn(pairs, id, n); ok {
		c.Tx, c.Phase, c.Pend = x, 4, shards
		for _, i := range shards {
			c.Counts[i] = 1
		}
	}
	return c, 0
}

// deskModel is a coordinator of the tests' own: what it is, what it sent and
// replied, and what it committed.
type deskModel struct {
	impl.Coord
	out   []impl.Msg
	told  []impl.Reply
	batch []impl.Edit
}

func modelOf(c impl.Coord) *deskModel { return &deskModel{Coord: cloneCoord(c)} }

func (m *deskModel) say(kind int, a impl.Ask, code int, pairs ...impl.Pair) {
	m.told = append(m.told, impl.Reply{Kind: kind, Tx: m.Tx, Ask: a, Code: code, Pairs: pairs})
}

func (m *deskModel) idle() {
	n := len(m.Splits) + 1
	m.Coord = impl.Coord{Id: m.Id, Splits: m.Splits, Store: m.Store, Epoch: m.Epoch, Num: m.Num, Tx: m.Tx, Counts: make([]int, n), Stamps: make([]int, n)}
}

func (m *deskModel) over(kind int, a impl.Ask, code int) {
	for _, i := range inIt(m.Counts) {
		m.out = append(m.out, ofShard(i, ending(m.Tx, false)))
	}
	m.idle()
	m.say(kind, a, code)
}

// commonOf is what a shard and a range have in common.
func commonOf(splits []string, i int, r impl.Range) (impl.Range, bool) {
	bounds := slices.Concat([]string{""}, splits, []string{""})
	if bounds[i] > r.Lo {
		r.Lo = bounds[i]
	}
	if hi := bounds[i+1]; r.Hi == "" || hi != "" && hi < r.Hi {
		r.Hi = hi
	}
	return r, r.Hi == "" || r.Lo < r.Hi
}

// askedShards are those that an ask is for.
func askedShards(splits []string, a impl.Ask) []int {
	if a.Kind < 4 {
		a.Range = impl.Range{Lo: a.Key, Hi: a.Key + "\x00"}
	}
	var l []int
	for i := range len(splits) + 1 {
		if _, ok := commonOf(splits, i, a.Range); ok {
			l = append(l, i)
		}
	}
	return l
}

// again sends to all of Pend what belongs to the phase.
func (m *deskModel) again() {
	for _, i := range m.Pend {
		switch m.Phase {
		case 2:
			a := m.Ask
			if r, ok := commonOf(m.Splits, i, a.Range); ok && a.Kind == 4 {
				a.Range = r
			}
			m.out = append(m.out, ofShard(i, asking(m.Tx, m.Counts[i], a)))
		case 3:
			m.out = append(m.out, ofShard(i, readying(m.Tx, m.Counts[i], m.Stamps[i])))
		case 4:
			m.out = append(m.out, ofShard(i, ending(m.Tx, true)))
		}
	}
}

func (m *deskModel) begin() {
	switch {
	case m.Phase != 0:
		m.say(1, impl.Ask{}, 1)
	case m.Num == 999:
		m.say(1, impl.Ask{}, 9)
	default:
		m.Num, m.Phase = m.Num+1, 1
		m.Tx = impl.Tx{C: m.Id, E: m.Epoch, N: m.Num}
		m.say(1, impl.Ask{}, 0)
	}
}

func (m *deskModel) ask(a impl.Ask) {
	if m.Phase != 1 {
		m.say(2, a, 1)
		return
	}
	shards := askedShards(m.Splits, a)
	for _, i := range shards {
		if m.Counts[i] == 16 {
			m.over(2, a, 5)
			return
		}
	}
	for _, i := range shards {
		m.Counts[i]++
	}
	m.Phase, m.Ask, m.Pend = 2, a, shards
	m.again()
}

func (m *deskModel) commit() {
	switch {
	case m.Phase != 1:
		m.say(3, impl.Ask{}, 1)
	case len(inIt(m.Counts)) == 0:
		m.Phase = 0
		m.say(3, impl.Ask{}, 0)
	default:
		m.Phase, m.Pend = 3, inIt(m.Counts)
		m.again()
	}
}

// calledOf is what CoordCall must answer of a right coordinator.
func calledOf(c impl.Coord, x impl.Call) *deskModel {
	m := modelOf(c)
	switch {
	case !rightCall(x):
	case x.Kind == 1:
		m.begin()
	case x.Kind == 2:
		m.ask(x.Ask)
	case x.Kind == 3:
		m.commit()
	case c.Phase == 0 || c.Phase == 4:
		m.say(4, impl.Ask{}, 1)
	default:
		m.over(4, impl.Ask{}, 0)
	}
	return m
}

func (m *deskModel) leave(shard int) {
	at := slices.Index(m.Pend, shard)
	m.Pend = slices.Delete(m.Pend, at, at+1)
}

// mixed are the pairs that all shards told of an ask.
func mixed(got []impl.Msg, a impl.Ask) []impl.Pair {
	var l []impl.Pair
	for i := range 4 {
		if a.Back {
			i = 3 - i
		}
		for _, m := range got {
			if m.Shard == i {
				l = append(l, m.Pairs...)
			}
		}
	}
	if a.Kind == 4 && len(l) > a.Most {
		l = l[:a.Most]
	}
	return l
}

func (m *deskModel) tell(in impl.Msg) {
	stamp := m.Stamps[in.Shard]
	switch {
	case in.Code > 0:
		m.over(2, m.Ask, in.Code)
	case stamp > 0 && stamp != in.Stamp:
		m.over(2, m.Ask, 6)
	default:
		m.Stamps[in.Shard] = in.Stamp
		m.Got = append(m.Got, in)
		m.leave(in.Shard)
		if len(m.Pend) == 0 {
			m.say(2, m.Ask, 0, mixed(m.Got, m.Ask)...)
			m.Phase, m.Ask, m.Got, m.Age = 1, impl.Ask{}, nil, 0
		}
	}
}

func (m *deskModel) vote(in impl.Msg) {
	if !in.Yes {
		m.over(3, impl.Ask{}, 7)
		return
	}
	m.leave(in.Shard)
	if len(m.Pend) > 0 {
		return
	}
	val := dotted(m.Tx) + ":"
	for _, i := range inIt(m.Counts) {
		val += strconv.Itoa(i)
	}
	next, ok := committedOf(m.Store, []impl.Edit{puts("c", val)})
	if !ok {
		m.over(3, impl.Ask{}, 9)
		return
	}
	m.Store, m.batch = next, []impl.Edit{puts("c", val)}
	m.Phase, m.Pend, m.Stamps, m.Age = 4, inIt(m.Counts), make([]int, len(m.Stamps)), 0
	m.again()
	m.say(3, impl.Ask{}, 0)
}

func (m *deskModel) done(in impl.Msg) {
	if len(m.Pend) > 1 {
		m.leave(in.Shard)
		return
	}
	if next, ok := committedOf(m.Store, []impl.Edit{goes("c")}); ok {
		m.Store, m.batch = next, []impl.Edit{goes("c")}
		m.idle()
	}
}

// heardOf is what CoordTake must answer of a right coordinator, and what it
// commits.
func heardOf(c impl.Coord, in impl.Msg) *deskModel {
	m := modelOf(c)
	if !rightMsg(in) || in.Tx.C != c.Id || in.Shard > len(c.Splits) {
		return m
	}
	due := in.Tx == c.Tx && slices.Contains(c.Pend, in.Shard)
	switch {
	case in.Kind == 2 && c.Phase == 2 && due && in.Num == c.Counts[in.Shard]:
		m.tell(in)
	case in.Kind == 4 && c.Phase == 3 && due:
		m.vote(in)
	case in.Kind == 6 && c.Phase == 4 && due:
		m.done(in)
	case in.Kind == 7 && (in.Tx != c.Tx || c.Phase == 0 || c.Phase == 4):
		m.out = append(m.out, ofShard(in.Shard, ending(in.Tx, in.Tx == c.Tx && c.Phase == 4)))
	}
	return m
}

// agedOf is what CoordTick must answer of a right coordinator.
func agedOf(c impl.Coord) *deskModel {
	m := modelOf(c)
	if c.Phase == 2 || c.Phase == 3 {
		m.Age++
	}
	if m.Age == 8 {
		m.over(c.Phase, c.Ask, 8)
	}
	m.again()
	return m
}

func wantCoord(t *testing.T, what string, got impl.Coord, out []impl.Msg, told []impl.Reply, want *deskModel) {
	t.Helper()
	if !sameMsgs(out, want.out) {
		t.Errorf("%s: sends %s\nwant %s", what, msgsText(out), msgsText(want.out))
	}
	if !sameReplies(told, want.told) {
		t.Errorf("%s: replies %s\nwant %s", what, repliesText(told), repliesText(want.told))
	}
	if !sameCoord(got, want.Coord) {
		t.Errorf("%s: %s\nwant %s", what, coordText(got), coordText(want.Coord))
	}
}

// checkCall holds CoordCall of a right coordinator against the model.
func checkCall(t *testing.T, what string, c impl.Coord, x impl.Call) (impl.Coord, []impl.Msg, []impl.Reply) {
	t.Helper()
	got, out, told := impl.CoordCall(c, x)
	wantCoord(t, "CoordCall, "+what+": "+allText(false, x), got, out, told, calledOf(c, x))
	return got, out, told
}

// checkHear holds CoordTake and CoordBatch of a right coordinator against the
// model.
func checkHear(t *testing.T, what string, c impl.Coord, in impl.Msg) (impl.Coord, []impl.Msg, []impl.Reply) {
	t.Helper()
	what += ": " + allText(false, in)
	m := heardOf(c, in)
	got, out, told := impl.CoordTake(c, in)
	wantCoord(t, "CoordTake, "+what, got, out, told, m)
	batch, ok := impl.CoordBatch(c, in)
	wantBool(t, "CoordBatch, "+what, ok, len(m.batch) > 0)
	wantEdits(t, "CoordBatch, "+what, batch, m.batch...)
	return got, out, told
}

func checkAge(t *testing.T, what string, c impl.Coord) (impl.Coord, []impl.Msg, []impl.Reply) {
	t.Helper()
	got, out, told := impl.CoordTick(c)
	wantCoord(t, "CoordTick, "+what, got, out, told, agedOf(c))
	return got, out, told
}

func checkDesk(t *testing.T, what string, id int, splits []string, d impl.Disk) (impl.Coord, int) {
	t.Helper()
	want, code := deskOf(id, splits, d)
	got, is := impl.CoordOpen(id, splits, d)
	if is != code {
		t.Errorf("CoordOpen, %s: code %d, want %d", what, is, code)
	}
	wantCoord(t, "CoordOpen, "+what, got, nil, nil, &deskModel{Coord: want})
	return got, is
}

// deskPlay is a right coordinator that goes on by calls, messages and ticks, each
// of which is held against the model and against what it is to send and reply.
type deskPlay struct {
	*testing.T
	c impl.Coord
}

// idleCoord is a right coordinator of the tests' own without a transaction, with
// these pairs in its tree.
func idleCoord(pairs ...impl.Pair) impl.Coord {
	store := shardStore(append(slices.Clone(pairs), pair("e", strconv.Itoa(deskEpoch)))...)
	return impl.Coord{Id: deskId, Splits: slices.Clone(deskSplits), Store: store, Epoch: deskEpoch, Counts: make([]int, 3), Stamps: make([]int, 3)}
}

// check takes what is wanted as messages and replies, in whatever order these
// stand to each other.
func (p *deskPlay) check(what string, out []impl.Msg, told []impl.Reply, wanted []any) {
	p.Helper()
	var msgs []impl.Msg
	var said []impl.Reply
	for _, w := range wanted {
		switch w := w.(type) {
		case impl.Msg:
			msgs = append(msgs, w)
		case impl.Reply:
			said = append(said, w)
		default:
			p.Fatalf("%s: what is wanted is neither a message nor a reply", what)
		}
	}
	if !sameMsgs(out, msgs) {
		p.Errorf("%s: sends %s\nwant %s", what, msgsText(out), msgsText(msgs))
	}
	if !sameReplies(told, said) {
		p.Errorf("%s: replies %s\nwant %s", what, repliesText(told), repliesText(said))
	}
	wantBool(p.T, "CoordOk behind "+what, impl.CoordOk(p.c), true)
}

func (p *deskPlay) call(x impl.Call, wanted ...any) {
	p.Helper()
	var out []impl.Msg
	var told []impl.Reply
	p.c, out, told = checkCall(p.T, "a play", p.c, x)
	p.check("a call "+allText(false, x), out, told, wanted)
}

func (p *deskPlay) hear(in impl.Msg, wanted ...any) {
	p.Helper()
	var out []impl.Msg
	var told []impl.Reply
	p.c, out, told = checkHear(p.T, "a play", p.c, in)
	p.check(allText(false, in), out, told, wanted)
}

func (p *deskPlay) tick(wanted ...any) {
	p.Helper()
	var out []impl.Msg
	var told []impl.Reply
	p.c, out, told = checkAge(p.T, "a play", p.c)
	p.check("a tick", out, told, wanted)
}

// wantPhase also looks at what would be there behind a crash.
func (p *deskPlay) wantPhase(phase, behind int) {
	p.Helper()
	again, code := checkDesk(p.T, "a play", p.c.Id, p.c.Splits, p.c.Store.Disk)
	if p.c.Phase != phase || code != 0 || again.Phase != behind || again.Epoch != p.c.Epoch+1 {
		p.Errorf("the Phase is %d, want %d; behind a crash code %d and %d, want %d", p.c.Phase, phase, code, again.Phase, behind)
	}
	wantCoordOk(p.T, "behind a crash", again, true)
	if behind == 4 {
		wantBool(p.T, "behind a crash it is the same decision", again.Tx == p.c.Tx && slices.Equal(again.Pend, inIt(p.c.Counts)), true)
	}
}

func (p *deskPlay) reopen() {
	p.Helper()
	p.c, _ = checkDesk(p.T, "a play", p.c.Id, p.c.Splits, p.c.Store.Disk)
	p.check("opening", nil, nil, nil)
}

func wantCoordOk(t *testing.T, what string, c impl.Coord, want bool) {
	t.Helper()
	wantBool(t, "CoordOk: "+what, impl.CoordOk(c), want)
	wantBool(t, "the model of CoordOk: "+what, coordStands(c), want)
}

// A whole transaction, looked at from its disk at every step.
func TestP11ADecisionIsOnTheDiskBeforeAnybodyHearsIt(t *testing.T) {
	p := &deskPlay{t, idleCoord()}
	x := dx(1)
	put, scan, back := askPut("a", "1"), askScan("b", "z", 3, false), askScan("", "", 3, true)
	p.wantPhase(0, 0)
	p.call(toBegin(), replyOf(x, 1, 0))
	p.wantPhase(1, 0)
	p.call(toAsk(put), ofShard(0, asking(x, 1, put)))
	p.wantPhase(2, 0)
	p.hear(ofShard(0, telling(x, 1, 700)), replyAsk(x, put, 0))
	p.wantPhase(1, 0)
	p.call(toAsk(scan), ofShard(0, asking(x, 2, askScan("b", "g", 3, false))), ofShard(1, asking(x, 1, askScan("g", "p", 3, false))), ofShard(2, asking(x, 1, askScan("p", "z", 3, false))))
	p.wantPhase(2, 0)
	p.hear(ofShard(2, telling(x, 1, 900, pair("q", "5"))))
	p.hear(ofShard(0, telling(x, 2, 700, pair("b", "2"), pair("c", "3"))))
	p.wantPhase(2, 0)
	p.hear(ofShard(1, telling(x, 1, 800, pair("g", "4"), pair("h", "4"))), replyAsk(x, scan, 0, pair("b", "2"), pair("c", "3"), pair("g", "4")))
	p.call(toAsk(back), ofShard(0, asking(x, 3, askScan("", "g", 3, true))), ofShard(1, asking(x, 2, askScan("g", "p", 3, true))), ofShard(2, asking(x, 2, askScan("p", "", 3, true))))
	p.hear(ofShard(0, telling(x, 3, 700, pair("c", "3"), pair("b", "2"))))
	p.hear(ofShard(1, telling(x, 2, 800, pair("h", "4"), pair("g", "4"))))
	p.hear(ofShard(2, telling(x, 2, 900, pair("q", "5"))), replyAsk(x, back, 0, pair("q", "5"), pair("h", "4"), pair("g", "4")))
	p.wantPhase(1, 0)
	p.call(toCommit(), ofShard(0, readying(x, 3, 700)), ofShard(1, readying(x, 2, 800)), ofShard(2, readying(x, 2, 900)))
	p.wantPhase(3, 0)
	p.hear(ofShard(1, voting(x, true)))
	p.hear(ofShard(2, voting(x, true)))
	p.wantPhase(3, 0)
	p.hear(ofShard(0, voting(x, true)), replyOf(x, 3, 0), ofShard(0, ending(x, true)), ofShard(1, ending(x, true)), ofShard(2, ending(x, true)))
	p.wantPhase(4, 4)
	wantGet(t, p.c.Store.Tree, "c", "2.5.1:012", true)
	p.hear(ofShard(2, doing(x)))
	p.wantPhase(4, 4)
	p.tick(ofShard(0, ending(x, true)), ofShard(1, ending(x, true)))
	p.hear(ofShard(0, doing(x)))
	p.tick(ofShard(1, ending(x, true)))
	p.wantPhase(4, 4)
	p.hear(ofShard(1, doing(x)))
	p.wantPhase(0, 0)
	wantGet(t, p.c.Store.Tree, "c", "", false)
	p.tick()
	p.call(toBegin(), replyOf(dx(2), 1, 0))
}

func TestP11ADecisionIsGoneOnWithBehindACrash(t *testing.T) {
	p := &deskPlay{t, readyCoord()}
	x := dx(3)
	p.hear(ofShard(2, voting(x, true)), replyOf(x, 3, 0), ofShard(0, ending(x, true)), ofShard(2, ending(x, true)))
	for epoch := deskEpoch + 1; epoch < deskEpoch+5; epoch++ {
		p.reopen()
		if p.c.Epoch != epoch || p.c.Phase != 4 || p.c.Tx != x || !slices.Equal(p.c.Pend, []int{0, 2}) || !slices.Equal(p.c.Counts, []int{1, 0, 1}) {
			t.Errorf("behind a crash: %s", coordText(p.c))
		}
		for range 20 {
			p.tick(ofShard(0, ending(x, true)), ofShard(2, ending(x, true)))
		}
		p.hear(ofShard(0, wondering(x)), ofShard(0, ending(x, true)))
		p.hear(ofShard(0, doing(x)))
		p.tick(ofShard(2, ending(x, true)))
		p.hear(ofShard(0, wondering(x)), ofShard(0, ending(x, true)))
		for _, call := range []impl.Call{toBegin(), toCommit(), toAbort()} {
			p.call(call, replyOf(x, call.Kind, 1))
		}
	}
	p.hear(ofShard(2, doing(x)))
	p.hear(ofShard(2, wondering(x)), ofShard(2, ending(x, false)))
	p.call(toBegin(), replyOf(impl.Tx{C: deskId, E: deskEpoch + 4, N: 1}, 1, 0))
	p.reopen()
	p.call(toBegin(), replyOf(impl.Tx{C: deskId, E: deskEpoch + 5, N: 1}, 1, 0))
}

// What CoordBatch tells is torn anywhere: either nobody may have heard of the
// decision and the answer is no, or it stands and the answer is yes.
func TestP11ACrashWithinAVoteIsAheadOrBehindIt(t *testing.T) {
	for _, in := range []impl.Msg{ofShard(2, voting(dx(3), true)), ofShard(2, doing(dx(3)))} {
		c := readyCoord()
		if in.Kind == 6 {
			c = endCoord()
			c.Pend = []int{2}
		}
		edits, ok := impl.CoordBatch(c, in)
		wantBool(t, "CoordBatch", ok, true)
		ops, _ := impl.PlanOf(c.Store, edits)
		seen := map[int]int{}
		for n := range len(ops) + 1 {
			for _, keep := range [][]int{nil, {512, 512, 512, 512}, {100, 5, 1}, {511}, {512}, {0, 512}, {507}, {6}} {
				d, _ := impl.CommitCrash(c.Store, edits, n, keep)
				got, code := checkDesk(t, "torn", deskId, deskSplits, d)
				seen[got.Phase]++
				if code != 0 || got.Phase != 0 && got.Phase != 4 || got.Phase == 4 && (got.Tx != dx(3) || !slices.Equal(got.Pend, []int{0, 2})) {
					t.Errorf("torn behind %d: code %d, %s", n, code, coordText(got))
				}
				p := &deskPlay{t, got}
				p.hear(ofShard(2, wondering(dx(3))), ofShard(2, ending(dx(3), got.Phase == 4)))
			}
		}
		if seen[0] == 0 || seen[4] == 0 {
			t.Errorf("phases behind crashes: %v", seen)
		}
	}
}

func TestP11WithoutADecisionTheAnswerIsNo(t *testing.T) {
	for phase, c := range phaseCoords() {
		for i := range 3 {
			for _, x := range []impl.Tx{dx(1), dx(2), dx(4), dx(999), {C: deskId, E: 1, N: 3}, {C: deskId, E: 999, N: 3}, {C: deskId, E: 4, N: 999}} {
				got, out, told := checkHear(t, "another", c, ofShard(i, wondering(x)))
				wantCoord(t, "another", got, out, told, &deskModel{Coord: c, out: []impl.Msg{ofShard(i, ending(x, false))}})
			}
		}
		if phase == 4 {
			continue
		}
		p := &deskPlay{t, c}
		p.reopen()
		for i := range 3 {
			p.hear(ofShard(i, wondering(c.Tx)), ofShard(i, ending(c.Tx, false)))
		}
		p = &deskPlay{t, c}
		if phase > 0 {
			p.call(toAbort(), ends(c, false, replyOf(c.Tx, 4, 0))...)
		}
		for i := range 3 {
			p.hear(ofShard(i, wondering(c.Tx)), ofShard(i, ending(c.Tx, false)))
		}
		for i := range 3 {
			p.hear(ofShard(i, voting(c.Tx, true)))
			p.hear(ofShard(i, telling(c.Tx, 1, 7)))
			p.hear(ofShard(i, doing(c.Tx)))
		}
	}
}

// ends are a MsgEnd to each shard in it, and a reply.
func ends(c impl.Coord, yes bool, r impl.Reply) []any {
	var l []any
	for _, i := range inIt(c.Counts) {
		l = append(l, ofShard(i, ending(c.Tx, yes)))
	}
	return append(l, r)
}

func TestP11WhileItIsOpenNobodyIsTold(t *testing.T) {
	for phase, c := range phaseCoords() {
		if phase == 0 || phase == 4 {
			continue
		}
		for i := range 3 {
			got, out, told := checkHear(t, "while it is open", c, ofShard(i, wondering(dx(3))))
			wantCoord(t, "while it is open", got, out, told, &deskModel{Coord: c})
		}
	}
	p := &deskPlay{t, endCoord()}
	for i := range 3 {
		p.hear(ofShard(i, wondering(dx(3))), ofShard(i, ending(dx(3), true)))
	}
}

func TestP11WhatIsNotAnsweredIsGivenUp(t *testing.T) {
	x := dx(3)
	p := &deskPlay{t, askCoord()}
	p.c.Age = 0
	scan := p.c.Ask
	for range 7 {
		p.tick(ofShard(0, asking(x, 2, askScan("b", "g", 3, false))), ofShard(1, asking(x, 1, askScan("g", "p", 3, false))))
	}
	// What comes from one of them doesn't make it young again.
	p.hear(ofShard(0, telling(x, 2, 700)))
	p.tick(ofShard(0, ending(x, false)), ofShard(1, ending(x, false)), ofShard(2, ending(x, false)), replyAsk(x, scan, 8))
	p.hear(ofShard(1, telling(x, 1, 800)))
	p.hear(ofShard(1, wondering(x)), ofShard(1, ending(x, false)))
	wantBool(t, "given up", p.c.Phase == 0 && p.c.Tx == x, true)

	p = &deskPlay{t, openCoord()}
	p.call(toCommit(), ofShard(0, readying(x, 2, 700)), ofShard(2, readying(x, 1, 900)))
	for range 3 {
		p.tick(ofShard(0, readying(x, 2, 700)), ofShard(2, readying(x, 1, 900)))
	}
	p.hear(ofShard(2, voting(x, true)))
	for range 4 {
		p.tick(ofShard(0, readying(x, 2, 700)))
	}
	p.tick(ofShard(0, ending(x, false)), ofShard(2, ending(x, false)), replyOf(x, 3, 8))
	p.hear(ofShard(0, voting(x, true)))
	p.hear(ofShard(0, wondering(x)), ofShard(0, ending(x, false)))
	wantBool(t, "given up", p.c.Phase == 0, true)

	// An ask that is answered leaves no age behind.
	p = &deskPlay{t, openCoord()}
	for num := 3; num < 10; num++ {
		p.call(toAsk(askGet("a")), ofShard(0, asking(x, num, askGet("a"))))
		for range 7 {
			p.tick(ofShard(0, asking(x, num, askGet("a"))))
		}
		p.hear(ofShard(0, telling(x, num, 700)), replyAsk(x, askGet("a"), 0))
		p.tick()
	}
	// Neither who is idle nor who is asked nothing grows old, nor a decision.
	for _, c := range []impl.Coord{idleCoord(), openCoord(), endCoord()} {
		p = &deskPlay{t, c}
		for range 30 {
			p.c, _, _ = checkAge(t, "thirty ticks", p.c)
		}
		wantBool(t, "thirty ticks change nothing", sameCoord(p.c, c), true)
	}
}

func TestP11OneThatIsAborted(t *testing.T) {
	x := dx(1)
	p := &deskPlay{t, idleCoord()}
	p.call(toBegin(), replyOf(x, 1, 0))
	p.call(toAbort(), replyOf(x, 4, 0))
	p.call(toAbort(), replyOf(x, 4, 1))
	x = dx(2)
	p.call(toBegin(), replyOf(x, 1, 0))
	p.call(toAsk(askPut("q", "1")), ofShard(2, asking(x, 1, askPut("q", "1"))))
	p.hear(ofShard(2, telling(x, 1, 9)), replyAsk(x, askPut("q", "1"), 0))
	p.call(toAbort(), ofShard(2, ending(x, false)), replyOf(x, 4, 0))
	x = dx(3)
	p.call(toBegin(), replyOf(x, 1, 0))
	p.call(toAsk(askScan("", "g", 8, true)), ofShard(0, asking(x, 1, askScan("", "g", 8, true))))
	p.call(toAbort(), ofShard(0, ending(x, false)), replyOf(x, 4, 0))
	p.hear(ofShard(0, telling(x, 1, 9)))
	p.wantPhase(0, 0)
	x = dx(4)
	p.call(toBegin(), replyOf(x, 1, 0))
	p.call(toAsk(askScan("f", "h", 8, true)), ofShard(0, asking(x, 1, askScan("f", "g", 8, true))), ofShard(1, asking(x, 1, askScan("g", "h", 8, true))))
	p.hear(ofShard(0, telling(x, 1, 9)))
	p.hear(ofShard(1, telling(x, 1, 9)), replyAsk(x, askScan("f", "h", 8, true), 0))
	p.call(toCommit(), ofShard(0, readying(x, 1, 9)), ofShard(1, readying(x, 1, 9)))
	p.hear(ofShard(1, voting(x, true)))
	p.call(toAbort(), ofShard(0, ending(x, false)), ofShard(1, ending(x, false)), replyOf(x, 4, 0))
	p.hear(ofShard(0, voting(x, true)))
	p.wantPhase(0, 0)
}

func TestP11OneWhoseVoteIsNo(t *testing.T) {
	x := dx(3)
	for _, voters := range [][]int{{0}, {2}, {0, 2}, {2, 0}} {
		p := &deskPlay{t, openCoord()}
		p.call(toCommit(), ofShard(0, readying(x, 2, 700)), ofShard(2, readying(x, 1, 900)))
		for i, shard := range voters {
			if i < len(voters)-1 {
				p.hear(ofShard(shard, voting(x, true)))
				continue
			}
			p.hear(ofShard(shard, voting(x, false)), ofShard(0, ending(x, false)), ofShard(2, ending(x, false)), replyOf(x, 3, 7))
		}
		p.hear(ofShard(0, voting(x, true)))
		p.hear(ofShard(2, voting(x, true)))
		p.wantPhase(0, 0)
		p.call(toBegin(), replyOf(dx(4), 1, 0))
	}
}

// world is a coordinator with shards of the program's own, and the letters that
// are under way between them.
type world struct {
	*testing.T
	desk    impl.Coord
	houses  []impl.Shard
	letters []impl.Msg
	told    []impl.Reply
}

// newWorld has three shards; in each a key is old.
func newWorld(t *testing.T) *world {
	w := &world{T: t, desk: idleCoord()}
	for i, k := range []string{"a", "h", "q"} {
		part, _ := impl.PartOf(deskSplits, i)
		s, code := impl.ShardOpen(i, part, shardStore(pair("d"+k, "old")).Disk)
		if code != 0 {
			t.Fatalf("a shard has code %d", code)
		}
		w.houses = append(w.houses, s)
	}
	return w
}

func (w *world) heard(out []impl.Msg, told []impl.Reply) {
	w.letters = append(w.letters, out...)
	w.told = append(w.told, told...)
}

func (w *world) call(x impl.Call) {
	var out []impl.Msg
	var told []impl.Reply
	w.desk, out, told = checkCall(w.T, "a world", w.desk, x)
	w.heard(out, told)
}

func (w *world) deliver() {
	in := w.letters[0]
	w.letters = w.letters[1:]
	var out []impl.Msg
	var told []impl.Reply
	switch in.Kind {
	case 1, 3, 5:
		w.houses[in.Shard], out = impl.ShardTake(w.houses[in.Shard], in)
	default:
		w.desk, out, told = checkHear(w.T, "a world", w.desk, in)
	}
	w.heard(out, told)
}

// calm ticks and delivers until all should be at rest.
func (w *world) calm() {
	for range 20 {
		for i := range w.houses {
			var out []impl.Msg
			w.houses[i], out = impl.ShardTick(w.houses[i])
			w.heard(out, nil)
		}
		var out []impl.Msg
		var told []impl.Reply
		w.desk, out, told = checkAge(w.T, "a world", w.desk)
		w.heard(out, told)
		for len(w.letters) > 0 {
			w.deliver()
		}
	}
}

// run goes through a transaction that writes in each shard, until stop says so.
func (w *world) run(stop func() bool) {
	steps := []impl.Call{toBegin(), toAsk(askPut("a", "new")), toAsk(askScan("", "", 8, true)), toAsk(askDel("q")), toAsk(askPut("h", "new")), toCommit()}
	for _, x := range steps {
		w.call(x)
		for len(w.letters) > 0 {
			if stop() {
				return
			}
			w.deliver()
		}
	}
	stop()
}

// newData is what the transaction of run leaves.
const newData = "a=new h=new "

func (w *world) data() string {
	text := ""
	for _, s := range w.houses {
		for _, p := range impl.Data(s.Store.Tree, nil) {
			text += p.Key + "=" + p.Val + " "
		}
	}
	return text
}

// checkRest: at rest all shards have what the transaction did, or none of them.
func (w *world) checkRest(what string, yes bool) {
	w.Helper()
	w.calm()
	want := "a=old h=old q=old "
	if yes {
		want = newData
	}
	if got := w.data(); got != want {
		w.Errorf("%s: the data is %s, want %s", what, got, want)
	}
	for _, s := range w.houses {
		wantBool(w.T, what+": a shard has no work", len(s.Works) == 0, true)
	}
	wantBool(w.T, what+": the coordinator is at rest", w.desk.Phase == 0 && len(w.letters) == 0, true)
}

// isTold: whether anybody heard of the decision.
func (w *world) isTold() bool {
	yes := slices.ContainsFunc(w.told, func(r impl.Reply) bool { return r.Kind == 3 && r.Code == 0 })
	return yes || slices.ContainsFunc(w.letters, func(m impl.Msg) bool { return m.Kind == 5 && m.Yes })
}

// The coordinator crashes ahead of each letter, which is lost or comes later: who
// heard of a decision can rely on it, and without one nothing is done.
func TestP11ACrashAtEachStepOfATransaction(t *testing.T) {
	decided := map[bool]int{}
	for _, lost := range []bool{false, true} {
		for step := 0; ; step++ {
			w := newWorld(t)
			at := 0
			w.run(func() bool { at++; return at > step })
			yes := w.isTold()
			if lost && len(w.letters) > 0 {
				w.letters = w.letters[1:]
			}
			w.desk, _ = checkDesk(t, "a world", deskId, deskSplits, w.desk.Store.Disk)
			wantBool(t, "what was told stands on the disk, or all have done it", w.desk.Phase == 4 || w.data() == newData, yes)
			decided[yes]++
			w.checkRest("a crash behind "+strconv.Itoa(step)+" letters", yes)
			if at <= step || t.Failed() {
				break
			}
		}
	}
	if decided[true] < 10 || decided[false] < 30 {
		t.Errorf("only %v crashes", decided)
	}
}

// Each letter that the coordinator commits for is torn in its commit.
func TestP11ATornDecisionIsOneOrNone(t *testing.T) {
	ways := map[bool]int{}
	for n := range 5 {
		for _, keep := range [][]int{nil, {511}, {512}, {512, 512, 512}} {
			for nth := range 2 {
				w := newWorld(t)
				var edits []impl.Edit
				w.run(func() bool {
					batch, ok := impl.CoordBatch(w.desk, w.next())
					if ok {
						edits, nth = batch, nth-1
					}
					return ok && nth < 0
				})
				w.letters = w.letters[1:]
				d, code := impl.CommitCrash(w.desk.Store, edits, n, keep)
				if code != 0 {
					t.Fatalf("CommitCrash has code %d", code)
				}
				told := w.isTold()
				w.desk, _ = checkDesk(t, "torn", deskId, deskSplits, d)
				yes := w.desk.Phase == 4 || told
				ways[yes]++
				w.checkRest("torn", yes)
			}
		}
	}
	if ways[true] < 5 || ways[false] < 5 {
		t.Errorf("only %v of torn ones", ways)
	}
}

// next is the next letter, or nothing.
func (w *world) next() impl.Msg {
	if len(w.letters) == 0 {
		return impl.Msg{}
	}
	return w.letters[0]
}

func TestP15CoordLimits(t *testing.T) {
	if impl.MaxAsked != 8 || impl.PhaseIdle != 0 || impl.PhaseOpen != 1 || impl.PhaseAsk != 2 || impl.PhaseReady != 3 || impl.PhaseEnd != 4 {
		t.Errorf("MaxAsked %d, phases %d to %d", impl.MaxAsked, impl.PhaseIdle, impl.PhaseEnd)
	}
	if impl.CallBegin != 1 || impl.CallAsk != 2 || impl.CallCommit != 3 || impl.CallAbort != 4 {
		t.Errorf("calls %d to %d", impl.CallBegin, impl.CallAbort)
	}
}

func wantDeskCode(t *testing.T, what string, id int, splits []string, d impl.Disk, want int) {
	t.Helper()
	c, code := checkDesk(t, what, id, splits, d)
	if code != want {
		t.Errorf("CoordOpen of %s has code %d, want %d", what, code, want)
	}
	wantBool(t, "CoordOk of what was opened: "+what, impl.CoordOk(c), want == 0)
}

func TestP15CoordOpen(t *testing.T) {
	d := shardStore(abcd...).Disk
	for id := range 8 {
		wantDeskCode(t, "a coordinator", id, deskSplits, d, 0)
	}
	for _, id := range append(farEnds(), -1, 8, 9) {
		wantDeskCode(t, "the id "+strconv.Itoa(id), id, deskSplits, d, 4)
	}
	for _, splits := range rightSplits() {
		long := slices.ContainsFunc(splits, func(k string) bool { return len(k) > 8 })
		wantDeskCode(t, "splits "+strings.Join(splits, " "), 0, splits, d, 4*bit(long))
	}
	for _, splits := range wrongSplits() {
		wantDeskCode(t, "wrong splits", 7, splits, d, 4)
	}
	wantDeskCode(t, "a split of 8 bytes", 0, []string{"a", longUser, topUser}, d, 0)
	for i := range 3 {
		splits := []string{"a", "b", "c"}
		splits[i] += strings.Repeat("x", 7)
		wantDeskCode(t, "a split of 8 bytes", 0, splits, d, 0)
		splits[i] += "x"
		wantDeskCode(t, "a split of 9 bytes", 0, splits, d, 4)
	}
	for what, wrong := range wrongSheets() {
		wantDeskCode(t, what, 0, nil, wrong, 1)
		wantDeskCode(t, what, 8, []string{""}, wrong, 1)
	}
	for what, wrong := range wrongDisks() {
		wantDeskCode(t, what, -1, nil, wrong, 1)
	}
	wantDeskCode(t, "something waits", 0, nil, with(d, impl.Write{At: 5, Bytes: counted(1)}), 1)
	wantDeskCode(t, "no meta", 8, []string{"b", "a"}, blank(20), 2)
	noTree := blank(20)
	noTree.Sheets[1].Bytes = metaText(impl.Meta{Gen: 5, Root: 7})
	wantDeskCode(t, "no tree", 8, nil, noTree, 3)
	c, _ := checkDesk(t, "an empty store", 7, nil, settled(impl.Tree{}, 1, 3, nil).Disk)
	if c.Id != 7 || c.Epoch != 1 || c.Num != 0 || len(c.Counts) != 1 || len(c.Stamps) != 1 || c.Phase != 0 || c.Tx != (impl.Tx{}) {
		t.Errorf("an empty store: %s", coordText(c))
	}
}

func TestP15CoordOpenCountsItsEpochs(t *testing.T) {
	d := shardStore(abcd...).Disk
	for epoch := 1; epoch < 8; epoch++ {
		c, code := checkDesk(t, "once more", 3, deskSplits, d)
		if code != 0 || c.Epoch != epoch || c.Num != 0 || c.Store.Gen != 4+epoch {
			t.Errorf("the epoch %d: code %d, %s", epoch, code, coordText(c))
		}
		wantGet(t, c.Store.Tree, "e", strconv.Itoa(epoch), true)
		d = c.Store.Disk
	}
	for val, epoch := range map[string]int{"0": 1, "1": 2, "2": 3, "9": 10, "99": 100, "998": 999, "1000": 1, "1001": 1, "": 1, "x": 1, "01": 1, "+1": 1, " 1": 1, "1 ": 1, "-1": 1, "1.0": 1, "0x1": 1,
		"1099511627775": 1, "1099511627776": 1, "18446744073709551617": 1, "4294967297": 1, "999 ": 1, "0999": 1} {
		c, code := checkDesk(t, "e is "+val, 0, deskSplits, shardStore(pair("e", val), pair("b", "7"), pair("E", "8")).Disk)
		if code != 0 || c.Epoch != epoch {
			t.Errorf("e is %q: code %d, Epoch %d, want %d", val, code, c.Epoch, epoch)
		}
		wantCoordOk(t, "e was "+val, c, true)
	}
	wantDeskCode(t, "e is 999", 0, nil, shardStore(pair("e", "999")).Disk, 5)
	wantDeskCode(t, "e is 999 and a decision", 0, nil, shardStore(pair("e", "999"), pair("c", "0.1.1:0")).Disk, 5)
	wantDeskCode(t, "e is 999 and a wrong id", 8, nil, shardStore(pair("e", "999")).Disk, 4)
}

func TestP15CoordOpenThatCannotCommit(t *testing.T) {
	tree := treeWith(abcd...)
	wantDeskCode(t, "the last Gen but one", 0, nil, settled(tree, impl.MaxNum-1, 20, upFrom(2, 9)).Disk, 0)
	wantDeskCode(t, "the last Gen", 0, nil, settled(tree, impl.MaxNum, 20, upFrom(2, 9)).Disk, 5)
	wantDeskCode(t, "no sheet for it", 0, nil, settled(tree, 4, 3, upFrom(2, 9)).Disk, 5)
	wantDeskCode(t, "no sheet for it and a wrong id", 8, nil, settled(tree, 4, 3, upFrom(2, 9)).Disk, 4)
	wantDeskCode(t, "no sheet at all", 0, nil, settled(impl.Tree{}, 4, 2, nil).Disk, 5)
	wantDeskCode(t, "one sheet", 0, nil, settled(impl.Tree{}, 4, 3, nil).Disk, 0)
	var full []impl.Pair
	for i := range 200 {
		full = append(full, pair("z"+numbered(i), ""))
	}
	wantDeskCode(t, "200 pairs", 0, nil, shardStore(full...).Disk, 5)
	wantDeskCode(t, "200 pairs with e", 0, nil, shardStore(append(full[:199], pair("e", "7"))...).Disk, 0)
}

// wrongDecisions: values of 'c' that aren't as said for the coordinator 2 with
// three shards.
func wrongDecisions() []string {
	l := []string{"", ":", "2", "2.5.3", "2.5.3:", ":02", "2.5.3:3", "2.5.3:03", "2.5.3:4", "2.5.3:9", "2.5.3:20", "2.5.3:10", "2.5.3:021", "2.5.3:102", "2.5.3:00", "2.5.3:022", "2.5.3:0022", "2.5.3:0122",
		"2.5.3:0 2", "2.5.3: 02", "2.5.3:02 ", " 2.5.3:02", "2.5.3:02:", "2.5.3::02", "2.5.3:0:2", "2.5.3:0.2", "2.5.3:-0", "2.5.3:x", "2.5.3:0x", "2.5.3:a", "2.5.3;02", "2.5.3.02", "2.5.3 02", "02", "2.5.302",
		"1.5.3:02", "3.5.3:02", "7.5.3:02", "8.5.3:02", "0.5.3:0", "02.5.3:02", "2.05.3:02", "2.5.03:02", "2.0.3:02", "2.5.0:02", "2.1000.3:02", "2.5.1000:02", "2.5:02", "2..3:02", "2.5.:02", "2.5.3.1:02", "-2.5.3:02",
		"2.5.3:\x00", "2.5.3:0\x00", "2.5.3:\xb2", "2.5.3:02\n", "+2.5.3:02", "2,5,3:02", "2.5.3:0123", "2.5.3:13", "2.5.3:01234", "2.5.3:1000000", strings.Repeat("2", 60)}
	return append(l, "2.5.3:"+strings.Repeat("0", 54), "2.5.3:"+strings.Repeat("012", 18))
}

func TestP15CoordOpenOfWhatWasDecidedFor(t *testing.T) {
	for _, val := range wrongDecisions() {
		c, code := checkDesk(t, "c is "+val, deskId, deskSplits, shardStore(pair("c", val)).Disk)
		if code != 0 || c.Phase != 0 || c.Tx != (impl.Tx{}) || len(c.Pend) != 0 || !slices.Equal(c.Counts, []int{0, 0, 0}) {
			t.Errorf("c is %q: code %d, %s", val, code, coordText(c))
		}
		wantCoordOk(t, "c is "+val, c, true)
		wantGet(t, c.Store.Tree, "c", val, true)
	}
	for digits, shards := range map[string][]int{"0": {0}, "1": {1}, "2": {2}, "01": {0, 1}, "02": {0, 2}, "12": {1, 2}, "012": {0, 1, 2}} {
		for _, name := range []string{"2.5.3", "2.1.1", "2.999.999", "2.7.10"} {
			c, code := checkDesk(t, "c is "+name+":"+digits, deskId, deskSplits, shardStore(pair("c", name+":"+digits), pair("e", "6")).Disk)
			if code != 0 || c.Phase != 4 || dotted(c.Tx) != name || !slices.Equal(c.Pend, shards) || !slices.Equal(inIt(c.Counts), shards) || slices.Max(c.Counts) != 1 || slices.Max(c.Stamps) != 0 || c.Epoch != 7 || c.Num != 0 {
				t.Errorf("c is %q: code %d, %s", name+":"+digits, code, coordText(c))
			}
			wantCoordOk(t, "opened with "+digits, c, true)
		}
	}
	// Which shards are there hangs on the splits.
	for n := range 4 {
		splits := []string{"a", "b", "c"}[:n]
		for mask := range 16 {
			val := "0.1.1:"
			for i := range 4 {
				if mask>>i&1 == 1 {
					val += strconv.Itoa(i)
				}
			}
			c, _ := checkDesk(t, "c is "+val, 0, splits, shardStore(pair("c", val)).Disk)
			wantBool(t, "a decision of shards that are there", c.Phase == 4, mask > 0 && mask < 2<<n)
		}
	}
}

// phaseCoords are right coordinators of the tests' own, one of each phase, each
// with the transaction 2.5.3 (the idle one had it last).
func phaseCoords() []impl.Coord {
	idle := idleCoord(pair("c", "9.9.9:0"))
	idle.Num, idle.Tx = 3, dx(3)
	return []impl.Coord{idle, openCoord(), askCoord(), readyCoord(), endCoord()}
}

func openCoord() impl.Coord {
	c := idleCoord(pair("d", "x"))
	c.Num, c.Tx, c.Phase, c.Counts, c.Stamps = 3, dx(3), 1, []int{2, 0, 1}, []int{700, 0, 900}
	return c
}

func askCoord() impl.Coord {
	c := openCoord()
	c.Phase, c.Counts, c.Pend, c.Ask, c.Age = 2, []int{2, 1, 1}, []int{0, 1}, askScan("b", "z", 3, false), 3
	c.Got = []impl.Msg{ofShard(2, telling(dx(3), 1, 900, pair("q", "5"), pair("r", "6")))}
	return c
}

func readyCoord() impl.Coord {
	c := openCoord()
	c.Phase, c.Pend, c.Age = 3, []int{2}, 4
	return c
}

func endCoord() impl.Coord {
	c := idleCoord(pair("c", "2.5.3:02"))
	c.Num, c.Tx, c.Phase, c.Counts, c.Pend = 3, dx(3), 4, []int{2, 0, 1}, []int{0, 2}
	return c
}

var phaseNames = []string{"idle", "open", "asking", "ready", "ending"}

func changedCoords(change func(do func(what string, phases []int, change func(c *impl.Coord)))) map[string]impl.Coord {
	l := map[string]impl.Coord{}
	change(func(what string, phases []int, change func(c *impl.Coord)) {
		for _, phase := range phases {
			c := phaseCoords()[phase]
			change(&c)
			l[phaseNames[phase]+": "+what] = c
		}
	})
	return l
}

// The phases of the coordinators that are changed.
var (
	all     = []int{0, 1, 2, 3, 4}
	begun   = []int{1, 2, 3, 4}
	pending = []int{2, 3, 4}
	stamped = []int{1, 2, 3}
)

// retold sets the values of keys in a coordinator's store.
func retold(c *impl.Coord, pairs ...impl.Pair) {
	c.Store = shardStore(append(pairsAt(*c), pairs...)...)
}

// otherCoords are right, each changed in one way.
func otherCoords() map[string]impl.Coord {
	return changedCoords(func(do func(what string, phases []int, change func(c *impl.Coord))) {
		do("as it is", all, func(c *impl.Coord) {})
		for n := range 8 {
			do("Id "+strconv.Itoa(n), all, func(c *impl.Coord) {
				c.Id, c.Tx.C = n, n
				for i := range c.Got {
					c.Got[i].Tx.C = n
				}
				if c.Phase == 4 {
					retold(c, pair("c", strconv.Itoa(n)+".5.3:02"))
				}
			})
		}
		do("other splits", all, func(c *impl.Coord) { c.Splits = []string{"\x00", topUser} })
		do("splits of 8 bytes", all, func(c *impl.Coord) { c.Splits = []string{longUser[1:] + "a", longUser[1:] + "i"} })
		for _, n := range []int{0, 1, 2, 3, 4, 5, 998, 999} {
			do("Num "+strconv.Itoa(n), all, func(c *impl.Coord) { c.Num = n })
		}
		for _, n := range []int{1, 2, 4, 6, 9, 10, 99, 998, 999} {
			do("Epoch "+strconv.Itoa(n), all, func(c *impl.Coord) { c.Epoch = n; retold(c, pair("e", strconv.Itoa(n))) })
		}
		for i, x := range append(someWrongNames(), dx(9), impl.Tx{C: 7, E: 1, N: 1}) {
			do("the name "+strconv.Itoa(i), all[:1], func(c *impl.Coord) { c.Tx = x })
		}
		for i, x := range []impl.Tx{dx(1), dx(999), {C: deskId, E: 1, N: 1}, {C: deskId, E: 999, N: 999}} {
			do("another name "+strconv.Itoa(i), begun, func(c *impl.Coord) {
				c.Tx = x
				for i := range c.Got {
					c.Got[i].Tx = x
				}
				if c.Phase == 4 {
					retold(c, pair("c", dotted(x)+":02"))
				}
			})
		}
		for n := 1; n < 17; n++ {
			do("Counts "+strconv.Itoa(n), stamped, func(c *impl.Coord) { c.Counts[2] = n })
			do("Counts of an end "+strconv.Itoa(n), all[4:], func(c *impl.Coord) { c.Counts[0] = n })
			if n > 1 {
				do("Counts of one that must answer "+strconv.Itoa(n), pending[:1], func(c *impl.Coord) { c.Counts[1], c.Stamps[1] = n, n })
			}
		}
		do("no counts", all[1:2], func(c *impl.Coord) { c.Counts, c.Stamps = make([]int, 3), make([]int, 3) })
		for _, n := range []int{1, 100001, impl.MaxNum} {
			do("the stamp "+strconv.Itoa(n), stamped, func(c *impl.Coord) { c.Stamps[0] = n })
		}
		do("all counts", begun[:1], func(c *impl.Coord) { c.Counts, c.Stamps = []int{1, 16, 2}, []int{1, 2, 3} })
		do("another Pend", begun[2:], func(c *impl.Coord) { c.Pend = []int{0} })
		do("all Pend", begun[2:], func(c *impl.Coord) { c.Pend = []int{0, 2} })
		do("the last of Pend", begun[2:], func(c *impl.Coord) { c.Pend = []int{2} })
		do("all Pend", pending[:1], func(c *impl.Coord) { c.Pend, c.Got, c.Stamps = []int{0, 1, 2}, nil, []int{700, 0, 0} })
		do("one of Pend", pending[:1], func(c *impl.Coord) { c.Pend, c.Stamps[1] = []int{0}, 800 })
		do("no Got", pending[:1], func(c *impl.Coord) { c.Got = nil })
		do("another number in Got", pending[:1], func(c *impl.Coord) { c.Got[0].Num = 16 })
		do("another stamp in Got", pending[:1], func(c *impl.Coord) { c.Got[0].Stamp = 1 })
		do("eight pairs in Got", pending[:1], func(c *impl.Coord) { c.Got[0].Pairs = userPairs(8) })
		do("two of Got", pending[:1], func(c *impl.Coord) {
			c.Got, c.Pend = append(c.Got, ofShard(0, telling(dx(3), 1, 7))), []int{1}
		})
		for i, a := range rightAsks() {
			if i%23 == 0 {
				do("the ask "+strconv.Itoa(i), pending[:1], func(c *impl.Coord) { c.Ask = a })
			}
		}
		for n := range 8 {
			do("Age "+strconv.Itoa(n), pending[:2], func(c *impl.Coord) { c.Age = n })
		}
		for i, val := range wrongDecisions() {
			if i%5 == 0 {
				do("c is "+val, all[:4], func(c *impl.Coord) { retold(c, pair("c", val)) })
			}
		}
		do("lists without elements", all[:2], func(c *impl.Coord) { c.Pend, c.Got = []int{}, []impl.Msg{} })
		do("a sheet that isn't of the tree", all, func(c *impl.Coord) { c.Store.Disk.Sheets[99].Bytes = counted(1) })
	})
}

// brokenCoords: each is wrong in one way.
func brokenCoords() map[string]impl.Coord {
	l := changedCoords(func(do func(what string, phases []int, change func(c *impl.Coord))) {
		do("nothing", all[:1], func(c *impl.Coord) { *c = impl.Coord{} })
		for _, n := range append(farEnds(), 8, 9) {
			do("Id "+strconv.Itoa(n), all, func(c *impl.Coord) { c.Id = n })
			do("Id and Tx "+strconv.Itoa(n), all[:4], func(c *impl.Coord) { c.Id, c.Tx.C = n, n; c.Got = nil })
		}
		do("another Id", begun, func(c *impl.Coord) { c.Id = 3 })
		for i, splits := range append(wrongSplits(), nil, []string{"g"}, []string{"a", "b", "c"}, []string{"g", "ppppppppp"}, []string{"ggggggggg", "p"}) {
			do("the splits "+strconv.Itoa(i), all, func(c *impl.Coord) { c.Splits = splits })
		}
		for _, n := range append(farEnds(), 0, 1, 4, 6, 999, 1000, deskEpoch+1<<32) {
			do("Epoch "+strconv.Itoa(n), all, func(c *impl.Coord) { c.Epoch = n })
		}
		for _, val := range []string{"", "0", "4", "6", "05", "5 ", "1000", "x"} {
			do("e is "+val, all, func(c *impl.Coord) { retold(c, pair("e", val)) })
		}
		do("no e", all, func(c *impl.Coord) {
			c.Store = shardStore(slices.DeleteFunc(append(pairsAt(*c), pair("f", "")), func(p impl.Pair) bool { return p.Key == "e" })...)
		})
		do("an epoch of 0", all, func(c *impl.Coord) { c.Epoch = 0; retold(c, pair("e", "0")) })
		do("an epoch of 1000", all, func(c *impl.Coord) { c.Epoch = 1000; retold(c, pair("e", "1000")) })
		for _, n := range append(farEnds(), -1, 1000, 1001) {
			do("Num "+strconv.Itoa(n), all, func(c *impl.Coord) {
				c.Num = n
				if n == 257 {
					c.Num = -257
				}
			})
		}
		for _, n := range append(farEnds(), 5, 6, 2+1<<32) {
			do("Phase "+strconv.Itoa(n), all, func(c *impl.Coord) { c.Phase = n })
		}
		for phase := range 5 {
			for _, other := range all {
				if phase != other && !(phase == 0 && other == 1) {
					do("the Phase is "+strconv.Itoa(other), []int{phase}, func(c *impl.Coord) { c.Phase = other })
				}
			}
		}
		for i, x := range append(someWrongNames(), impl.Tx{C: 1, E: 5, N: 3}, impl.Tx{C: 3, E: 5, N: 3}) {
			do("the name "+strconv.Itoa(i), begun, func(c *impl.Coord) { c.Tx = x; c.Got = nil })
		}
		for _, n := range []int{-1, 0, 1000, 5 + 1<<32, math.MinInt64, math.MaxInt64} {
			do("the name's epoch "+strconv.Itoa(n), begun, func(c *impl.Coord) { c.Tx.E = n; c.Got = nil })
			do("the name's number "+strconv.Itoa(n), begun, func(c *impl.Coord) { c.Tx.N = n; c.Got = nil })
		}
		breakCounts(do)
		breakPend(do)
		breakGot(do)
		breakDecision(do)
		breakDesk(do)
	})
	for what, store := range wrongStores() {
		c := openCoord()
		c.Store = store
		l["the store is "+what] = c
	}
	return l
}

func breakCounts(do func(what string, phases []int, change func(c *impl.Coord))) {
	for _, n := range append(farEnds(), -1, 17, 18) {
		for i := range 3 {
			do("the count "+strconv.Itoa(i)+" is "+strconv.Itoa(n), all, func(c *impl.Coord) { c.Counts[i] = n })
		}
	}
	for i := range 3 {
		at := strconv.Itoa(i)
		do("a count of an idle one "+at, all[:1], func(c *impl.Coord) { c.Counts[i] = 1 })
		do("a stamp of an idle one or an end "+at, []int{0, 4}, func(c *impl.Coord) { c.Stamps[i] = 1 })
		for _, n := range append(farEnds(), -1, impl.MaxNum+1) {
			if n < 0 || n > impl.MaxNum {
				do("the stamp "+at+" is "+strconv.Itoa(n), all, func(c *impl.Coord) { c.Stamps[i] = n })
			}
		}
	}
	do("a count and no stamp", stamped, func(c *impl.Coord) { c.Stamps[0] = 0 })
	do("a count and no stamp of one that told", stamped, func(c *impl.Coord) { c.Stamps[2] = 0 })
	do("a stamp and no count", []int{1, 3}, func(c *impl.Coord) { c.Stamps[1] = 1 })
	do("a stamp of a first ask", pending[:1], func(c *impl.Coord) { c.Stamps[1] = 1 })
	do("no stamp of a second ask", pending[:1], func(c *impl.Coord) { c.Counts[1] = 2 })
	do("a stamp of an ask that was the first", pending[:1], func(c *impl.Coord) { c.Counts[0] = 1 })
	do("a count more", all, func(c *impl.Coord) { c.Counts = append(c.Counts, 0) })
	do("a stamp more", all, func(c *impl.Coord) { c.Stamps = append(c.Stamps, 0) })
	do("a count and a stamp more", all, func(c *impl.Coord) { c.Counts, c.Stamps = append(c.Counts, 0), append(c.Stamps, 0) })
	do("a count fewer", all, func(c *impl.Coord) { c.Counts = c.Counts[:2] })
	do("a stamp fewer", all, func(c *impl.Coord) { c.Stamps = c.Stamps[:2] })
	do("no counts and no stamps", all, func(c *impl.Coord) { c.Counts, c.Stamps = nil, nil })
	do("10000 counts", all, func(c *impl.Coord) { c.Counts, c.Stamps = make([]int, 10000), make([]int, 10000) })
}

func breakPend(do func(what string, phases []int, change func(c *impl.Coord))) {
	for i, l := range [][]int{{1}, {0, 1, 2}, {0, 0}, {0, 2, 2}, {2, 0}, {3}, {0, 3}, {-1}, {-1, 0}, {0, math.MaxInt64}, {math.MinInt64}, {1 << 32}, make([]int, 10000)} {
		do("the Pend "+strconv.Itoa(i), []int{0, 1, 3, 4}, func(c *impl.Coord) { c.Pend = l })
	}
	for i, l := range [][]int{{0, 0, 1}, {1, 0}, {0, 1, 3}, {-1, 0, 1}, {0, 1, 1}, {0, 1 << 32}} {
		do("another Pend "+strconv.Itoa(i), pending[:1], func(c *impl.Coord) { c.Pend = l })
	}
	do("no Pend", pending, func(c *impl.Coord) { c.Pend = nil })
	do("no Pend and all stamps", pending[:1], func(c *impl.Coord) { c.Pend, c.Stamps[1] = nil, 800 })
	do("a Pend", []int{0, 1}, func(c *impl.Coord) { c.Pend = []int{0} })
	for _, n := range append(farEnds(), -1, 8, 9) {
		do("Age "+strconv.Itoa(n), all, func(c *impl.Coord) { c.Age = n })
	}
	for n := 1; n < 8; n++ {
		do("an Age of "+strconv.Itoa(n), []int{0, 1, 4}, func(c *impl.Coord) { c.Age = n })
	}
}

func breakGot(do func(what string, phases []int, change func(c *impl.Coord))) {
	for i, a := range wrongAsks() {
		do("the wrong ask "+strconv.Itoa(i), pending[:1], func(c *impl.Coord) { c.Ask = a })
		if a != (impl.Ask{}) {
			do("a wrong ask "+strconv.Itoa(i), []int{0, 1, 3, 4}, func(c *impl.Coord) { c.Ask = a })
		}
	}
	do("an ask", []int{0, 1, 3, 4}, func(c *impl.Coord) { c.Ask = askGet("a") })
	do("a scan", []int{0, 1, 3, 4}, func(c *impl.Coord) { c.Ask = askScan("", "", 1, false) })
	do("a Got", []int{0, 1, 3, 4}, func(c *impl.Coord) { c.Got = []impl.Msg{ofShard(2, telling(dx(3), 1, 900))} })
	do("an empty Got", all, func(c *impl.Coord) { c.Got = []impl.Msg{{}} })
	x := dx(3)
	for i, m := range []impl.Msg{telling(dx(2), 1, 900), telling(impl.Tx{C: 1, E: 5, N: 3}, 1, 900), refusing(x, 1, 6), telling(x, 0, 900), telling(x, 17, 900), telling(x, 1, 0), telling(x, 1, -1), telling(x, 1, impl.MaxNum+1),
		readying(x, 1, 900), asking(x, 1, askGet("q")), voting(x, true), doing(x), wondering(x), telling(x, 1, 900, userPairs(9)...), telling(x, 1, 900, pair("", ""))} {
		do("the Got "+strconv.Itoa(i), pending[:1], func(c *impl.Coord) { c.Got = []impl.Msg{ofShard(2, m)} })
	}
	do("a Got that says yes", pending[:1], func(c *impl.Coord) { c.Got[0].Yes = true })
	do("a Got with an ask", pending[:1], func(c *impl.Coord) { c.Got[0].Ask = askGet("a") })
	for _, shard := range []int{0, 1, 3, 4, -1, math.MaxInt64, math.MinInt64, 2 + 1<<32} {
		do("a Got of the shard "+strconv.Itoa(shard), pending[:1], func(c *impl.Coord) { c.Got[0].Shard = shard })
		do("one more Got of the shard "+strconv.Itoa(shard), pending[:1], func(c *impl.Coord) { c.Got = append(c.Got, ofShard(shard, telling(x, 1, 7))) })
	}
	do("a Got twice", pending[:1], func(c *impl.Coord) { c.Got = append(c.Got, c.Got[0]) })
	do("another Got of the same shard", pending[:1], func(c *impl.Coord) { c.Got = append(c.Got, ofShard(2, telling(x, 2, 7))) })
	do("10000 of Got", pending[:1], func(c *impl.Coord) { c.Got = slices.Repeat(c.Got, 10000) })
	do("a Got of a shard that isn't in it", pending[:1], func(c *impl.Coord) { c.Counts[2], c.Stamps[2] = 0, 0 })
}

func breakDecision(do func(what string, phases []int, change func(c *impl.Coord))) {
	for _, val := range append(wrongDecisions(), "2.5.3:0", "2.5.3:2", "2.5.3:01", "2.5.3:12", "2.5.3:012", "2.5.2:02", "2.5.4:02", "2.4.3:02", "2.6.3:02", "2.1.1:1") {
		do("c is "+val, all[4:], func(c *impl.Coord) { retold(c, pair("c", val)) })
	}
	for _, val := range []string{"2.5.3:02", "2.5.3:0", "2.5.3:1", "2.1.1:012", "2.999.999:2"} {
		do("a decision of "+val, all[:4], func(c *impl.Coord) { retold(c, pair("c", val)) })
	}
	do("no c", all[4:], func(c *impl.Coord) { c.Store = shardStore(pair("e", "5"), pair("C", "2.5.3:02")) })
	do("another count", all[4:], func(c *impl.Coord) { c.Counts[1] = 1 })
	do("a count fewer than decided", all[4:], func(c *impl.Coord) { c.Counts[2] = 0; c.Pend = []int{0} })
	do("another name than decided", all[4:], func(c *impl.Coord) { c.Tx = dx(4) })
}

// breakDesk leaves all that the store tells but one thing as it is.
func breakDesk(do func(what string, phases []int, change func(c *impl.Coord))) {
	for _, n := range []int{1, -1, 2, 1 << 32} {
		do("the Gen and "+strconv.Itoa(n), all, func(c *impl.Coord) { c.Store.Gen += n })
	}
	do("the store's places", all, func(c *impl.Coord) { c.Store.Places[0]++ })
	do("the store has a place more", all, func(c *impl.Coord) { c.Store.Places = append(c.Store.Places, 99) })
	do("the store's data", all, func(c *impl.Coord) { c.Store.Tree = treeWith(append(pairsAt(*c), pair("d", "other"))...) })
	do("something waits for the disk", all, func(c *impl.Coord) { c.Store.Disk = with(c.Store.Disk, impl.Write{At: 99, Bytes: counted(1)}) })
	do("the disk has no meta", all, func(c *impl.Coord) { c.Store.Disk.Sheets[c.Store.Gen%2].Bytes = nil })
	do("the disk has a greater meta", all, func(c *impl.Coord) {
		c.Store.Disk.Sheets[(c.Store.Gen+1)%2].Bytes = metaText(impl.Meta{Gen: c.Store.Gen + 1, Root: c.Store.Places[0]})
	})
	do("the disk has no root", all, func(c *impl.Coord) { c.Store.Disk.Sheets[c.Store.Places[0]].Bytes = nil })
	do("a sheet of the disk is short", all, func(c *impl.Coord) { c.Store.Disk.Sheets[99].Bytes = make([]byte, 511) })
	do("the disk is nothing", all, func(c *impl.Coord) { c.Store.Disk = impl.Disk{} })
	do("the store is nothing", all, func(c *impl.Coord) { c.Store = impl.Store{} })
}

func TestP15CoordOk(t *testing.T) {
	for what, c := range otherCoords() {
		wantCoordOk(t, what, c, true)
	}
	for what, c := range brokenCoords() {
		wantCoordOk(t, what, c, false)
	}
	// As many shards as there may be, and as few.
	c := idleCoord()
	c.Splits, c.Counts, c.Stamps = []string{"a", "b", "c"}, make([]int, 4), make([]int, 4)
	wantCoordOk(t, "four shards", c, true)
	c.Tx, c.Phase, c.Counts, c.Stamps = dx(1), 1, []int{0, 0, 0, 16}, []int{0, 0, 0, 1}
	wantCoordOk(t, "the fourth shard", c, true)
	c.Splits, c.Counts, c.Stamps = nil, []int{16}, []int{1}
	wantCoordOk(t, "one shard", c, true)
	c.Splits, c.Counts, c.Stamps = []string{"a", "b", "c", "d"}, make([]int, 5), make([]int, 5)
	wantCoordOk(t, "five shards", c, false)
}

func wantCallOk(t *testing.T, x impl.Call, want bool) {
	t.Helper()
	wantBool(t, "CallOk "+allText(false, x), impl.CallOk(x), want)
	wantBool(t, "the model of CallOk "+allText(false, x), rightCall(x), want)
}

// wrongCalls: each is wrong in one way.
func wrongCalls() []impl.Call {
	var l []impl.Call
	for _, kind := range append(farEnds(), 0, 5, 6, 1+1<<32, 2+1<<32) {
		l = append(l, impl.Call{Kind: kind}, impl.Call{Kind: kind, Ask: askGet("a")})
	}
	for _, a := range wrongAsks() {
		l = append(l, toAsk(a))
	}
	for _, kind := range []int{1, 3, 4} {
		for _, a := range append(wrongAsks(), askGet("a"), askPut("a", "1"), askDel("a"), askScan("", "", 1, true)) {
			if a != (impl.Ask{}) {
				l = append(l, impl.Call{Kind: kind, Ask: a})
			}
		}
	}
	return l
}

func TestP15CallOk(t *testing.T) {
	for _, x := range []impl.Call{toBegin(), toCommit(), toAbort()} {
		wantCallOk(t, x, true)
	}
	for _, a := range rightAsks() {
		wantCallOk(t, toAsk(a), true)
	}
	for _, x := range wrongCalls() {
		wantCallOk(t, x, false)
	}
}

// rousing: messages that one of the phaseCoords does something for.
func rousing() []impl.Msg {
	x := dx(3)
	return []impl.Msg{ofShard(0, telling(x, 2, 700, userPairs(2)...)), ofShard(1, telling(x, 1, 800)), ofShard(0, refusing(x, 2, 4)), ofShard(0, telling(x, 2, 701)), ofShard(2, voting(x, true)), ofShard(2, voting(x, false)),
		ofShard(0, doing(x)), ofShard(2, doing(x)), ofShard(1, wondering(x)), ofShard(1, wondering(dx(2)))}
}

func someCalls() []impl.Call {
	return []impl.Call{toBegin(), toAsk(askGet("a")), toAsk(askPut("h", "1")), toAsk(askDel("q")), toAsk(askScan("", "", 8, true)), toCommit(), toAbort()}
}

func TestP15WrongCoordsAreRefused(t *testing.T) {
	nothing := &deskModel{}
	for what, c := range brokenCoords() {
		for i, in := range rousing() {
			if i > 1 && (len(c.Got) > 100 || len(c.Counts) > 100) {
				break
			}
			got, out, told := impl.CoordTake(c, in)
			wantCoord(t, "CoordTake: "+what, got, out, told, nothing)
			edits, ok := impl.CoordBatch(c, in)
			if ok || len(edits) > 0 {
				t.Errorf("CoordBatch: %s: %v, %v", what, edits, ok)
			}
		}
		for _, x := range append(someCalls(), impl.Call{}) {
			got, out, told := impl.CoordCall(c, x)
			wantCoord(t, "CoordCall: "+what, got, out, told, nothing)
		}
		got, out, told := impl.CoordTick(c)
		wantCoord(t, "CoordTick: "+what, got, out, told, nothing)
	}
}

func TestP15RightCoordsGoOn(t *testing.T) {
	for what, c := range otherCoords() {
		for _, in := range rousing() {
			in.Tx = impl.Tx{C: c.Id, E: in.Tx.E, N: in.Tx.N}
			got, _, _ := checkHear(t, what, c, in)
			wantBool(t, "CoordOk behind a message: "+what, impl.CoordOk(got), true)
		}
		for _, x := range someCalls() {
			got, _, _ := checkCall(t, what, c, x)
			wantBool(t, "CoordOk behind a call: "+what, impl.CoordOk(got), true)
		}
		got, _, _ := checkAge(t, what, c)
		wantBool(t, "CoordOk behind a tick: "+what, impl.CoordOk(got), true)
	}
}

func TestP15WrongCallsLeaveACoordAsItIs(t *testing.T) {
	for _, c := range phaseCoords() {
		for _, x := range wrongCalls() {
			got, out, told := checkCall(t, "wrong", c, x)
			wantCoord(t, "a wrong call", got, out, told, &deskModel{Coord: c})
		}
	}
}

func TestP15OtherMessagesLeaveACoordAsItIs(t *testing.T) {
	for phase, c := range phaseCoords() {
		same := func(what string, in impl.Msg) {
			t.Helper()
			got, out, told := checkHear(t, what, c, in)
			wantCoord(t, phaseNames[phase]+", "+what+": "+allText(false, in), got, out, told, &deskModel{Coord: c})
		}
		for _, in := range rousing() {
			for _, id := range []int{0, 1, 3, 4, 5, 6, 7, 8, -1, deskId + 1<<32} {
				other := in
				other.Tx.C = id
				same("of another coordinator", other)
			}
			for _, shard := range append(wrongShards(4), 3) {
				same("of no shard", ofShard(shard, in))
			}
			for name, change := range partChanges() {
				other := in
				change(&other)
				if !rightMsg(other) {
					same("with "+name, other)
				}
			}
			for _, x := range someWrongNames() {
				other := in
				other.Tx = x
				same("a wrong name", other)
			}
		}
		for _, x := range []impl.Tx{dx(3), dx(2)} {
			for shard := range 3 {
				for _, in := range []impl.Msg{asking(x, 1, askGet("a")), asking(x, 2, askGet("a")), readying(x, 2, 700), ending(x, true), ending(x, false), {}, {Kind: 8, Tx: x}, {Kind: -1, Tx: x}, {Kind: 0, Tx: x}} {
					same("another kind", ofShard(shard, in))
				}
			}
		}
		// What another phase takes, and what is of another transaction.
		for shard := range 3 {
			for kind, in := range map[int]impl.Msg{2: telling(dx(3), c.Counts[shard]+bit(c.Counts[shard] == 0), 700), 3: voting(dx(3), shard == 0), 4: doing(dx(3))} {
				if kind != phase {
					same("what another phase takes", ofShard(shard, in))
				}
				for _, x := range []impl.Tx{dx(2), dx(4), {C: deskId, E: 4, N: 3}, {C: deskId, E: 6, N: 3}} {
					in.Tx = x
					same("of another transaction", ofShard(shard, in))
				}
			}
		}
	}
}

func TestP15CallBegin(t *testing.T) {
	for phase, c := range phaseCoords() {
		for _, num := range []int{0, 3, 998, 999} {
			c.Num = num
			got, out, told := checkCall(t, "begin", c, toBegin())
			want := modelOf(c)
			switch {
			case phase > 0:
				want.told = []impl.Reply{replyOf(dx(3), 1, 1)}
			case num == 999:
				want.told = []impl.Reply{replyOf(dx(3), 1, 9)}
			default:
				want.Num, want.Phase, want.Tx = num+1, 1, dx(num+1)
				want.told = []impl.Reply{replyOf(dx(num+1), 1, 0)}
			}
			wantCoord(t, "begin, "+phaseNames[phase], got, out, told, want)
		}
	}
	p := &deskPlay{t, idleCoord()}
	for _, x := range []impl.Call{toCommit(), toAbort()} {
		p.call(x, replyOf(impl.Tx{}, x.Kind, 1))
	}
	p.c.Num = 998
	p.call(toAsk(askGet("a")), replyAsk(impl.Tx{}, askGet("a"), 1))
	p.call(toBegin(), replyOf(dx(999), 1, 0))
	p.call(toCommit(), replyOf(dx(999), 3, 0))
	p.call(toBegin(), replyOf(dx(999), 1, 9))
	p.c.Tx = impl.Tx{C: -5, E: 1 << 40, N: -1}
	p.call(toBegin(), replyOf(p.c.Tx, 1, 9))
	p.call(toAbort(), replyOf(p.c.Tx, 4, 1))
	p.reopen()
	p.call(toBegin(), replyOf(impl.Tx{C: deskId, E: deskEpoch + 1, N: 1}, 1, 0))
}

func TestP15CallsInEachPhase(t *testing.T) {
	ask := askPut("h", "1")
	for phase, c := range phaseCoords() {
		refused := func(x impl.Call) {
			t.Helper()
			got, out, told := checkCall(t, "refused", c, x)
			wantCoord(t, phaseNames[phase]+" refuses", got, out, told, &deskModel{Coord: c, told: []impl.Reply{{Kind: x.Kind, Tx: dx(3), Ask: x.Ask, Code: 1}}})
		}
		if phase != 1 {
			refused(toAsk(ask))
			refused(toAsk(askScan("", "", 1, true)))
			refused(toCommit())
		}
		if phase == 0 || phase == 4 {
			refused(toAbort())
			continue
		}
		p := &deskPlay{t, c}
		p.call(toAbort(), ends(c, false, replyOf(dx(3), 4, 0))...)
		want := modelOf(c)
		want.idle()
		wantCoord(t, "aborted", p.c, nil, nil, want)
	}
	p := &deskPlay{t, openCoord()}
	p.call(toAsk(ask), ofShard(1, asking(dx(3), 1, ask)))
	if c := p.c; c.Phase != 2 || !slices.Equal(c.Counts, []int{2, 1, 1}) || !slices.Equal(c.Stamps, []int{700, 0, 900}) || !slices.Equal(c.Pend, []int{1}) || c.Ask != ask || c.Age != 0 || len(c.Got) > 0 {
		t.Errorf("asked: %s", coordText(c))
	}
	p = &deskPlay{t, openCoord()}
	p.call(toCommit(), ofShard(0, readying(dx(3), 2, 700)), ofShard(2, readying(dx(3), 1, 900)))
	if c := p.c; c.Phase != 3 || !slices.Equal(c.Counts, []int{2, 0, 1}) || !slices.Equal(c.Stamps, []int{700, 0, 900}) || !slices.Equal(c.Pend, []int{0, 2}) || c.Age != 0 {
		t.Errorf("ready: %s", coordText(c))
	}
	// No shard is in it: nobody need vote.
	c := openCoord()
	c.Counts, c.Stamps = make([]int, 3), make([]int, 3)
	p = &deskPlay{t, c}
	p.call(toCommit(), replyOf(dx(3), 3, 0))
	wantBool(t, "a commit of nothing", p.c.Phase == 0 && p.c.Tx == dx(3) && p.c.Store.Gen == c.Store.Gen, true)
	p = &deskPlay{t, c}
	p.call(toAbort(), replyOf(dx(3), 4, 0))
}

// Who is asked: the shard of a key, or those of a range, each for its part.
func TestP15WhoIsAsked(t *testing.T) {
	for n := range 4 {
		splits := []string{"b", "d", "dd"}[:n]
		c := idleCoord()
		c.Splits, c.Counts, c.Stamps = splits, make([]int, n+1), make([]int, n+1)
		c.Phase, c.Tx = 1, dx(3)
		for _, k := range append(someUsers(), "b", "b\x00", "c", "d", "d\x00", "dc", "dd", "de") {
			for _, a := range []impl.Ask{askGet(k), askPut(k, "1"), askDel(k)} {
				got, out, _ := checkCall(t, "a key", c, toAsk(a))
				wantBool(t, "one shard", len(out) == 1 && len(got.Pend) == 1 && out[0].Shard == got.Pend[0] && out[0].Ask == a && isIn(rangeOf(splits, out[0].Shard), k), true)
			}
		}
		for i, r := range append(someReaches(), impl.Range{Lo: "b", Hi: "d"}, impl.Range{Lo: "b", Hi: "dd"}, impl.Range{Lo: "a", Hi: "b"}, impl.Range{Lo: "d"}, impl.Range{Lo: "c", Hi: "d\x00"}) {
			a := askScan(r.Lo, r.Hi, 1+i%8, i%2 == 0)
			got, out, _ := checkCall(t, "a scan", c, toAsk(a))
			var shards []int
			lo := r.Lo
			for _, m := range out {
				shards = append(shards, m.Shard)
				wantBool(t, "the parts are all of the range", m.Ask.Range.Lo == lo && m.Ask.Most == a.Most && m.Ask.Back == a.Back && impl.MsgOk(m) && m.Num == 1, true)
				lo = m.Ask.Range.Hi
			}
			wantBool(t, "up to its end", lo == r.Hi && len(out) > 0 && slices.Equal(shards, got.Pend) && slices.Equal(shards, inIt(got.Counts)), true)
		}
	}
}

// rangeOf is the range of a shard.
func rangeOf(splits []string, i int) impl.Range {
	r, _ := commonOf(splits, i, impl.Range{})
	return r
}

func TestP15TheLastAskOfAShard(t *testing.T) {
	x := dx(3)
	for _, full := range []int{0, 1, 2} {
		for _, a := range []impl.Ask{askGet("a"), askPut("h", "1"), askDel("q"), askScan("", "", 8, true), askScan("a", "h", 1, false), askScan("h", "q", 1, false), askScan("q", "", 1, false)} {
			for _, count := range []int{15, 16} {
				c := openCoord()
				c.Counts, c.Stamps = []int{1, 1, 1}, []int{7, 8, 9}
				c.Counts[full] = count
				got, out, told := checkCall(t, "a last ask", c, toAsk(a))
				if !slices.Contains(askedShards(deskSplits, a), full) || count == 15 {
					wantBool(t, "it is asked", got.Phase == 2 && len(told) == 0 && impl.CoordOk(got), true)
					continue
				}
				want := modelOf(c)
				want.idle()
				want.out = []impl.Msg{ofShard(0, ending(x, false)), ofShard(1, ending(x, false)), ofShard(2, ending(x, false))}
				want.told = []impl.Reply{replyAsk(x, a, 5)}
				wantCoord(t, "a 17th ask", got, out, told, want)
			}
		}
	}
}

func TestP15WhatIsTold(t *testing.T) {
	x := dx(3)
	c := askCoord()
	scan := c.Ask
	same := func(what string, in impl.Msg) {
		t.Helper()
		got, out, told := checkHear(t, what, c, in)
		wantCoord(t, what, got, out, told, &deskModel{Coord: c})
	}
	same("a shard that isn't in Pend", ofShard(2, telling(x, 1, 900)))
	same("a code of a shard that isn't in Pend", ofShard(2, refusing(x, 1, 6)))
	for _, num := range []int{1, 3, 16} {
		same("another number", ofShard(0, telling(x, num, 700)))
		same("another number with a code", ofShard(0, refusing(x, num, 4)))
		if num > 1 {
			same("another number", ofShard(1, telling(x, num, 800)))
		}
	}
	over := modelOf(c)
	over.idle()
	over.out = []impl.Msg{ofShard(0, ending(x, false)), ofShard(1, ending(x, false)), ofShard(2, ending(x, false))}
	for code := 1; code < 10; code++ {
		for shard, num := range []int{2, 1} {
			for _, pairs := range [][]impl.Pair{nil, userPairs(3)} {
				in := ofShard(shard, refusing(x, num, code))
				in.Pairs = pairs
				got, out, told := checkHear(t, "a code", c, in)
				over.told = []impl.Reply{replyAsk(x, scan, code)}
				wantCoord(t, "a code", got, out, told, over)
			}
		}
	}
	for _, stamp := range []int{1, 699, 701, 800, 900, impl.MaxNum} {
		got, out, told := checkHear(t, "another stamp", c, ofShard(0, telling(x, 2, stamp, pair("b", "2"))))
		over.told = []impl.Reply{replyAsk(x, scan, 6)}
		wantCoord(t, "another stamp", got, out, told, over)
		// The first one that is told is the one that counts from then on.
		p := &deskPlay{t, c}
		p.hear(ofShard(1, telling(x, 1, stamp)))
		wantBool(t, "the first stamp", slices.Equal(p.c.Stamps, []int{700, stamp, 900}) && slices.Equal(p.c.Pend, []int{0}) && len(p.c.Got) == 2 && p.c.Age == 3 && p.c.Phase == 2, true)
	}
	p := &deskPlay{t, c}
	p.hear(ofShard(0, telling(x, 2, 700, pair("b", "2"))))
	wantBool(t, "the known stamp", slices.Equal(p.c.Stamps, []int{700, 0, 900}) && slices.Equal(p.c.Pend, []int{1}) && p.c.Age == 3, true)
	p.hear(ofShard(0, telling(x, 2, 700, pair("b", "other"))))
	p.hear(ofShard(1, telling(x, 1, 800)), replyAsk(x, scan, 0, pair("b", "2"), pair("q", "5"), pair("r", "6")))
	if c := p.c; c.Phase != 1 || c.Ask != (impl.Ask{}) || len(c.Got) > 0 || c.Age != 0 || len(c.Pend) > 0 || !slices.Equal(c.Counts, []int{2, 1, 1}) || !slices.Equal(c.Stamps, []int{700, 800, 900}) {
		t.Errorf("all told: %s", coordText(c))
	}
}

// In whatever order the shards tell, the pairs come in theirs.
func TestP15ThePairsOfSeveralShards(t *testing.T) {
	x := dx(3)
	told := [][]impl.Pair{{pair("a", "1"), pair("b", "2"), pair("c", "3")}, {pair("g", "4"), pair("h", "5"), pair("i", "6")}, {pair("p", "7"), pair("q", "8"), pair("r", "9")}}
	for _, order := range orders(3) {
		for most := 1; most < 9; most++ {
			for _, back := range []bool{false, true} {
				var want []impl.Pair
				parts := cloneLists(told)
				for i := range parts {
					if back {
						slices.Reverse(parts[i])
					}
					parts[i] = parts[i][:min(3, most)]
				}
				for i := range parts {
					if back {
						i = 2 - i
					}
					want = append(want, parts[i]...)
				}
				p := &deskPlay{t, openCoord()}
				p.c.Counts, p.c.Stamps = make([]int, 3), make([]int, 3)
				scan := askScan("", "", most, back)
				p.call(toAsk(scan), ofShard(0, asking(x, 1, askScan("", "g", most, back))), ofShard(1, asking(x, 1, askScan("g", "p", most, back))), ofShard(2, asking(x, 1, askScan("p", "", most, back))))
				p.hear(ofShard(order[0], telling(x, 1, 7, parts[order[0]]...)))
				p.hear(ofShard(order[1], telling(x, 1, 8, parts[order[1]]...)))
				p.hear(ofShard(order[2], telling(x, 1, 9, parts[order[2]]...)), replyAsk(x, scan, 0, want[:min(most, len(want))]...))
			}
		}
	}
	// Of one key all that is told comes.
	p := &deskPlay{t, openCoord()}
	p.call(toAsk(askGet("h")), ofShard(1, asking(x, 1, askGet("h"))))
	p.hear(ofShard(1, telling(x, 1, 7, userPairs(8)...)), replyAsk(x, askGet("h"), 0, userPairs(8)...))
	p.call(toAsk(askGet("h")), ofShard(1, asking(x, 2, askGet("h"))))
	p.hear(ofShard(1, telling(x, 2, 7)), replyAsk(x, askGet("h"), 0))
}

func cloneLists(l [][]impl.Pair) [][]impl.Pair {
	l = slices.Clone(l)
	for i := range l {
		l[i] = slices.Clone(l[i])
	}
	return l
}

// crampedDesks: stores with the pairs of c that nothing can be committed to but,
// in the last one, an edit that needs no pair.
func crampedDesks(c impl.Coord) map[string]impl.Store {
	pairs := pairsAt(c)
	full := slices.Clone(pairs)
	for i := range 200 - len(pairs) {
		full = append(full, pair("z"+numbered(i), ""))
	}
	tree := treeWith(pairs...)
	return map[string]impl.Store{
		"the last Gen": settled(tree, impl.MaxNum, 40, upFrom(2, 20)),
		"no sheets":    settled(tree, 4, 2+len(tree.Nodes), upFrom(2, 20)),
		"200 pairs":    shardStore(full...),
	}
}

func TestP15Votes(t *testing.T) {
	x := dx(3)
	c := readyCoord()
	for _, yes := range []bool{false, true} {
		for _, shard := range []int{0, 1} {
			got, out, told := checkHear(t, "one that isn't in Pend", c, ofShard(shard, voting(x, yes)))
			wantCoord(t, "one that isn't in Pend", got, out, told, &deskModel{Coord: c})
		}
	}
	over := modelOf(c)
	over.idle()
	over.out = []impl.Msg{ofShard(0, ending(x, false)), ofShard(2, ending(x, false))}
	over.told = []impl.Reply{replyOf(x, 3, 7)}
	got, out, told := checkHear(t, "no", c, ofShard(2, voting(x, false)))
	wantCoord(t, "no", got, out, told, over)

	two := readyCoord()
	two.Pend = []int{0, 2}
	for _, shard := range two.Pend {
		got, out, told := checkHear(t, "the first yes", two, ofShard(shard, voting(x, true)))
		want := modelOf(two)
		want.Pend = []int{2 - shard}
		wantCoord(t, "the first yes", got, out, told, want)
		_, ok := impl.CoordBatch(two, ofShard(shard, voting(x, true)))
		wantBool(t, "nothing is committed for it", ok, false)
	}
	got, out, told = checkHear(t, "the last yes", c, ofShard(2, voting(x, true)))
	if got.Phase != 4 || !slices.Equal(got.Pend, []int{0, 2}) || !slices.Equal(got.Counts, []int{2, 0, 1}) || slices.Max(got.Stamps) > 0 || got.Age != 0 || len(out) != 2 || len(told) != 1 {
		t.Errorf("the last yes: %s", coordText(got))
	}
	wantGet(t, got.Store.Tree, "c", "2.5.3:02", true)
	for what, store := range crampedDesks(c) {
		cramped := readyCoord()
		cramped.Store = store
		over = modelOf(cramped)
		over.idle()
		over.out = []impl.Msg{ofShard(0, ending(x, false)), ofShard(2, ending(x, false))}
		over.told = []impl.Reply{replyOf(x, 3, 9)}
		got, out, told := checkHear(t, what, cramped, ofShard(2, voting(x, true)))
		wantCoord(t, what, got, out, told, over)
		edits, ok := impl.CoordBatch(cramped, ofShard(2, voting(x, true)))
		wantBool(t, "CoordBatch: "+what, ok || len(edits) > 0, false)
	}
	// A value that isn't as said gives way.
	for _, val := range wrongDecisions() {
		other := readyCoord()
		retold(&other, pair("c", val))
		got, _, _ := checkHear(t, "c was "+val, other, ofShard(2, voting(x, true)))
		wantGet(t, got.Store.Tree, "c", "2.5.3:02", true)
	}
	for n := range 4 {
		many := idleCoord()
		many.Splits, many.Counts, many.Stamps = []string{"b", "d", "f"}[:n], make([]int, n+1), make([]int, n+1)
		many.Tx, many.Phase, many.Pend = impl.Tx{C: deskId, E: 999, N: 999}, 3, []int{n}
		for i := range n + 1 {
			many.Counts[i], many.Stamps[i] = 16-i, i+1
		}
		edits, ok := impl.CoordBatch(many, ofShard(n, voting(many.Tx, true)))
		wantBool(t, "CoordBatch", ok, true)
		wantEdits(t, "CoordBatch", edits, puts("c", "2.999.999:"+"0123"[:n+1]))
		checkHear(t, "all shards", many, ofShard(n, voting(many.Tx, true)))
	}
}

func TestP15Dones(t *testing.T) {
	x := dx(3)
	c := endCoord()
	got, out, told := checkHear(t, "one that isn't in it", c, ofShard(1, doing(x)))
	wantCoord(t, "one that isn't in it", got, out, told, &deskModel{Coord: c})
	for _, shard := range c.Pend {
		want := modelOf(c)
		want.Pend = []int{2 - shard}
		got, out, told := checkHear(t, "one of several", c, ofShard(shard, doing(x)))
		wantCoord(t, "one of several", got, out, told, want)
		again, out, told := checkHear(t, "one that is done", got, ofShard(shard, doing(x)))
		wantCoord(t, "one that is done", again, out, told, want)
		last := ofShard(2-shard, doing(x))
		edits, ok := impl.CoordBatch(got, last)
		wantBool(t, "CoordBatch", ok, true)
		wantEdits(t, "CoordBatch", edits, goes("c"))
		p := &deskPlay{t, got}
		p.hear(last)
		if p.c.Phase != 0 || p.c.Tx != x || p.c.Num != 3 || p.c.Store.Gen != c.Store.Gen+1 || slices.Max(p.c.Counts) > 0 {
			t.Errorf("all are done: %s", coordText(p.c))
		}
		wantGet(t, p.c.Store.Tree, "c", "", false)
		wantGet(t, p.c.Store.Tree, "e", "5", true)
		for what, store := range crampedDesks(got) {
			cramped := cloneCoord(got)
			cramped.Store = store
			after, out, told := checkHear(t, what, cramped, last)
			if what == "200 pairs" {
				wantBool(t, "taking out needs no pair", after.Phase == 0, true)
				continue
			}
			wantCoord(t, what, after, out, told, &deskModel{Coord: cramped})
			_, ok := impl.CoordBatch(cramped, last)
			wantBool(t, "CoordBatch: "+what, ok, false)
		}
	}
}

func TestP15WhatIsAskedFor(t *testing.T) {
	for phase, c := range phaseCoords() {
		for shard := range 3 {
			for _, x := range []impl.Tx{dx(1), dx(2), dx(3), dx(4), {C: deskId, E: 1, N: 3}} {
				want := &deskModel{Coord: c, out: []impl.Msg{ofShard(shard, ending(x, phase == 4 && x == dx(3)))}}
				if x == dx(3) && phase > 0 && phase < 4 {
					want.out = nil
				}
				got, out, told := checkHear(t, "what", c, ofShard(shard, wondering(x)))
				wantCoord(t, "what, "+phaseNames[phase], got, out, told, want)
			}
		}
	}
}

func TestP15CoordTick(t *testing.T) {
	x := dx(3)
	for age := range 8 {
		for phase, c := range phaseCoords() {
			c.Age = age
			want := modelOf(c)
			switch phase {
			case 2:
				want.Age++
				want.out = []impl.Msg{ofShard(0, asking(x, 2, askScan("b", "g", 3, false))), ofShard(1, asking(x, 1, askScan("g", "p", 3, false)))}
				if age == 7 {
					want.idle()
					want.out = []impl.Msg{ofShard(0, ending(x, false)), ofShard(1, ending(x, false)), ofShard(2, ending(x, false))}
					want.told = []impl.Reply{replyAsk(x, c.Ask, 8)}
				}
			case 3:
				want.Age++
				want.out = []impl.Msg{ofShard(2, readying(x, 1, 900))}
				if age == 7 {
					want.idle()
					want.out = []impl.Msg{ofShard(0, ending(x, false)), ofShard(2, ending(x, false))}
					want.told = []impl.Reply{replyOf(x, 3, 8)}
				}
			case 4:
				want.out = []impl.Msg{ofShard(0, ending(x, true)), ofShard(2, ending(x, true))}
				fallthrough
			default:
				if age > 0 {
					want = &deskModel{}
				}
			}
			got, out, told := impl.CoordTick(c)
			wantCoord(t, phaseNames[phase]+", a tick at the age "+strconv.Itoa(age), got, out, told, want)
		}
	}
	c := askCoord()
	for _, a := range []impl.Ask{askGet("h"), askPut("h", "1"), askDel("h")} {
		c.Ask, c.Pend, c.Stamps = a, []int{1}, []int{700, 0, 900}
		_, out, _ := checkAge(t, "one key", c)
		wantBool(t, "one key", sameMsgs(out, []impl.Msg{ofShard(1, asking(x, 1, a))}), true)
	}
}

// A coordinator may be right though one of Pend isn't one that its ask is for:
// that one is sent the ask as it stands.
func TestP15OneThatMustAnswerWhatItIsNotAskedFor(t *testing.T) {
	x := dx(3)
	c := askCoord()
	c.Ask = askScan("g", "h", 3, true)
	p := &deskPlay{t, c}
	p.tick(ofShard(0, asking(x, 2, c.Ask)), ofShard(1, asking(x, 1, c.Ask)))
	p.c.Ask = askGet("q")
	p.tick(ofShard(0, asking(x, 2, askGet("q"))), ofShard(1, asking(x, 1, askGet("q"))))
	p.hear(ofShard(0, telling(x, 2, 700, pair("z", "1"), pair("a", "2"))))
	p.hear(ofShard(1, telling(x, 1, 7, pair("h", "3"))), replyAsk(x, askGet("q"), 0, pair("z", "1"), pair("a", "2"), pair("h", "3"), pair("q", "5"), pair("r", "6")))
}

// thrownCoord is a right coordinator in a state that no life need lead to.
func thrownCoord(d *dice) impl.Coord {
	splits := [][]string{nil, {"c"}, {"b", "d"}, {"b", "c", "d"}}[d.below(4)]
	n := len(splits) + 1
	c := impl.Coord{Id: d.below(8), Splits: splits, Epoch: 1 + d.below(999), Num: []int{0, 5, 998, 999}[d.below(4)], Phase: d.below(5), Counts: make([]int, n), Stamps: make([]int, n)}
	c.Tx = impl.Tx{C: c.Id, E: 1 + d.below(3), N: 1 + d.below(3)}
	val := []string{"", "q", "9.1.1:0"}[d.below(3)]
	if c.Phase > 0 {
		throwShards(d, &c)
	} else if d.below(3) == 0 {
		c.Tx = impl.Tx{}
	}
	if c.Phase == 2 {
		throwAsk(d, &c)
	}
	if c.Phase == 2 || c.Phase == 3 {
		c.Age = []int{0, 3, 6, 7}[d.below(4)]
	}
	if c.Phase == 4 {
		val = dotted(c.Tx) + ":"
		for _, i := range inIt(c.Counts) {
			val += strconv.Itoa(i)
		}
	}
	pairs := append(otherData(d.below(4)), pair("e", strconv.Itoa(c.Epoch)))
	if val != "" {
		pairs = append(pairs, pair("c", val))
	}
	tree := treeWith(pairs...)
	size := 2 + len(tree.Nodes) + []int{60, 60, 60, 2, 1, 0}[d.below(6)]
	c.Store = settled(tree, []int{4, 5, 4, 5, impl.MaxNum}[d.below(5)], size, scattered(d, size))
	return c
}

// throwShards throws who is in it and who must answer, at least one where the
// phase asks for that.
func throwShards(d *dice, c *impl.Coord) {
	for i := range c.Counts {
		c.Counts[i] = []int{0, 1, 1, 2, 15, 16}[d.below(6)]
	}
	if sure := d.below(len(c.Counts)); c.Phase > 1 {
		c.Counts[sure] = max(1, c.Counts[sure])
	}
	in := inIt(c.Counts)
	if c.Phase > 1 {
		sure := in[d.below(len(in))]
		c.Pend = slices.DeleteFunc(slices.Clone(in), func(i int) bool { return i != sure && d.below(2) == 0 })
	}
	for _, i := range in {
		if c.Phase < 4 && !(c.Phase == 2 && c.Counts[i] == 1 && slices.Contains(c.Pend, i)) {
			c.Stamps[i] = 1 + d.below(3)
		}
	}
}

func throwAsk(d *dice, c *impl.Coord) {
	k := "abcde"[d.below(5):][:1]
	lo := d.below(4)
	c.Ask = []impl.Ask{askGet(k), askPut(k, "1"), askDel(k), askScan("abcde"[lo:][:1], []string{"", "e", "f"}[d.below(3)], 1+d.below(8), false), askScan("", "", 1+d.below(8), true)}[d.below(5)]
	for i := range c.Counts {
		if c.Counts[i] > 0 && !slices.Contains(c.Pend, i) && d.below(3) > 0 {
			c.Got = append(c.Got, ofShard(i, telling(c.Tx, 1+d.below(16), 1+d.below(9), thrownUserPairs(d, d.below(5))...)))
		}
	}
	if d.below(2) == 0 {
		slices.Reverse(c.Got)
	}
}

// thrownNews is a message for a coordinator, mostly one that something comes of.
func thrownNews(d *dice, c impl.Coord) impl.Msg {
	x, shard := c.Tx, d.below(len(c.Counts))
	if d.below(12) == 0 || !rightName(x) {
		x = impl.Tx{C: c.Id, E: 1 + d.below(3), N: 1 + d.below(3)}
	}
	if len(c.Pend) > 0 && d.below(8) > 0 {
		shard = c.Pend[d.below(len(c.Pend))]
	}
	num := max(1, min(16, c.Counts[shard]+[]int{0, 0, 0, 0, 0, 0, 1, -1}[d.below(8)]))
	stamp := c.Stamps[shard]
	if stamp == 0 || d.below(12) == 0 {
		stamp = 1 + d.below(3)
	}
	kind := []int{7, 7, 2, 4, 6}[c.Phase]
	if d.below(8) == 0 {
		kind = 1 + d.below(7)
	}
	switch kind {
	case 2:
		if d.below(10) == 0 {
			return ofShard(shard, refusing(x, num, 1+d.below(9)))
		}
		return ofShard(shard, telling(x, num, stamp, thrownUserPairs(d, d.below(4))...))
	case 4:
		return ofShard(shard, voting(x, d.below(8) > 0))
	case 6:
		return ofShard(shard, doing(x))
	case 7:
		return ofShard(shard, wondering(x))
	}
	return thrownMsg(d)
}

func thrownCall(d *dice) impl.Call {
	k := "abcde"[d.below(5):][:1]
	switch d.below(10) {
	case 0, 1:
		return toBegin()
	case 2, 3:
		return toCommit()
	case 4:
		return toAbort()
	case 5:
		return toAsk(askScan("", "", 1+d.below(8), d.below(2) == 0))
	case 6:
		return toAsk(askPut(k, "v"))
	case 7:
		return toAsk(thrownAsk(d))
	}
	return toAsk(askGet(k))
}

func TestP15ThrownCoords(t *testing.T) {
	throw := dice(1120)
	told, sent, commits := map[int]int{}, map[int]int{}, 0
	count := func(got impl.Coord, out []impl.Msg, r []impl.Reply) {
		wantBool(t, "CoordOk behind it", impl.CoordOk(got), true)
		for _, m := range out {
			sent[2*m.Kind+bit(m.Yes)]++
		}
		for _, x := range r {
			told[10*x.Kind+x.Code]++
		}
	}
	for range 4000 {
		c := thrownCoord(&throw)
		wantCoordOk(t, "a thrown coordinator", c, true)
		for range 3 {
			got, out, r := checkHear(t, "a thrown coordinator", c, thrownNews(&throw, c))
			count(got, out, r)
			commits += bit(got.Store.Gen > c.Store.Gen)
		}
		for range 2 {
			count(checkCall(t, "a thrown coordinator", c, thrownCall(&throw)))
		}
		count(checkAge(t, "a thrown coordinator", c))
		if t.Failed() {
			t.Fatalf("the coordinator was %s", coordText(c))
		}
	}
	for _, kind := range []int{10, 11, 19, 20, 21, 25, 26, 28, 30, 31, 37, 38, 39, 40, 41} {
		if told[kind] < 20 {
			t.Errorf("only %d replies of the kind and code %d", told[kind], kind)
		}
	}
	for _, kind := range []int{2, 6, 10, 11} {
		if sent[kind] < 100 {
			t.Errorf("only %d messages of the kind %d", sent[kind]/2, kind)
		}
	}
	if commits < 200 {
		t.Errorf("only %d commits", commits)
	}
}

// deskLives are thrown lives of coordinators, on disks with room and with little;
// at each moment look is told the coordinator ahead of it, what came in, the one
// behind it, and what it sent and replied. A message of no kind is a call, a tick
// or an opening.
func deskLives(t *testing.T, seed, steps int, look func(before impl.Coord, in impl.Msg, after impl.Coord, out []impl.Msg, told []impl.Reply)) {
	t.Helper()
	throw := dice(seed)
	for i, size := range []int{40, 40, 5, 4, 3} {
		st, _ := impl.StoreNew(size)
		splits := [][]string{{"c"}, {"b", "c", "d"}, nil}[i%3]
		c, code := impl.CoordOpen(i, splits, st.Disk)
		if code != 0 {
			t.Fatalf("a new coordinator has code %d", code)
		}
		for range steps {
			before, in := c, impl.Msg{}
			var out []impl.Msg
			var told []impl.Reply
			switch throw.below(16) {
			case 0:
				c, out, told = checkAge(t, "a life", c)
			case 1:
				if throw.below(5) == 0 && c.Epoch < 900 && size > 3 {
					c, code = checkDesk(t, "a life", i, splits, c.Store.Disk)
				}
			case 2, 3, 4:
				c, out, told = checkCall(t, "a life", c, thrownCall(&throw))
			default:
				in = thrownNews(&throw, c)
				if c.Phase < 2 && throw.below(8) > 0 {
					in = impl.Msg{}
					c, out, told = checkCall(t, "a life", c, thrownCall(&throw))
				} else {
					c, out, told = checkHear(t, "a life", c, in)
				}
			}
			if code != 0 || t.Failed() || !impl.CoordOk(c) {
				t.Fatalf("a life ends: code %d, %s", code, coordText(c))
			}
			look(before, in, c, out, told)
		}
	}
}

// Whoever hears yes, hears of what stands on the disk by then, and so as long as
// not all are done; whoever hears no, never hears yes again.
func TestP11LivesTellWhatStandsOnTheDisk(t *testing.T) {
	var fates map[impl.Tx]bool
	heard := map[bool]int{}
	gone := 0
	deskLives(t, 1101, 4000, func(before impl.Coord, in impl.Msg, after impl.Coord, out []impl.Msg, told []impl.Reply) {
		if before.Epoch == 1 && before.Num == 0 {
			fates = map[impl.Tx]bool{}
		}
		said := func(x impl.Tx, yes bool) {
			t.Helper()
			if x.E > after.Epoch || x.E == after.Epoch && x.N > after.Num {
				// One that isn't begun yet, and that nobody can know of.
				return
			}
			heard[yes]++
			fate, there := fates[x]
			if there && fate && !yes {
				wantBool(t, "a decision is forgotten when all are done", after.Phase == 0 || after.Tx != x, true)
				return
			}
			wantBool(t, "an answer stays as it is", !there || fate == yes, true)
			fates[x] = yes
			if yes {
				_, shards, ok := decidedIn(pairsAt(after), after.Id, len(after.Counts))
				wantBool(t, "what is told stands on the disk", ok && after.Tx == x && slices.Equal(shards, inIt(after.Counts)), true)
			}
		}
		for _, m := range out {
			if m.Kind == 5 {
				said(m.Tx, m.Yes)
			}
		}
		for _, r := range told {
			if r.Kind == 3 && r.Code == 0 && len(inIt(before.Counts)) > 0 {
				said(r.Tx, true)
			}
		}
		if before.Phase == 4 && after.Phase != 4 {
			gone++
			wantBool(t, "only the last done ends it", in.Kind == 6 && len(before.Pend) == 1 && before.Pend[0] == in.Shard && len(told) == 0, true)
		}
		if before.Phase == 4 && after.Phase == 4 {
			wantBool(t, "a decision stays", before.Tx == after.Tx && slices.Equal(inIt(before.Counts), inIt(after.Counts)), true)
		}
	})
	if heard[true] < 300 || heard[false] < 300 || gone < 30 {
		t.Errorf("only %v answers, and %d decisions that were done", heard, gone)
	}
}

func TestP11LivesCommitWhatCoordBatchTells(t *testing.T) {
	commits := 0
	deskLives(t, 1102, 1000, func(before impl.Coord, in impl.Msg, after impl.Coord, out []impl.Msg, told []impl.Reply) {
		if in.Kind == 0 {
			return
		}
		edits, ok := impl.CoordBatch(before, in)
		if !ok {
			wantBool(t, "without a batch the store stays", sameStore(before.Store, after.Store), true)
			return
		}
		commits++
		made, code := impl.Commit(before.Store, edits)
		wantStore(t, "the batch", made, code, after.Store)
	})
	if commits < 50 {
		t.Errorf("only %d commits", commits)
	}
}

// coordWithRoom is a coordinator whose lists all have room behind them.
func coordWithRoom(c impl.Coord) impl.Coord {
	c = cloneCoord(c)
	c.Store = givenOf(c.Store, impl.Tree{}, nil, nil).Store
	for i, m := range c.Got {
		c.Got[i].Pairs = marked(m.Pairs, pair("mark", ""))
	}
	c.Splits, c.Got = marked(c.Splits, "mark"), marked(c.Got, impl.Msg{Kind: -7})
	c.Counts, c.Stamps, c.Pend = marked(c.Counts, -7), marked(c.Stamps, -7), marked(c.Pend, -7)
	return c
}

func coordAnswers(c impl.Coord, x impl.Call, in impl.Msg) map[string][]any {
	opened, _ := impl.CoordOpen(c.Id, c.Splits, c.Store.Disk)
	called, sent, told := impl.CoordCall(c, x)
	taken, out, said := impl.CoordTake(c, in)
	ticked, more, last := impl.CoordTick(c)
	batch, _ := impl.CoordBatch(c, in)
	impl.CoordOk(c)
	impl.CallOk(x)
	return map[string][]any{"CoordOpen": {opened}, "CoordCall": {called, sent, told}, "CoordTake": {taken, out, said}, "CoordTick": {ticked, more, last}, "CoordBatch": {batch}}
}

// listsOf are the lists of arguments, each alone, as they may be one memory.
func listsOf(c impl.Coord, in impl.Msg) []any {
	l := []any{c.Store, c.Splits, c.Counts, c.Stamps, c.Pend, in.Pairs}
	bare := slices.Clone(c.Got)
	for i, m := range bare {
		l = append(l, m.Pairs)
		bare[i].Pairs = nil
	}
	return append(l, bare, c.Got[:0])
}

func checkCoordMemory(t *testing.T, what string, c impl.Coord, x impl.Call, in impl.Msg) {
	t.Helper()
	told := askTwice(t, what, func() map[string][]any { return coordAnswers(c, x, in) }, c, in)
	wantApart(t, what, told, listsOf(c, in)...)
}

func TestP15CoordsAreNewMemory(t *testing.T) {
	calls := someCalls()
	for phase, c := range phaseCoords() {
		for i, in := range append(rousing(), impl.Msg{}, ofShard(1, telling(dx(3), 1, 7, userPairs(3)...))) {
			in.Pairs = marked(in.Pairs, pair("mark", ""))
			checkCoordMemory(t, phaseNames[phase], coordWithRoom(c), calls[i%len(calls)], in)
		}
	}
	throw := dice(1130)
	for range 300 {
		c := thrownCoord(&throw)
		in := thrownNews(&throw, c)
		in.Pairs = marked(in.Pairs, pair("mark", ""))
		checkCoordMemory(t, "thrown", coordWithRoom(c), thrownCall(&throw), in)
	}
	// The last to tell: the pairs come into a reply and into no list else.
	c := askCoord()
	c.Pend, c.Stamps[1] = []int{0}, 800
	checkCoordMemory(t, "the last to tell", coordWithRoom(c), toAbort(), ofShard(0, telling(dx(3), 2, 700, marked(userPairs(4), pair("mark", ""))...)))
}

// The lists of a coordinator may be pieces of one memory; those of an answer not.
func TestP15CoordsOfOneMemoryAreApart(t *testing.T) {
	numbers := []int{1, 2, 2, 3, 4}
	pairs := userPairs(6)
	c := askCoord()
	c.Splits = []string{"b", "d", "f"}
	c.Counts, c.Pend, c.Stamps = numbers[1:5], numbers[2:4], numbers[1:5]
	c.Got = []impl.Msg{ofShard(0, telling(dx(3), 1, 7, pairs[:4]...)), ofShard(1, telling(dx(3), 1, 7, pairs[2:]...))}
	page := c.Store.Disk.Sheets[2].Bytes
	for i := 200; i < 210; i++ {
		c.Store.Disk.Sheets[i].Bytes = page
	}
	c.Store.Disk.Sheets[211].Bytes = page[:0]
	wantCoordOk(t, "one memory", c, true)
	before := allText(true, c)
	for _, in := range []impl.Msg{ofShard(2, telling(dx(3), 3, 3, pairs[1:3]...)), ofShard(3, telling(dx(3), 4, 4, pairs...)), ofShard(3, refusing(dx(3), 4, 2)), {}} {
		for _, x := range someCalls() {
			first, second := coordAnswers(c, x, in), coordAnswers(c, x, in)
			for name, answer := range first {
				if allText(false, answer...) != allText(false, second[name]...) || sharesMemory(slices.Concat(answer, second[name])...) {
					t.Errorf("of %s of one memory two lists share some", name)
				}
				for _, arg := range listsOf(c, in)[1:] {
					if sharesMemory(slices.Concat(answer, []any{arg})...) {
						t.Errorf("%s shares memory with an argument of one memory", name)
					}
				}
			}
		}
	}
	wantBool(t, "the arguments stay as they are", allText(true, c) == before, true)
}

func TestP15RefusalsChangeNoCoord(t *testing.T) {
	for what, c := range brokenCoords() {
		if len(c.Got) > 100 || len(c.Counts) > 100 || strings.Contains(what, "the store is") {
			continue
		}
		before := allText(true, c)
		coordAnswers(c, toAbort(), ofShard(2, voting(dx(3), true)))
		wantBool(t, what+" stays as it is", allText(true, c) == before, true)
	}
}
