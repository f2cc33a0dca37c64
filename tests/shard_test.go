package tests

import (
	"maps"
	"math"
	"regexp"
	"slices"
	"strconv"
	"strings"
	"testing"

	"loop.example/g00392/impl"
)

// The shard of the tests, and the stamps of its third boot.
const (
	homeId    = 1
	homeBoot  = 3
	homeStamp = 300000
)

func asking(x impl.Tx, num int, a impl.Ask) impl.Msg {
	return impl.Msg{Kind: 1, Tx: x, Shard: homeId, Num: num, Ask: a}
}

func telling(x impl.Tx, num, stamp int, pairs ...impl.Pair) impl.Msg {
	return impl.Msg{Kind: 2, Tx: x, Shard: homeId, Num: num, Stamp: stamp, Pairs: pairs}
}

func refusing(x impl.Tx, num, code int) impl.Msg {
	return impl.Msg{Kind: 2, Tx: x, Shard: homeId, Num: num, Code: code}
}

func readying(x impl.Tx, num, stamp int) impl.Msg {
	return impl.Msg{Kind: 3, Tx: x, Shard: homeId, Num: num, Stamp: stamp}
}

func voting(x impl.Tx, yes bool) impl.Msg {
	return impl.Msg{Kind: 4, Tx: x, Shard: homeId, Yes: yes}
}

func ending(x impl.Tx, yes bool) impl.Msg {
	return impl.Msg{Kind: 5, Tx: x, Shard: homeId, Yes: yes}
}

func doing(x impl.Tx) impl.Msg { return impl.Msg{Kind: 6, Tx: x, Shard: homeId} }

func wondering(x impl.Tx) impl.Msg { return impl.Msg{Kind: 7, Tx: x, Shard: homeId} }

func cloneShard(s impl.Shard) impl.Shard {
	s.Store, s.Locks, s.Works = cloneStore(s.Store), cloneLocks(s.Locks), slices.Clone(s.Works)
	for i := range s.Works {
		s.Works[i].Edits = slices.Clone(s.Works[i].Edits)
		s.Works[i].Tell.Pairs = slices.Clone(s.Works[i].Tell.Pairs)
	}
	return s
}

func sameShard(a, b impl.Shard) bool { return allText(false, a) == allText(false, b) }

func sameMsgs(a, b []impl.Msg) bool { return allText(false, a) == allText(false, b) }

func pairsOf(s impl.Shard) []impl.Pair { return regrown(s.Store.Tree, 0).all() }

func workText(w impl.Work) string {
	return dotted(w.Tx) + " stamp " + strconv.Itoa(w.Stamp) + " last " + strconv.Itoa(w.Last) + " age " + strconv.Itoa(w.Age) + " edits " + strings.Join(editTexts(w.Edits), " ") +
		" ready " + strconv.FormatBool(w.Ready) + " waits " + strconv.FormatBool(w.Waits) + " ask " + allText(false, w.Ask) + " tell " + allText(false, w.Tell)
}

// shardText tells a shard but for its disk.
func shardText(s impl.Shard) string {
	text := "Id " + strconv.Itoa(s.Id) + ", Boot " + strconv.Itoa(s.Boot) + ", Born " + strconv.Itoa(s.Born) + ", Gen " + strconv.Itoa(s.Store.Gen) + ", locks " + allText(false, s.Locks)
	for _, w := range s.Works {
		text += "\n\t" + workText(w)
	}
	return text
}

func msgsText(l []impl.Msg) string {
	text := strconv.Itoa(len(l)) + " messages"
	for _, m := range l {
		text += "\n\t" + allText(false, m)
	}
	return text
}

// dataOf is what Data must answer of a tree with these pairs: of each key what
// was said of it last.
func dataOf(pairs []impl.Pair, edits []impl.Edit) []impl.Pair {
	said := map[string][]impl.Edit{}
	for _, p := range pairs {
		if strings.HasPrefix(p.Key, "d") && isUser(p.Key[1:]) && isUval(p.Val) {
			said[p.Key[1:]] = []impl.Edit{puts(p.Key[1:], p.Val)}
		}
	}
	for _, e := range edits {
		if isUser(e.Key) && isUval(e.Val) {
			said[e.Key] = append(said[e.Key], e)
		}
	}
	var l []impl.Pair
	for _, k := range slices.Sorted(maps.Keys(said)) {
		if last := said[k][len(said[k])-1]; !last.Gone {
			l = append(l, pair(k, last.Val))
		}
	}
	return l
}

// readOf is what an ask is told of data.
func readOf(data []impl.Pair, a impl.Ask) []impl.Pair {
	var l []impl.Pair
	for _, p := range data {
		if a.Kind == 1 && p.Key == a.Key || a.Kind == 4 && isIn(a.Range, p.Key) {
			l = append(l, p)
		}
	}
	if a.Back {
		slices.Reverse(l)
	}
	if a.Kind == 4 && len(l) > a.Most {
		l = l[:a.Most]
	}
	return l
}

func storeStands(s impl.Store) bool {
	found, code := foundOn(s.Disk)
	return code == 0 && sameStore(found, s)
}

var bootForm = regexp.MustCompile(`^[1-9][0-9]?[0-9]?$`)

// bootIn is the number of boots that a tree with these pairs tells, or 0.
func bootIn(pairs []impl.Pair) int {
	for _, p := range pairs {
		if p.Key == "b" && bootForm.MatchString(p.Val) {
			n, _ := strconv.Atoi(p.Val)
			return n
		}
	}
	return 0
}

func namesOf(works []impl.Work, some func(w impl.Work) bool) []string {
	var l []string
	for _, w := range works {
		if some(w) {
			l = append(l, dotted(w.Tx))
		}
	}
	slices.Sort(l)
	return l
}

func lockNames(l []impl.Lock) []string {
	var names []string
	for _, x := range l {
		names = append(names, dotted(x.Tx))
	}
	slices.Sort(names)
	return names
}

func isUserEdit(e impl.Edit) bool { return isUser(e.Key) && isUval(e.Val) && !(e.Gone && e.Val != "") }

// tellsNothing: nothing, or a Stamp alone.
func tellsNothing(m impl.Msg) bool {
	m.Stamp = 0
	return sameMsg(m, impl.Msg{})
}

func workStands(s impl.Shard, w impl.Work) bool {
	stamped := w.Stamp > 100000*s.Boot && w.Stamp <= 100000*s.Boot+s.Born
	if !rightName(w.Tx) || !stamped && !(w.Ready && w.Stamp == 0) || !slices.Contains(upFrom(0, 17), w.Last) || !slices.Contains(upFrom(0, 6), w.Age) {
		return false
	}
	if len(w.Edits) > 16 || slices.ContainsFunc(w.Edits, func(e impl.Edit) bool { return !isUserEdit(e) }) {
		return false
	}
	if w.Ready && w.Waits || w.Waits && !rightAsk(w.Ask) || !w.Waits && w.Ask != (impl.Ask{}) {
		return false
	}
	m := w.Tell
	return tellsNothing(m) || rightMsg(m) && m.Kind == 2 && m.Tx == w.Tx && m.Shard == s.Id && m.Num == w.Last
}

// shardStands is what ShardOk must say.
func shardStands(s impl.Shard) bool {
	if !slices.Contains(upFrom(0, 4), s.Id) || !isReach(s.Part) || !storeStands(s.Store) || !locksStand(s.Locks) {
		return false
	}
	pairs := pairsOf(s)
	if s.Boot == 0 || s.Boot != bootIn(pairs) || s.Born < 0 || s.Born > 99999 || len(s.Works) > 12 {
		return false
	}
	if slices.ContainsFunc(s.Works, func(w impl.Work) bool { return !workStands(s, w) }) {
		return false
	}
	all := namesOf(s.Works, func(impl.Work) bool { return true })
	ready := namesOf(s.Works, func(w impl.Work) bool { return w.Ready })
	waiting := namesOf(s.Works, func(w impl.Work) bool { return w.Waits })
	var kept []string
	for _, p := range prepsIn(pairs) {
		kept = append(kept, dotted(p.Tx))
	}
	held := slices.Compact(lockNames(s.Locks.Held))
	return len(slices.Compact(slices.Clone(all))) == len(all) && slices.Equal(ready, kept) && slices.Equal(waiting, lockNames(s.Locks.Wait)) &&
		!slices.ContainsFunc(held, func(name string) bool { return !slices.Contains(all, name) })
}

// committedOf is what Commit must make of a right store.
func committedOf(s impl.Store, l []impl.Edit) (impl.Store, bool) {
	if s.Gen == impl.MaxNum {
		return s, false
	}
	ops, next, code := planModel(s, l)
	if code != 0 {
		return s, false
	}
	next.Disk = doneOn(s.Disk, ops)
	return next, true
}

// openedOf is what ShardOpen must answer.
func openedOf(id int, part impl.Range, d impl.Disk) (impl.Shard, int) {
	store, code := foundOn(d)
	if code != 0 {
		return impl.Shard{}, code
	}
	if id < 0 || id > 3 || !isReach(part) {
		return impl.Shard{}, 4
	}
	s := impl.Shard{Id: id, Part: part}
	pairs := regrown(store.Tree, 0).all()
	for _, p := range prepsIn(pairs) {
		w := impl.Work{Tx: p.Tx, Ready: true}
		for _, r := range p.Recs {
			switch r.Kind {
			case 1:
				w.Edits = append(w.Edits, puts(r.Key, r.Val))
			case 2:
				w.Edits = append(w.Edits, goes(r.Key))
			default:
				s.Locks.Held = append(s.Locks.Held, impl.Lock{Tx: p.Tx, Range: r.Range, Ex: r.Kind == 4})
			}
		}
		s.Works = append(s.Works, w)
	}
	if !locksStand(s.Locks) || len(s.Works) > 12 {
		return impl.Shard{}, 5
	}
	s.Boot = 1 + bootIn(pairs)
	next, ok := committedOf(store, []impl.Edit{puts("b", strconv.Itoa(s.Boot))})
	if s.Boot == 1000 || !ok {
		return impl.Shard{}, 6
	}
	s.Store = next
	return s, 0
}

// shardModel is a shard of the tests' own: what it is, what it sent, and what it
// committed.
type shardModel struct {
	impl.Shard
	out   []impl.Msg
	batch []impl.Edit
}

func (m *shardModel) find(x impl.Tx) int {
	return slices.IndexFunc(m.Works, func(w impl.Work) bool { return w.Tx == x })
}

func (m *shardModel) say(l ...impl.Msg) {
	for i := range l {
		l[i].Shard = m.Id
	}
	m.out = append(m.out, l...)
}

func (m *shardModel) tell(at int, a impl.Ask, num int) {
	w := m.Works[at]
	told := telling(w.Tx, num, w.Stamp, readOf(dataOf(pairsOf(m.Shard), w.Edits), a)...)
	told.Shard = m.Id
	w.Edits = slices.Clone(w.Edits)
	if a.Kind == 2 {
		w.Edits = append(w.Edits, puts(a.Key, a.Val))
	}
	if a.Kind == 3 {
		w.Edits = append(w.Edits, goes(a.Key))
	}
	m.Works[at] = impl.Work{Tx: w.Tx, Stamp: w.Stamp, Last: num, Edits: w.Edits, Ready: w.Ready, Tell: told, Age: w.Age}
	m.say(told)
}

func (m *shardModel) drop(x impl.Tx) {
	at := m.find(x)
	m.Works = slices.Delete(m.Works, at, at+1)
	locks, granted := freedOf(m.Locks, x)
	m.Locks = locks
	for _, y := range granted {
		at := m.find(y.Tx)
		m.tell(at, m.Works[at].Ask, m.Works[at].Last)
	}
}

func (m *shardModel) commit(l []impl.Edit) bool {
	next, ok := committedOf(m.Store, l)
	if ok {
		m.Store, m.batch = next, l
	}
	return ok
}

// isNoBegin: whether a first ask is refused with code 2.
func (m *shardModel) isNoBegin(in impl.Msg) bool {
	later := func(x impl.Tx) bool { return x.C == in.Tx.C && (x.E > in.Tx.E || x.E == in.Tx.E && x.N > in.Tx.N) }
	last := lastIn(pairsOf(m.Shard), in.Tx.C)
	return in.Num != 1 || last == in.Tx || later(last) || len(m.Works) == 12 || m.Born == 99999 || slices.ContainsFunc(m.Works, func(w impl.Work) bool { return later(w.Tx) })
}

func (m *shardModel) begin(x impl.Tx) {
	var old []impl.Tx
	for _, w := range m.Works {
		if w.Tx.C == x.C && !w.Ready {
			old = append(old, w.Tx)
		}
	}
	for _, y := range old {
		m.drop(y)
	}
	m.Born++
	m.Works = append(m.Works, impl.Work{Tx: x, Stamp: 100000*m.Boot + m.Born})
}

func (m *shardModel) ask(in impl.Msg) {
	r, ex := lockFor(in.Ask)
	if !hasOf(impl.Locks{Held: []impl.Lock{{Tx: in.Tx, Range: m.Part}}}, in.Tx, r, false) {
		m.say(refusing(in.Tx, in.Num, 3))
		return
	}
	if m.find(in.Tx) < 0 {
		if m.isNoBegin(in) {
			m.say(refusing(in.Tx, in.Num, 2))
			return
		}
		m.begin(in.Tx)
	}
	at := m.find(in.Tx)
	w := m.Works[at]
	if w.Ready || w.Waits {
		return
	}
	if in.Num == w.Last && !tellsNothing(w.Tell) {
		m.say(w.Tell)
		return
	}
	if in.Num != w.Last+1 {
		return
	}
	m.Works[at].Age = 0
	locks, code := askedOf(m.Locks, impl.Lock{Tx: in.Tx, Range: r, Ex: ex})
	switch {
	case ex && len(w.Edits) == 16:
		m.drop(in.Tx)
		m.say(refusing(in.Tx, in.Num, 5))
	case hasOf(m.Locks, in.Tx, r, ex):
		m.tell(at, in.Ask, in.Num)
	case code == 0:
		m.Locks = locks
		m.tell(at, in.Ask, in.Num)
	case code == 3:
		m.Locks = locks
		m.Works[at] = impl.Work{Tx: w.Tx, Stamp: w.Stamp, Last: in.Num, Edits: w.Edits, Waits: true, Ask: in.Ask}
	default:
		m.drop(in.Tx)
		m.say(refusing(in.Tx, in.Num, 4))
	}
}

// recsOf is what a work is made ready with.
func recsOf(s impl.Shard, w impl.Work) []impl.Rec {
	var l []impl.Rec
	for _, e := range w.Edits {
		if e.Gone {
			l = append(l, took(e.Key))
		} else {
			l = append(l, wrote(e.Key, e.Val))
		}
	}
	for _, x := range s.Locks.Held {
		if x.Tx == w.Tx && x.Ex {
			l = append(l, barring(x.Range.Lo, x.Range.Hi))
		} else if x.Tx == w.Tx {
			l = append(l, sharing(x.Range.Lo, x.Range.Hi))
		}
	}
	return l
}

func (m *shardModel) ready(in impl.Msg) {
	at := m.find(in.Tx)
	if at < 0 || m.Works[at].Ready {
		m.say(voting(in.Tx, at >= 0))
		return
	}
	w := m.Works[at]
	p := impl.Prep{Tx: in.Tx, Recs: recsOf(m.Shard, w)}
	if !w.Waits && w.Last == in.Num && w.Stamp == in.Stamp && rightPrep(p) && m.commit(editsOf(p)) {
		m.Works[at].Ready = true
		m.say(voting(in.Tx, true))
		return
	}
	m.drop(in.Tx)
	m.say(voting(in.Tx, false))
}

func (m *shardModel) end(in impl.Msg) {
	if at := m.find(in.Tx); at >= 0 {
		if m.Works[at].Ready && !m.commit(endsIn(pairsOf(m.Shard), in.Tx, in.Yes)) || !m.Works[at].Ready && in.Yes {
			return
		}
		m.drop(in.Tx)
	}
	m.say(doing(in.Tx))
}

// takenOf is what ShardTake must answer of a right shard, and what it commits.
func takenOf(s impl.Shard, in impl.Msg) *shardModel {
	m := &shardModel{Shard: cloneShard(s)}
	if rightMsg(in) && in.Shard == s.Id {
		switch in.Kind {
		case 1:
			m.ask(in)
		case 3:
			m.ready(in)
		case 5:
			m.end(in)
		}
	}
	return m
}

// tickedOf is what ShardTick must answer of a right shard.
func tickedOf(s impl.Shard) *shardModel {
	m := &shardModel{Shard: cloneShard(s)}
	for _, w := range s.Works {
		at := m.find(w.Tx)
		if w.Ready {
			m.say(wondering(w.Tx))
			continue
		}
		m.Works[at].Age++
		if now := m.Works[at]; now.Age == 6 {
			m.drop(w.Tx)
			if now.Waits {
				m.say(refusing(w.Tx, now.Last, 6))
			}
		}
	}
	return m
}

func wantShard(t *testing.T, what string, got impl.Shard, out []impl.Msg, want impl.Shard, sent []impl.Msg) {
	t.Helper()
	if !sameMsgs(out, sent) {
		t.Errorf("%s: sends %s\nwant %s", what, msgsText(out), msgsText(sent))
	}
	if !sameShard(got, want) {
		t.Errorf("%s: %s\nwant %s", what, shardText(got), shardText(want))
	}
}

// checkTake holds ShardTake and ShardBatch of a right shard against the model.
func checkTake(t *testing.T, what string, s impl.Shard, in impl.Msg) (impl.Shard, []impl.Msg) {
	t.Helper()
	what += ": " + allText(false, in)
	m := takenOf(s, in)
	got, out := impl.ShardTake(s, in)
	wantShard(t, "ShardTake, "+what, got, out, m.Shard, m.out)
	batch, ok := impl.ShardBatch(s, in)
	wantBool(t, "ShardBatch, "+what, ok, len(m.batch) > 0)
	wantEdits(t, "ShardBatch, "+what, batch, m.batch...)
	return got, out
}

func checkTick(t *testing.T, what string, s impl.Shard) (impl.Shard, []impl.Msg) {
	t.Helper()
	m := tickedOf(s)
	got, out := impl.ShardTick(s)
	wantShard(t, "ShardTick, "+what, got, out, m.Shard, m.out)
	return got, out
}

func checkOpen(t *testing.T, what string, id int, part impl.Range, d impl.Disk) (impl.Shard, int) {
	t.Helper()
	want, code := openedOf(id, part, d)
	got, is := impl.ShardOpen(id, part, d)
	if is != code {
		t.Errorf("ShardOpen, %s: code %d, want %d", what, is, code)
	}
	wantShard(t, "ShardOpen, "+what, got, nil, want, nil)
	return got, is
}

// shardPlay is a right shard that goes on by messages, each of which is held
// against the model and against what it is to send.
type shardPlay struct {
	*testing.T
	s impl.Shard
}

// playOn begins with a right shard, third boot, with these pairs in its tree.
func playOn(t *testing.T, pairs ...impl.Pair) *shardPlay {
	return &shardPlay{t, homeShard(pairs...)}
}

// homeShard is a right shard of the tests' own without works.
func homeShard(pairs ...impl.Pair) impl.Shard {
	return impl.Shard{Id: homeId, Store: shardStore(append(slices.Clone(pairs), pair("b", strconv.Itoa(homeBoot)))...), Boot: homeBoot}
}

func (p *shardPlay) check(what string, out, want []impl.Msg) {
	p.Helper()
	if !sameMsgs(out, want) {
		p.Errorf("%s: sends %s\nwant %s", what, msgsText(out), msgsText(want))
	}
	wantBool(p.T, "ShardOk behind "+what, impl.ShardOk(p.s), true)
}

func (p *shardPlay) take(in impl.Msg, want ...impl.Msg) {
	p.Helper()
	var out []impl.Msg
	p.s, out = checkTake(p.T, "a play", p.s, in)
	p.check(allText(false, in), out, want)
}

func (p *shardPlay) tick(want ...impl.Msg) {
	p.Helper()
	var out []impl.Msg
	p.s, out = checkTick(p.T, "a play", p.s)
	p.check("a tick", out, want)
}

// reopen is a crash: what isn't on the disk is gone.
func (p *shardPlay) reopen() {
	p.Helper()
	p.s, _ = checkOpen(p.T, "a play", p.s.Id, p.s.Part, p.s.Store.Disk)
	p.check("opening", nil, nil)
}

func (p *shardPlay) wantData(want ...impl.Pair) {
	p.Helper()
	wantPairs(p.T, "Data", impl.Data(p.s.Store.Tree, nil), want)
}

// tx names transactions of the tests: the coordinator and the number.
func tx(c, n int) impl.Tx { return impl.Tx{C: c, E: 2, N: n} }

var abcd = []impl.Pair{pair("da", "1"), pair("db", "2"), pair("dc", "3"), pair("dd", "4")}

func TestP10AWorkReadsItsOwnWrites(t *testing.T) {
	p := playOn(t, abcd...)
	x, stamp := tx(0, 1), homeStamp+1
	p.take(asking(x, 1, askGet("b")), telling(x, 1, stamp, pair("b", "2")))
	p.take(asking(x, 2, askGet("bb")), telling(x, 2, stamp))
	p.take(asking(x, 3, askPut("bb", "5")), telling(x, 3, stamp))
	p.take(asking(x, 4, askGet("bb")), telling(x, 4, stamp, pair("bb", "5")))
	p.take(asking(x, 5, askDel("b")), telling(x, 5, stamp))
	p.take(asking(x, 6, askGet("b")), telling(x, 6, stamp))
	p.take(asking(x, 7, askScan("", "", 8, false)), telling(x, 7, stamp, pair("a", "1"), pair("bb", "5"), pair("c", "3"), pair("d", "4")))
	p.take(asking(x, 8, askScan("", "", 2, false)), telling(x, 8, stamp, pair("a", "1"), pair("bb", "5")))
	p.take(asking(x, 9, askScan("", "", 2, true)), telling(x, 9, stamp, pair("d", "4"), pair("c", "3")))
	p.take(asking(x, 10, askScan("b", "d", 8, true)), telling(x, 10, stamp, pair("c", "3"), pair("bb", "5")))
	p.take(asking(x, 11, askScan("b", "bb", 8, false)), telling(x, 11, stamp))
	p.take(asking(x, 12, askPut("bb", "6")), telling(x, 12, stamp))
	p.take(asking(x, 13, askDel("zz")), telling(x, 13, stamp))
	p.take(asking(x, 14, askPut("a", "")), telling(x, 14, stamp))
	p.take(asking(x, 15, askScan("a", "c", 3, false)), telling(x, 15, stamp, pair("a", ""), pair("bb", "6")))
	p.take(asking(x, 16, askGet("a")), telling(x, 16, stamp, pair("a", "")))
	w := p.s.Works[0]
	wantEdits(t, "the edits", w.Edits, puts("bb", "5"), goes("b"), puts("bb", "6"), goes("zz"), puts("a", ""))
	if w.Last != 16 || w.Stamp != stamp || p.s.Born != 1 {
		t.Errorf("the work is %s", workText(w))
	}
	p.wantData(pair("a", "1"), pair("b", "2"), pair("c", "3"), pair("d", "4"))
}

func TestP10NobodyReadsUnfinishedWrites(t *testing.T) {
	p := playOn(t, abcd...)
	x, y, z := tx(0, 1), tx(1, 1), tx(2, 1)
	p.take(asking(x, 1, askPut("b", "new")), telling(x, 1, homeStamp+1))
	p.take(asking(x, 2, askDel("c")), telling(x, 2, homeStamp+1))
	p.take(asking(y, 1, askGet("a")), telling(y, 1, homeStamp+2, pair("a", "1")))
	p.take(asking(y, 2, askGet("b")))
	p.take(asking(z, 1, askScan("a", "e", 8, true)))
	p.take(asking(tx(3, 1), 1, askScan("c\x00", "", 8, true)), telling(tx(3, 1), 1, homeStamp+4, pair("d", "4")))
	p.take(ending(x, false), telling(y, 2, homeStamp+2, pair("b", "2")), telling(z, 1, homeStamp+3, pair("d", "4"), pair("c", "3"), pair("b", "2"), pair("a", "1")), doing(x))
	p.take(asking(y, 3, askPut("d", "5")))
	p.take(ending(z, false), doing(z))
	p.take(ending(tx(3, 1), false), telling(y, 3, homeStamp+2), doing(tx(3, 1)))
	p.take(asking(y, 4, askScan("", "", 8, false)), telling(y, 4, homeStamp+2, pair("a", "1"), pair("b", "2"), pair("c", "3"), pair("d", "5")))
}

func TestP10WhoWaitsReadsWhatWasEnded(t *testing.T) {
	for _, yes := range []bool{true, false} {
		p := playOn(t, abcd...)
		x, y := tx(0, 1), tx(1, 1)
		p.take(asking(x, 1, askPut("b", "new")), telling(x, 1, homeStamp+1))
		p.take(asking(x, 2, askDel("c")), telling(x, 2, homeStamp+1))
		p.take(asking(y, 1, askScan("", "", 8, false)))
		p.take(readying(x, 2, homeStamp+1), voting(x, true))
		all := []impl.Pair{pair("a", "1"), pair("b", "2"), pair("c", "3"), pair("d", "4")}
		if yes {
			all = []impl.Pair{pair("a", "1"), pair("b", "new"), pair("d", "4")}
		}
		p.take(ending(x, yes), telling(y, 1, homeStamp+2, all...), doing(x))
		p.wantData(all...)
	}
}

func TestP10AnAskThatComesTwiceIsDoneOnce(t *testing.T) {
	p := playOn(t, abcd...)
	x, stamp := tx(0, 1), homeStamp+1
	for i, a := range []impl.Ask{askPut("a", "x"), askGet("a"), askDel("b"), askScan("", "", 8, true), askPut("a", "y")} {
		p.take(asking(x, i+1, a), p.told(a, stamp, i+1))
		before := allText(false, p.s)
		for range 3 {
			p.take(asking(x, i+1, a), p.s.Works[0].Tell)
		}
		// Another ask with that number is told what the first one was.
		p.take(asking(x, i+1, askPut("q", "q")), p.s.Works[0].Tell)
		for _, num := range []int{i, i - 1, i + 3, 16} {
			if num > 0 {
				p.take(asking(x, num, a))
			}
		}
		wantBool(t, "an ask that comes again changes nothing", allText(false, p.s) == before, true)
	}
	wantEdits(t, "the edits", p.s.Works[0].Edits, puts("a", "x"), goes("b"), puts("a", "y"))
}

// told is what the first work of the play must be told of an ask.
func (p *shardPlay) told(a impl.Ask, stamp, num int) impl.Msg {
	var edits []impl.Edit
	if len(p.s.Works) > 0 {
		edits = p.s.Works[0].Edits
	}
	return telling(tx(0, 1), num, stamp, readOf(dataOf(pairsOf(p.s), edits), a)...)
}

// An ask that waits isn't asked for again when it comes twice, and is told the
// same as often as it comes behind its grant.
func TestP10AnAskThatWaitsComesTwice(t *testing.T) {
	p := playOn(t, abcd...)
	x, y := tx(0, 1), tx(1, 1)
	p.take(asking(x, 1, askGet("a")), telling(x, 1, homeStamp+1, pair("a", "1")))
	p.take(asking(y, 1, askPut("a", "y")))
	before := allText(false, p.s)
	p.take(asking(y, 1, askPut("a", "y")))
	p.take(asking(y, 2, askPut("a", "z")))
	wantBool(t, "who waits stays as it is", allText(false, p.s) == before, true)
	p.take(ending(x, false), telling(y, 1, homeStamp+2), doing(x))
	p.take(asking(y, 1, askPut("a", "y")), telling(y, 1, homeStamp+2))
	wantEdits(t, "the edits", p.s.Works[0].Edits, puts("a", "y"))
}

// A new work has another stamp, so that nobody takes it for the one that was
// dropped.
func TestP10ADroppedWorkThatBeginsAgainHasAnotherStamp(t *testing.T) {
	p := playOn(t, abcd...)
	x := tx(0, 1)
	p.take(asking(x, 1, askPut("a", "x")), telling(x, 1, homeStamp+1))
	p.take(ending(x, false), doing(x))
	p.take(asking(x, 1, askPut("a", "x")), telling(x, 1, homeStamp+2))
	p.take(readying(x, 1, homeStamp+1), voting(x, false))
	p.take(asking(x, 1, askPut("a", "x")), telling(x, 1, homeStamp+3))
	p.reopen()
	p.take(asking(x, 1, askPut("a", "x")), telling(x, 1, 400001))
	p.take(readying(x, 1, homeStamp+3), voting(x, false))
	p.take(asking(x, 1, askPut("a", "x")), telling(x, 1, 400002))
	p.take(readying(x, 1, 400002), voting(x, true))
	p.take(ending(x, true), doing(x))
	p.wantData(pair("a", "x"), pair("b", "2"), pair("c", "3"), pair("d", "4"))
}

func TestP4WhatWasVotedForOutlivesACrash(t *testing.T) {
	for _, yes := range []bool{true, false} {
		for _, crashes := range []int{0, 1, 2} {
			p := playOn(t, abcd...)
			x, y := tx(0, 1), tx(1, 1)
			p.take(asking(x, 1, askScan("b", "d", 8, false)), telling(x, 1, homeStamp+1, pair("b", "2"), pair("c", "3")))
			p.take(asking(x, 2, askPut("b", "x")), telling(x, 2, homeStamp+1))
			p.take(asking(x, 3, askDel("c")), telling(x, 3, homeStamp+1))
			p.take(asking(x, 4, askPut("b", "z")), telling(x, 4, homeStamp+1))
			p.take(asking(y, 1, askPut("a", "lost")), telling(y, 1, homeStamp+2))
			p.take(readying(x, 4, homeStamp+1), voting(x, true))
			for range crashes {
				p.reopen()
				if w := p.s.Works[0]; len(p.s.Works) != 1 || w.Tx != x || !w.Ready || w.Stamp != 0 || w.Last != 0 || !tellsNothing(w.Tell) {
					t.Errorf("behind a crash: %s", shardText(p.s))
				}
				wantEdits(t, "the edits behind a crash", p.s.Works[0].Edits, puts("b", "x"), goes("c"), puts("b", "z"))
				want := []impl.Lock{{Tx: x, Range: impl.Range{Lo: "b", Hi: "d"}}, {Tx: x, Range: impl.PointOf("b"), Ex: true}, {Tx: x, Range: impl.PointOf("c"), Ex: true}}
				wantBool(t, "the locks behind a crash", slices.Equal(p.s.Locks.Held, want) && len(p.s.Locks.Wait) == 0, true)
			}
			p.take(readying(x, 4, homeStamp+1), voting(x, true))
			p.take(readying(x, 9, 5), voting(x, true))
			p.take(asking(x, 5, askGet("a")))
			z, stamp := tx(2, 1), 100000*p.s.Boot+p.s.Born+1
			p.take(asking(z, 1, askGet("b")))
			want := []impl.Pair{pair("b", "2")}
			if yes {
				want = []impl.Pair{pair("b", "z")}
			}
			p.take(ending(x, yes), telling(z, 1, stamp, want...), doing(x))
			gen := p.s.Store.Gen
			p.take(ending(x, yes), doing(x))
			p.take(ending(x, !yes), doing(x))
			p.take(readying(x, 4, homeStamp+1), voting(x, false))
			p.take(asking(x, 1, askGet("b")), refusing(x, 1, 2))
			if p.s.Store.Gen != gen {
				t.Errorf("an end that comes again is committed")
			}
			if yes {
				p.wantData(pair("a", "1"), pair("b", "z"), pair("d", "4"))
			} else {
				p.wantData(pair("a", "1"), pair("b", "2"), pair("c", "3"), pair("d", "4"))
			}
			wantBool(t, "ended by then", len(impl.Preps(p.s.Store.Tree)) == 0, true)
		}
	}
}

// What is told by ShardBatch is torn anywhere: the shard opens as it was before
// or behind the message.
func TestP4ACrashWithinAMessageIsAheadOrBehindIt(t *testing.T) {
	p := playOn(t, abcd...)
	x := tx(0, 1)
	p.take(asking(x, 1, askPut("b", "x")), telling(x, 1, homeStamp+1))
	p.take(asking(x, 2, askScan("", "b", 8, true)), telling(x, 2, homeStamp+1, pair("a", "1")))
	for _, in := range []impl.Msg{readying(x, 2, homeStamp+1), ending(x, true)} {
		edits, ok := impl.ShardBatch(p.s, in)
		wantBool(t, "ShardBatch", ok, true)
		next, _ := impl.ShardTake(p.s, in)
		ahead, _ := openedOf(homeId, p.s.Part, p.s.Store.Disk)
		behind, _ := openedOf(homeId, p.s.Part, next.Store.Disk)
		ops, _ := impl.PlanOf(p.s.Store, edits)
		seen := map[string]int{}
		for n := range len(ops) + 1 {
			for _, keep := range [][]int{nil, {512, 512, 512, 512, 512, 512}, {100, 5, 1}, {511}, {512}, {0, 512}} {
				d, _ := impl.CommitCrash(p.s.Store, edits, n, keep)
				got, code := checkOpen(t, "torn", homeId, p.s.Part, d)
				text := allText(false, got.Works, got.Locks, impl.Data(got.Store.Tree, nil))
				seen[text]++
				if code != 0 || text != allText(false, ahead.Works, ahead.Locks, impl.Data(ahead.Store.Tree, nil)) && text != allText(false, behind.Works, behind.Locks, impl.Data(behind.Store.Tree, nil)) {
					t.Errorf("torn behind %d: code %d, %s", n, code, shardText(got))
				}
			}
		}
		if len(seen) != 2 {
			t.Errorf("%d states behind crashes", len(seen))
		}
		p.s = next
	}
}

// newerName is one of few names of a coordinator, mostly one that may begin.
func newerName(d *dice, s impl.Shard, c int) impl.Tx {
	last := lastIn(pairsOf(s), c).N
	for _, w := range s.Works {
		if w.Tx.C == c {
			last = max(last, w.Tx.N)
		}
	}
	return impl.Tx{C: c, E: 2, N: max(1, last+[]int{1, 1, 1, 1, 1, 0, -1, 2}[d.below(8)])}
}

// thrownIn is a message for a shard, mostly one that something comes of.
func thrownIn(d *dice, s impl.Shard) impl.Msg {
	x := newerName(d, s, d.below(4))
	w := impl.Work{Tx: x, Stamp: 1 + d.below(9)}
	if len(s.Works) > 0 && d.below(4) > 0 {
		w = s.Works[d.below(len(s.Works))]
	}
	num := max(1, min(16, w.Last+[]int{1, 1, 1, 1, 1, 1, 0, 0, -1, 2}[d.below(10)]))
	k := "abcde"[d.below(5):][:1]
	lo := d.below(5)
	switch d.below(16) {
	case 0, 1:
		return readying(w.Tx, max(1, w.Last), max(1, w.Stamp))
	case 2:
		return readying(w.Tx, num, max(1, w.Stamp+d.below(3)-1))
	case 3, 4:
		return ending(w.Tx, w.Ready)
	case 5:
		return ending(w.Tx, d.below(2) == 0)
	case 6, 7:
		return asking(w.Tx, num, askPut(k, "v"+strconv.Itoa(d.below(100))))
	case 8:
		return asking(w.Tx, num, askDel(k))
	case 9, 10:
		return asking(w.Tx, num, askScan("abcde"[lo:][:1], []string{"", "c", "f"}[d.below(2)*(1+lo/2)%3], 1+d.below(4), d.below(2) == 0))
	case 11:
		return thrownMsg(d)
	}
	return asking(w.Tx, num, askGet(k))
}

// shardLives are thrown lives of shards, on disks with room and with little; at
// each moment look is told what came in, the shard ahead of it, the one behind
// it, and what it sent. A message of no kind is a tick or an opening.
func shardLives(t *testing.T, seed, steps int, look func(before impl.Shard, in impl.Msg, after impl.Shard, out []impl.Msg)) {
	t.Helper()
	throw := dice(seed)
	for _, size := range []int{60, 60, 60, 14, 10} {
		st, _ := impl.StoreNew(size)
		s, code := impl.ShardOpen(homeId, impl.Range{Hi: "e"}, st.Disk)
		if code != 0 {
			t.Fatalf("a new shard has code %d", code)
		}
		for range steps {
			before, in := s, impl.Msg{}
			var out []impl.Msg
			switch throw.below(12) {
			case 0:
				s, out = checkTick(t, "a life", s)
			case 1:
				if throw.below(6) == 0 {
					s, code = checkOpen(t, "a life", homeId, s.Part, s.Store.Disk)
				}
			default:
				in = thrownIn(&throw, s)
				s, out = checkTake(t, "a life", s, in)
			}
			if code != 0 || t.Failed() || !impl.ShardOk(s) {
				t.Fatalf("a life ends: code %d, %s", code, shardText(s))
			}
			look(before, in, s, out)
		}
	}
}

func TestP4LivesCommitWhatShardBatchTells(t *testing.T) {
	commits, votes := 0, map[bool]int{}
	shardLives(t, 1001, 1500, func(before impl.Shard, in impl.Msg, after impl.Shard, out []impl.Msg) {
		for _, m := range out {
			if m.Kind == 4 {
				votes[m.Yes]++
			}
		}
		if in.Kind == 0 {
			return
		}
		edits, ok := impl.ShardBatch(before, in)
		if !ok {
			wantBool(t, "without a batch the store stays", sameStore(before.Store, after.Store), true)
			return
		}
		commits++
		made, code := impl.Commit(before.Store, edits)
		wantStore(t, "the batch", made, code, after.Store)
	})
	if commits < 100 || votes[true] < 50 || votes[false] < 50 {
		t.Errorf("only %d commits, and votes %v", commits, votes)
	}
}

// What was made ready stays just as it is, through all that comes, until it is
// ended; then its writes are the data's, or nobody's.
func TestP4LivesKeepWhatIsReady(t *testing.T) {
	ended := map[bool]int{}
	crashes := 0
	shardLives(t, 1002, 1500, func(before impl.Shard, in impl.Msg, after impl.Shard, out []impl.Msg) {
		for _, w := range before.Works {
			if !w.Ready {
				continue
			}
			at := slices.IndexFunc(after.Works, func(v impl.Work) bool { return v.Tx == w.Tx })
			if at < 0 {
				ended[in.Yes]++
				wantBool(t, "only an end ends", in.Kind == 5 && in.Tx == w.Tx && slices.ContainsFunc(out, func(m impl.Msg) bool { return sameMsg(m, doing(w.Tx)) }), true)
				want := dataOf(pairsOf(before), nil)
				if in.Yes {
					want = dataOf(pairsOf(before), w.Edits)
				}
				wantPairs(t, "the data behind an end", impl.Data(after.Store.Tree, nil), want)
				wantBool(t, "who is ended holds nothing", slices.ContainsFunc(after.Locks.Held, func(x impl.Lock) bool { return x.Tx == w.Tx }), false)
				continue
			}
			if after.Boot > before.Boot {
				crashes++
			}
			wantBool(t, "what is ready stays so", after.Works[at].Ready, true)
			wantEdits(t, "what is ready", after.Works[at].Edits, w.Edits...)
			wantBool(t, "the locks of what is ready", slices.Equal(recsOf(before, w), recsOf(after, w)), true)
		}
	})
	if ended[true] < 30 || ended[false] < 10 || crashes < 10 {
		t.Errorf("only %v ends, and %d crashes", ended, crashes)
	}
}

// What a number was told of a stamp is told again or not at all, and reads the
// data that was committed with the work's own writes.
func TestP10LivesTellAnAskJustOnce(t *testing.T) {
	type mark struct {
		tx         impl.Tx
		stamp, num int
	}
	var told map[mark]string
	again, first := 0, 0
	shardLives(t, 1003, 1500, func(before impl.Shard, in impl.Msg, after impl.Shard, out []impl.Msg) {
		if before.Boot == 1 && before.Born == 0 {
			told = map[mark]string{}
		}
		for _, m := range out {
			if m.Kind != 2 || m.Code != 0 {
				continue
			}
			at := mark{m.Tx, m.Stamp, m.Num}
			if old, there := told[at]; there {
				again++
				wantBool(t, "told again it is the same", old == allText(false, m), true)
				wantBool(t, "what comes again changes nothing", sameShard(before, after), true)
				continue
			}
			first++
			told[at] = allText(false, m)
			w := after.Works[slices.IndexFunc(after.Works, func(w impl.Work) bool { return w.Tx == m.Tx })]
			own := dataOf(pairsOf(after), w.Edits)
			for _, p := range m.Pairs {
				wantBool(t, "what is read is committed or the reader's own", slices.Contains(own, p), true)
			}
		}
	})
	if again < 100 || first < 1000 {
		t.Errorf("only %d asks, and %d that came again", first, again)
	}
}

func TestP15ShardLimits(t *testing.T) {
	if impl.MaxWorks != 12 || impl.MaxAge != 6 {
		t.Errorf("MaxWorks %d, MaxAge %d", impl.MaxWorks, impl.MaxAge)
	}
}

func wantData(t *testing.T, what string, pairs []impl.Pair, edits []impl.Edit, want ...impl.Pair) {
	t.Helper()
	tree := treeWith(pairs...)
	wantPairs(t, "Data, "+what, impl.Data(tree, edits), want)
	wantPairs(t, "the model of Data, "+what, dataOf(regrown(tree, 0).all(), edits), want)
}

func TestP15Data(t *testing.T) {
	wantData(t, "no tree", nil, nil)
	wantData(t, "no tree, edits", nil, []impl.Edit{puts("b", "2"), puts("a", "1"), goes("c"), puts("a", "3")}, pair("a", "3"), pair("b", "2"))
	wantData(t, "a tree", abcd, nil, pair("a", "1"), pair("b", "2"), pair("c", "3"), pair("d", "4"))
	wantData(t, "edits in order", abcd, []impl.Edit{goes("a"), puts("a", "new"), puts("b", "new"), goes("b"), puts("cc", ""), goes("q")}, pair("a", "new"), pair("c", "3"), pair("cc", ""), pair("d", "4"))
	others := []impl.Pair{pair("d", "none"), pair("c", "9"), pair("e", "9"), pair("b", "3"), pair("h0", "0.1.1"), pair("p0.1.1.0", recText(wrote("z", "9"))), pair("D", "9"), pair("cd", "9"), pair("ddddddddd", "long"),
		pair("dddddddddd", "too long"), pair("dlast", longUval), pair("dover", longUval+"v"), pair("dempty", ""), pair("d\x00", "0"), pair("d\xff", "255")}
	wantData(t, "other keys", others, nil, pair("\x00", "0"), pair("dddddddd", "long"), pair("empty", ""), pair("last", longUval), pair("\xff", "255"))
	wantData(t, "edits of what isn't a client's", others[:11], []impl.Edit{puts("", "1"), goes(""), puts(longUser+"i", "1"), puts("a", longUval+"v"), goes("dddddddddd"), {Key: "dddddddd", Val: longUval + "v", Gone: true}},
		pair("dddddddd", "long"), pair("last", longUval))
	wantData(t, "an edit with a value that goes", abcd, []impl.Edit{{Key: "a", Val: "1", Gone: true}, {Key: "b", Val: longUval, Gone: true}}, pair("c", "3"), pair("d", "4"))
	wantData(t, "an edit in the place of a value that isn't a client's", []impl.Pair{pair("da", longUval+"v")}, []impl.Edit{puts("a", "1")}, pair("a", "1"))
	wantData(t, "the longest", nil, []impl.Edit{puts(longUser, longUval), puts(topUser, topUval)}, pair(longUser, longUval), pair(topUser, topUval))
}

func TestP15DataOfManyPairs(t *testing.T) {
	var pairs, want []impl.Pair
	var edits []impl.Edit
	for i := range 200 {
		pairs = append(pairs, pair("d"+numbered(2*i), strconv.Itoa(i)))
	}
	for i := range 5000 {
		edits = append(edits, puts(numbered(7*i%5000), strconv.Itoa(i)))
	}
	for i := range 5000 {
		want = append(want, pair(numbered(7*i%5000), strconv.Itoa(i)))
	}
	slices.SortFunc(want, func(p, q impl.Pair) int { return strings.Compare(p.Key, q.Key) })
	wantData(t, "more edits than a tree has pairs", pairs, edits, want...)
	throw := dice(1010)
	for range 300 {
		var l []impl.Edit
		for range throw.below(40) {
			l = append(l, impl.Edit{Key: thrownText(&throw, 10)[1:], Val: thrownText(&throw, 23)[1:], Gone: throw.below(3) == 0})
		}
		tree := treeWith(otherData(throw.below(60))...)
		wantPairs(t, "Data of thrown edits", impl.Data(tree, l), dataOf(regrown(tree, 0).all(), l))
	}
	for what, tree := range wrongTrees() {
		wantPairs(t, "Data of "+what, impl.Data(tree, []impl.Edit{puts("a", "1")}), nil)
	}
}

func wantOpenCode(t *testing.T, what string, id int, part impl.Range, d impl.Disk, want int) {
	t.Helper()
	if _, code := checkOpen(t, what, id, part, d); code != want {
		t.Errorf("ShardOpen of %s has code %d, want %d", what, code, want)
	}
}

func TestP15ShardOpen(t *testing.T) {
	d := shardStore(abcd...).Disk
	for _, id := range []int{0, 1, 2, 3} {
		wantOpenCode(t, "a shard "+strconv.Itoa(id), id, impl.Range{Lo: "a", Hi: longUser + "i"}, d, 0)
	}
	for _, id := range append(farEnds(), -1, 4, 5) {
		wantOpenCode(t, "a shard "+strconv.Itoa(id), id, impl.Range{}, d, 4)
	}
	for _, r := range someReaches() {
		wantOpenCode(t, "a part", 0, r, d, 0)
	}
	for _, r := range wrongReaches() {
		wantOpenCode(t, "a wrong part", 0, r, d, 4)
	}
	for what, wrong := range wrongSheets() {
		wantOpenCode(t, what, 0, impl.Range{}, wrong, 1)
		wantOpenCode(t, what, -1, impl.Range{}, wrong, 1)
	}
	for what, wrong := range wrongDisks() {
		wantOpenCode(t, what, 4, impl.Range{Lo: "b", Hi: "a"}, wrong, 1)
	}
	wantOpenCode(t, "something waits", 0, impl.Range{}, with(d, impl.Write{At: 5, Bytes: counted(1)}), 1)
	wantOpenCode(t, "no meta", 7, impl.Range{}, blank(20), 2)
	noTree := blank(20)
	noTree.Sheets[1].Bytes = metaText(impl.Meta{Gen: 5, Root: 7})
	wantOpenCode(t, "no tree", 7, impl.Range{}, noTree, 3)
}

func TestP15ShardOpenCountsItsBoots(t *testing.T) {
	d := shardStore(abcd...).Disk
	for boot := 1; boot < 8; boot++ {
		s, code := checkOpen(t, "once more", 0, impl.Range{}, d)
		if code != 0 || s.Boot != boot || s.Born != 0 || s.Store.Gen != 4+boot || len(s.Works) != 0 {
			t.Errorf("the boot %d: code %d, %s", boot, code, shardText(s))
		}
		wantGet(t, s.Store.Tree, "b", strconv.Itoa(boot), true)
		d = s.Store.Disk
	}
	for val, boot := range map[string]int{"0": 1, "1": 2, "2": 3, "9": 10, "99": 100, "998": 999, "1000": 1, "1001": 1, "": 1, "x": 1, "01": 1, "+1": 1, " 1": 1, "1 ": 1, "-1": 1, "1.0": 1, "0x1": 1,
		"1099511627775": 1, "1099511627776": 1, "18446744073709551617": 1, "4294967297": 1} {
		s, code := checkOpen(t, "b is "+val, 0, impl.Range{}, shardStore(pair("b", val)).Disk)
		if code != 0 || s.Boot != boot {
			t.Errorf("b is %q: code %d, Boot %d, want %d", val, code, s.Boot, boot)
		}
		wantBool(t, "ShardOk of what was opened", impl.ShardOk(s), true)
	}
	wantOpenCode(t, "b is 999", 0, impl.Range{}, shardStore(pair("b", "999")).Disk, 6)
}

func TestP15ShardOpenThatCannotCommit(t *testing.T) {
	tree := treeWith(abcd...)
	wantOpenCode(t, "the last Gen but one", 0, impl.Range{}, settled(tree, impl.MaxNum-1, 20, upFrom(2, 9)).Disk, 0)
	wantOpenCode(t, "the last Gen", 0, impl.Range{}, settled(tree, impl.MaxNum, 20, upFrom(2, 9)).Disk, 6)
	wantOpenCode(t, "no sheet for it", 0, impl.Range{}, settled(tree, 4, 3, upFrom(2, 9)).Disk, 6)
	var full []impl.Pair
	for i := range 200 {
		full = append(full, pair("d"+numbered(i), ""))
	}
	wantOpenCode(t, "200 pairs", 0, impl.Range{}, shardStore(full...).Disk, 6)
	wantOpenCode(t, "200 pairs and a wrong part", 0, impl.Range{Lo: "b", Hi: "a"}, shardStore(full...).Disk, 4)
	wantOpenCode(t, "200 pairs with b", 0, impl.Range{}, shardStore(append(full[:199], pair("b", "7"))...).Disk, 0)
	wantOpenCode(t, "200 pairs, b is 999", 0, impl.Range{}, shardStore(append(full[:199], pair("b", "999"))...).Disk, 6)
}

// manyReady: so many transactions that were made ready, each with one lock of its
// own.
func manyReady(n int) []impl.Prep {
	var l []impl.Prep
	for i := range n {
		k := numbered(i)
		l = append(l, impl.Prep{Tx: tx(i%8, 1+i/8), Recs: []impl.Rec{wrote(k, "new"), barring(k, k+"\x00")}})
	}
	return l
}

func readyDisk(pairs []impl.Pair, preps ...impl.Prep) impl.Disk {
	return shardStore(readyPairs(pairs, preps...)...).Disk
}

func readyPairs(pairs []impl.Pair, preps ...impl.Prep) []impl.Pair {
	return regrown(readyTree(pairs, preps...), 0).all()
}

func TestP15ShardOpenOfWhatWasMadeReady(t *testing.T) {
	for _, n := range []int{0, 1, 2, 11, 12} {
		s, code := checkOpen(t, strconv.Itoa(n)+" works", 2, impl.Range{Lo: "k"}, readyDisk(otherData(3), manyReady(n)...))
		if code != 0 || len(s.Works) != n || len(s.Locks.Held) != n || !impl.ShardOk(s) {
			t.Errorf("%d works: code %d, %s", n, code, shardText(s))
		}
	}
	for _, n := range []int{13, 14, 30, 60} {
		wantOpenCode(t, strconv.Itoa(n)+" works", 0, impl.Range{}, readyDisk(nil, manyReady(n)...), 5)
		wantOpenCode(t, strconv.Itoa(n)+" works and a wrong id", 4, impl.Range{}, readyDisk(nil, manyReady(n)...), 4)
		wantOpenCode(t, strconv.Itoa(n)+" works, b is 999", 0, impl.Range{}, readyDisk([]impl.Pair{pair("b", "999")}, manyReady(n)...), 5)
	}
	wantOpenCode(t, "locks that clash", 0, impl.Range{}, readyDisk(nil, prepOf("1.1.1", barring("a", "c")), prepOf("2.1.1", sharing("b", ""))), 5)
	wantOpenCode(t, "locks of one that meet", 0, impl.Range{}, readyDisk(nil, prepOf("1.1.1", barring("a", "c"), sharing("b", "")), prepOf("2.1.1", sharing("c", ""))), 0)
	var many []impl.Prep
	for i := range 4 {
		p := impl.Prep{Tx: tx(i, 1)}
		for j := range 15 {
			p.Recs = append(p.Recs, sharing(numbered(j), ""))
		}
		many = append(many, p)
	}
	wantOpenCode(t, "60 locks", 0, impl.Range{}, readyDisk(nil, many...), 0)
	many[3].Recs = append(many[3].Recs, sharing("", "a"))
	wantOpenCode(t, "61 locks", 0, impl.Range{}, readyDisk(nil, many...), 5)
	for _, p := range somePreps() {
		wantOpenCode(t, "some records", 0, impl.Range{}, readyDisk(otherData(9), p), 0)
	}
	// In the order of their texts, not of their numbers.
	s, _ := checkOpen(t, "an order", 0, impl.Range{}, readyDisk(nil, prepOf("2.1.1", took("a")), prepOf("1.9.1", took("b")), prepOf("1.10.1", took("c"))))
	wantBool(t, "the order of the works", s.Works[0].Tx == impl.Tx{C: 1, E: 10, N: 1} && s.Works[1].Tx == impl.Tx{C: 1, E: 9, N: 1} && s.Works[2].Tx == impl.Tx{C: 2, E: 1, N: 1}, true)
}

// busyShard has one work that is ready, one that was told, one that waits, and
// one that is new; all of it is the tests' own.
func busyShard() impl.Shard {
	s := impl.Shard{Id: homeId, Part: impl.Range{Lo: "a", Hi: "y"}, Boot: homeBoot, Born: 5}
	s.Store = shardStore(readyPairs(append(slices.Clone(abcd), pair("b", "3"), pair("h1", "1.2.1")), impl.Prep{Tx: tx(0, 1), Recs: []impl.Rec{wrote("a", "new"), barring("a", "a\x00")}})...)
	s.Locks.Held = []impl.Lock{{Tx: tx(0, 1), Range: impl.PointOf("a"), Ex: true}, {Tx: tx(1, 2), Range: impl.Range{Lo: "b", Hi: "d"}}, {Tx: tx(1, 2), Range: impl.PointOf("e"), Ex: true}}
	s.Locks.Wait = []impl.Lock{{Tx: tx(2, 1), Range: impl.PointOf("c"), Ex: true}}
	s.Works = []impl.Work{
		{Tx: tx(1, 2), Stamp: homeStamp + 2, Last: 2, Edits: []impl.Edit{puts("e", "5"), goes("e")}, Tell: telling(tx(1, 2), 2, homeStamp+2, pair("b", "2"), pair("c", "3")), Age: 5},
		{Tx: tx(0, 1), Ready: true, Edits: []impl.Edit{puts("a", "new")}},
		{Tx: tx(2, 1), Stamp: homeStamp + 5, Last: 1, Waits: true, Ask: askPut("c", "7"), Age: 2},
		{Tx: tx(3, 1), Stamp: homeStamp + 1, Tell: impl.Msg{Stamp: 9}},
	}
	return s
}

func wantShardOk(t *testing.T, what string, s impl.Shard, want bool) {
	t.Helper()
	wantBool(t, "ShardOk: "+what, impl.ShardOk(s), want)
	wantBool(t, "the model of ShardOk: "+what, shardStands(s), want)
}

// The places of the works of a busyShard.
const (
	toldWork = iota
	readyAt
	waiterAt
	newWork
)

func changedShards(change func(do func(what string, change func(s *impl.Shard)))) map[string]impl.Shard {
	l := map[string]impl.Shard{}
	change(func(what string, change func(s *impl.Shard)) {
		s := busyShard()
		change(&s)
		l[what] = s
	})
	return l
}

// otherShards are right, each changed in one way.
func otherShards() map[string]impl.Shard {
	return changedShards(func(do func(what string, change func(s *impl.Shard))) {
		do("as it is", func(s *impl.Shard) {})
		for n := range 4 {
			do("Id "+strconv.Itoa(n), func(s *impl.Shard) { s.Id = n; s.Works[toldWork].Tell.Shard = n })
		}
		for i, r := range someReaches() {
			do("the part "+strconv.Itoa(i), func(s *impl.Shard) { s.Part = r })
		}
		do("the greatest Born", func(s *impl.Shard) { s.Born = 99999 })
		do("the greatest stamp", func(s *impl.Shard) { s.Born = 99999; s.Works[newWork].Stamp = homeStamp + 99999 })
		do("two works with one stamp", func(s *impl.Shard) { s.Works[newWork].Stamp = homeStamp + 2 })
		do("a ready one with a stamp", func(s *impl.Shard) { s.Works[readyAt].Stamp = homeStamp + 5 })
		do("works in another order", func(s *impl.Shard) { slices.Reverse(s.Works) })
		do("without the last", func(s *impl.Shard) { s.Works = s.Works[:newWork] })
		for n := range 17 {
			do("Last "+strconv.Itoa(n), func(s *impl.Shard) { s.Works[newWork].Last = n })
			do("Last of a waiter "+strconv.Itoa(n), func(s *impl.Shard) { s.Works[waiterAt].Last = n })
			do("Last of a ready one "+strconv.Itoa(n), func(s *impl.Shard) { s.Works[readyAt].Last = n })
			do("edits "+strconv.Itoa(n), func(s *impl.Shard) { s.Works[newWork].Edits = slices.Repeat([]impl.Edit{puts(longUser, longUval)}, n) })
		}
		for n := range 6 {
			do("Age "+strconv.Itoa(n), func(s *impl.Shard) { s.Works[n%4].Age = n })
		}
		do("other edits of a ready one", func(s *impl.Shard) { s.Works[readyAt].Edits = []impl.Edit{goes("q")} })
		do("a ready one without locks", func(s *impl.Shard) { s.Locks.Held = s.Locks.Held[1:] })
		do("a ready one that was told", func(s *impl.Shard) {
			s.Works[readyAt].Last, s.Works[readyAt].Tell = 3, telling(tx(0, 1), 3, 7)
		})
		do("a waiter that was told", func(s *impl.Shard) { s.Works[waiterAt].Tell = telling(tx(2, 1), 1, 7, userPairs(8)...) })
		do("a tell with a code", func(s *impl.Shard) { s.Works[toldWork].Tell = refusing(tx(1, 2), 2, 9) })
		do("another stamp told", func(s *impl.Shard) { s.Works[toldWork].Tell.Stamp = 1 })
		for _, n := range []int{0, 1, -1, math.MinInt64, math.MaxInt64, homeStamp + 1} {
			do("a tell with the stamp alone "+strconv.Itoa(n), func(s *impl.Shard) { s.Works[toldWork].Tell = impl.Msg{Stamp: n, Pairs: []impl.Pair{}} })
		}
		do("a lock that no client's ask has", func(s *impl.Shard) { s.Locks.Held[2].Range = impl.Range{Lo: longKey} })
		do("another ask than the lock that waits", func(s *impl.Shard) { s.Works[waiterAt].Ask = askScan("x", "", 8, true) })
		do("an ask outside of the part", func(s *impl.Shard) { s.Works[waiterAt].Ask = askGet("z") })
		do("a stray key under p", func(s *impl.Shard) {
			s.Store = shardStore(append(pairsOf(*s), pair("p3.2.1.16", recText(took("a"))), pair("p3.2.1.0", "q"))...)
		})
		do("as many locks as there may be", func(s *impl.Shard) {
			s.Locks.Held = append(s.Locks.Held, slices.Repeat([]impl.Lock{{Tx: tx(3, 1), Range: impl.PointOf("x")}}, 56)...)
		})
		do("a sheet that isn't of the tree", func(s *impl.Shard) { s.Store.Disk.Sheets[99].Bytes = counted(1) })
		do("a lock of a new work", func(s *impl.Shard) {
			s.Locks.Held = append(s.Locks.Held, impl.Lock{Tx: tx(3, 1), Range: impl.Range{Lo: "x"}})
		})
	})
}

// brokenShards: each is wrong in one way.
func brokenShards() map[string]impl.Shard {
	l := changedShards(func(do func(what string, change func(s *impl.Shard))) {
		do("nothing", func(s *impl.Shard) { *s = impl.Shard{} })
		for _, n := range append(farEnds(), -1, 4) {
			do("Id "+strconv.Itoa(n), func(s *impl.Shard) { s.Id = n; s.Works[toldWork].Tell = impl.Msg{} })
			do("Boot "+strconv.Itoa(n), func(s *impl.Shard) { s.Boot = n })
			do("Age "+strconv.Itoa(n), func(s *impl.Shard) { s.Works[newWork].Age = n + 2*bit(n == 4) })
			do("Last "+strconv.Itoa(n), func(s *impl.Shard) { s.Works[newWork].Last = n + 13*bit(n == 4) })
			do("the stamp "+strconv.Itoa(n), func(s *impl.Shard) { s.Works[newWork].Stamp = n })
			do("the stamp of a ready one "+strconv.Itoa(n), func(s *impl.Shard) { s.Works[readyAt].Stamp = n })
			if n < 0 || n > 99999 {
				do("Born "+strconv.Itoa(n), func(s *impl.Shard) { s.Born = n })
			}
		}
		for _, n := range []int{0, 1, 2, 4, 999, 1000, 1 << 32, homeBoot + 1<<32} {
			do("another Boot "+strconv.Itoa(n), func(s *impl.Shard) { s.Boot = n })
		}
		for _, n := range []int{0, 4, 100000} {
			do("a Born of "+strconv.Itoa(n), func(s *impl.Shard) { s.Born = n })
		}
		for _, val := range []string{"", "0", "2", "4", "03", "3 ", "1000", "x"} {
			do("b is "+val, func(s *impl.Shard) { s.Store = shardStore(append(pairsOf(*s), pair("b", val))...) })
		}
		do("no b", func(s *impl.Shard) {
			s.Store = shardStore(slices.DeleteFunc(pairsOf(*s), func(p impl.Pair) bool { return p.Key == "b" })...)
		})
		do("a boot of 1000", func(s *impl.Shard) {
			s.Store, s.Boot, s.Works, s.Locks = shardStore(append(slices.Clone(abcd), pair("b", "1000"))...), 1000, nil, impl.Locks{}
		})
		do("a boot of 0", func(s *impl.Shard) {
			s.Store, s.Boot, s.Works, s.Locks = shardStore(append(slices.Clone(abcd), pair("b", "0"))...), 0, nil, impl.Locks{}
		})
		for _, n := range []int{0, 1, 5, homeStamp - 1, homeStamp, homeStamp + 6, 2*homeStamp + 1, 400001, -homeStamp - 1} {
			do("a stamp of "+strconv.Itoa(n), func(s *impl.Shard) { s.Works[newWork].Stamp = n })
		}
		do("a ready one's stamp is over Born", func(s *impl.Shard) { s.Works[readyAt].Stamp = homeStamp + 6 })
		for i, r := range wrongReaches() {
			do("the wrong part "+strconv.Itoa(i), func(s *impl.Shard) { s.Part = r })
		}
		for _, n := range []int{-1, math.MinInt64, 100000, math.MaxInt64} {
			do("without works a Born of "+strconv.Itoa(n), func(s *impl.Shard) { *s = homeShard(abcd...); s.Born = n })
		}
		breakWorks(do)
		breakLocks(do)
		breakStore(do)
	})
	for what, store := range wrongStores() {
		s := busyShard()
		s.Store = store
		l["the store is "+what] = s
	}
	return l
}

func breakWorks(do func(what string, change func(s *impl.Shard))) {
	for i, x := range someWrongNames() {
		do("the wrong name "+strconv.Itoa(i), func(s *impl.Shard) { s.Works[newWork].Tx = x })
	}
	for i := range 4 {
		at := strconv.Itoa(i)
		do("twice the work "+at, func(s *impl.Shard) { s.Works = append(s.Works, s.Works[i]) })
		do("ready or not "+at, func(s *impl.Shard) { s.Works[i].Ready = !s.Works[i].Ready })
		do("waits or not "+at, func(s *impl.Shard) { s.Works[i].Waits = !s.Works[i].Waits })
		do("waits with an ask or without "+at, func(s *impl.Shard) {
			s.Works[i].Waits = !s.Works[i].Waits
			s.Works[i].Ask = []impl.Ask{{}, askGet("c")}[bit(s.Works[i].Waits)]
		})
		for _, a := range wrongAsks() {
			if i == waiterAt || a != (impl.Ask{}) {
				do("the ask of "+at+" "+allText(false, a), func(s *impl.Shard) { s.Works[i].Ask = a })
			}
		}
		for j, a := range []impl.Ask{askGet("c"), askPut("c", "7"), askScan("", "", 1, true)} {
			if i != waiterAt {
				do("an ask "+strconv.Itoa(j)+" of "+at, func(s *impl.Shard) { s.Works[i].Ask = a })
			}
		}
		if i != newWork {
			do("without the work "+at, func(s *impl.Shard) { s.Works = slices.Delete(s.Works, i, i+1) })
		}
		for _, e := range []impl.Edit{puts("", "1"), puts(longUser+"i", "1"), puts("a", longUval+"v"), goes(""), goes(longUser + "i"), {Key: "a", Val: "1", Gone: true}, {}} {
			do("the edit "+editTexts([]impl.Edit{e})[0]+" of "+at, func(s *impl.Shard) { s.Works[i].Edits = append(s.Works[i].Edits, e) })
		}
		do("17 edits of "+at, func(s *impl.Shard) { s.Works[i].Edits = slices.Repeat([]impl.Edit{puts("a", "1")}, 17) })
		do("10000 edits of "+at, func(s *impl.Shard) { s.Works[i].Edits = slices.Repeat([]impl.Edit{puts("a", "1")}, 10000) })
		for j, m := range []impl.Msg{{Kind: 2}, {Tx: tx(0, 1)}, {Shard: 1}, {Shard: -1}, {Num: 2}, {Ask: askGet("a")}, {Code: 1}, {Pairs: userPairs(1)}, {Yes: true}} {
			do("the tell "+strconv.Itoa(j)+" of "+at, func(s *impl.Shard) { s.Works[i].Tell = m })
			m.Stamp = homeStamp + 1
			do("the tell with a stamp "+strconv.Itoa(j)+" of "+at, func(s *impl.Shard) { s.Works[i].Tell = m })
		}
	}
	for j, m := range []impl.Msg{telling(tx(1, 1), 2, 7), telling(tx(1, 2), 1, 7), telling(tx(1, 2), 3, 7), telling(tx(1, 2), 2, 0), telling(tx(1, 2), 2, 7, userPairs(9)...), refusing(tx(1, 2), 2, 10),
		readying(tx(1, 2), 2, 7), asking(tx(1, 2), 2, askGet("a")), voting(tx(1, 2), true), doing(tx(1, 2)), {Kind: 2, Tx: tx(1, 2), Shard: 0, Num: 2, Stamp: 7}, {Kind: 2, Tx: tx(1, 2), Shard: 2, Num: 2, Stamp: 7}} {
		do("told otherwise "+strconv.Itoa(j), func(s *impl.Shard) { s.Works[toldWork].Tell = m })
	}
	for _, n := range []int{13, 100, 5000} {
		do(strconv.Itoa(n)+" works", func(s *impl.Shard) {
			for _, x := range manyNames(n)[4:] {
				s.Works = append(s.Works, impl.Work{Tx: x, Stamp: homeStamp + 1})
			}
		})
	}
}

// breakStore leaves all that the store tells but one thing as it is.
func breakStore(do func(what string, change func(s *impl.Shard))) {
	for _, n := range []int{1, -1, 2, 1 << 32} {
		do("the Gen and "+strconv.Itoa(n), func(s *impl.Shard) { s.Store.Gen += n })
	}
	do("the store's places", func(s *impl.Shard) { s.Store.Places[0]++ })
	do("the store has a place more", func(s *impl.Shard) { s.Store.Places = append(s.Store.Places, 99) })
	do("the store's data", func(s *impl.Shard) { s.Store.Tree = treeWith(append(pairsOf(*s), pair("da", "other"))...) })
	do("the store's tree has another shape", func(s *impl.Shard) {
		s.Store.Tree = laid(thin(pairsOf(*s)))
	})
	do("something waits for the disk", func(s *impl.Shard) { s.Store.Disk = with(s.Store.Disk, impl.Write{At: 99, Bytes: counted(1)}) })
	do("the disk has no meta", func(s *impl.Shard) { s.Store.Disk.Sheets[s.Store.Gen%2].Bytes = nil })
	do("the disk has a greater meta", func(s *impl.Shard) {
		s.Store.Disk.Sheets[(s.Store.Gen+1)%2].Bytes = metaText(impl.Meta{Gen: s.Store.Gen + 1, Root: s.Store.Places[0]})
	})
	do("the disk has no root", func(s *impl.Shard) { s.Store.Disk.Sheets[s.Store.Places[0]].Bytes = nil })
	do("a sheet of the disk is short", func(s *impl.Shard) { s.Store.Disk.Sheets[99].Bytes = make([]byte, 511) })
	do("the disk is nothing", func(s *impl.Shard) { s.Store.Disk = impl.Disk{} })
	do("the store is nothing", func(s *impl.Shard) { s.Store = impl.Store{} })
}

// clashing are locks of the works of a busyShard that aren't right.
func clashing() map[string]func(l *impl.Locks) {
	held := func(x impl.Tx, r impl.Range, ex bool) func(l *impl.Locks) {
		return func(l *impl.Locks) { l.Held = append(l.Held, impl.Lock{Tx: x, Range: r, Ex: ex}) }
	}
	return map[string]func(l *impl.Locks){
		"two that clash":           held(tx(3, 1), impl.PointOf("a"), false),
		"two that clash as one is": held(tx(3, 1), impl.PointOf("b"), true),
		"a range that isn't right": held(tx(3, 1), impl.Range{Lo: "q", Hi: "p"}, false),
		"a range that is too long": held(tx(3, 1), impl.Range{Lo: tooLong}, false),
		"too many": func(l *impl.Locks) {
			for range 57 {
				held(tx(3, 1), impl.PointOf("x"), false)(l)
			}
		},
		"one that waits twice":      func(l *impl.Locks) { l.Wait = append(l.Wait, l.Wait[0]) },
		"one that waits for nobody": func(l *impl.Locks) { l.Wait[0].Range = impl.PointOf("x") },
		"none is held":              func(l *impl.Locks) { l.Held = nil },
	}
}

func breakLocks(do func(what string, change func(s *impl.Shard))) {
	for what, change := range clashing() {
		do("locks of works, "+what, func(s *impl.Shard) { change(&s.Locks) })
	}
	for what, l := range wrongLocks() {
		do("the locks are "+what, func(s *impl.Shard) { s.Locks = l })
	}
	do("no locks", func(s *impl.Shard) { s.Locks = impl.Locks{} })
	do("a lock of nobody", func(s *impl.Shard) {
		s.Locks.Held = append(s.Locks.Held, impl.Lock{Tx: tx(4, 1), Range: impl.PointOf("x")})
	})
	do("a lock of a name beside", func(s *impl.Shard) {
		s.Locks.Held = append(s.Locks.Held, impl.Lock{Tx: tx(3, 2), Range: impl.PointOf("x")})
	})
	do("a waiting lock of nobody", func(s *impl.Shard) {
		s.Locks.Wait = append(s.Locks.Wait, impl.Lock{Tx: tx(4, 1), Range: impl.PointOf("c")})
	})
	do("a waiting lock of one that doesn't wait", func(s *impl.Shard) {
		s.Locks.Wait = append(s.Locks.Wait, impl.Lock{Tx: tx(3, 1), Range: impl.PointOf("c")})
	})
	do("a waiting lock of a ready one", func(s *impl.Shard) {
		s.Locks.Wait = append(s.Locks.Wait, impl.Lock{Tx: tx(0, 1), Range: impl.PointOf("c"), Ex: true})
		s.Works[readyAt].Waits, s.Works[readyAt].Ask = true, askGet("c")
	})
	do("made ready, not in the store", func(s *impl.Shard) {
		s.Store = shardStore(append(slices.Clone(abcd), pair("b", "3"))...)
	})
	do("another made ready in the store", func(s *impl.Shard) {
		s.Store = shardStore(readyPairs(append(slices.Clone(abcd), pair("b", "3")), impl.Prep{Tx: tx(0, 2), Recs: []impl.Rec{took("a")}})...)
	})
	do("one more made ready in the store", func(s *impl.Shard) {
		s.Store = shardStore(readyPairs(pairsOf(*s), impl.Prep{Tx: tx(5, 2), Recs: []impl.Rec{took("a")}})...)
	})
	do("the new one made ready in the store", func(s *impl.Shard) {
		s.Store = shardStore(readyPairs(pairsOf(*s), impl.Prep{Tx: tx(3, 1), Recs: []impl.Rec{took("a")}})...)
	})
}

func TestP15ShardOk(t *testing.T) {
	for what, s := range otherShards() {
		wantShardOk(t, what, s, true)
	}
	for what, s := range brokenShards() {
		wantShardOk(t, what, s, false)
	}
	wantShardOk(t, "without works", homeShard(), true)
	full := homeShard()
	for _, x := range manyNames(12) {
		full.Works = append(full.Works, impl.Work{Tx: x, Stamp: homeStamp + 1})
	}
	full.Born = 1
	wantShardOk(t, "12 works", full, true)
	full.Works = append(full.Works, impl.Work{Tx: nameOf(9), Stamp: homeStamp + 1})
	wantShardOk(t, "13 works", full, false)
	last := homeShard(pair("b", "3"))
	last.Store, last.Boot, last.Born = shardStore(pair("b", "999")), 999, 99999
	last.Works = []impl.Work{{Tx: tx(0, 1), Stamp: 99999999}}
	wantShardOk(t, "the last stamp", last, true)
}

// stirring: messages that a busyShard does something for.
func stirring() []impl.Msg {
	return []impl.Msg{asking(tx(3, 1), 1, askPut("x", "1")), asking(tx(1, 2), 2, askGet("b")), asking(tx(4, 1), 1, askGet("d")), readying(tx(1, 2), 2, homeStamp+2), readying(tx(0, 1), 1, 1), readying(tx(5, 1), 1, 1),
		ending(tx(0, 1), true), ending(tx(0, 1), false), ending(tx(1, 2), false), ending(tx(2, 1), false), ending(tx(5, 1), true), readying(tx(2, 1), 1, homeStamp+5)}
}

func TestP15WrongShardsAreRefused(t *testing.T) {
	for what, s := range brokenShards() {
		for i, in := range stirring() {
			if i > 0 && len(s.Works) > 100 {
				break
			}
			got, out := impl.ShardTake(s, in)
			wantShard(t, "ShardTake: "+what, got, out, impl.Shard{}, nil)
			edits, ok := impl.ShardBatch(s, in)
			if ok || len(edits) > 0 {
				t.Errorf("ShardBatch: %s: %v, %v", what, edits, ok)
			}
		}
		got, out := impl.ShardTick(s)
		wantShard(t, "ShardTick: "+what, got, out, impl.Shard{}, nil)
	}
}

func TestP15ShardTakeOfRightShards(t *testing.T) {
	for what, s := range otherShards() {
		for _, in := range stirring() {
			in.Shard = s.Id
			checkTake(t, what, s, in)
		}
		checkTick(t, what, s)
	}
}

func TestP15ShardTakeOfOtherMessages(t *testing.T) {
	s := busyShard()
	same := func(what string, in impl.Msg) {
		t.Helper()
		got, out := checkTake(t, what, s, in)
		wantShard(t, what, got, out, s, nil)
	}
	for _, in := range stirring() {
		for _, shard := range []int{0, 2, 3, 4, -1, math.MinInt64, 1 + 1<<32} {
			other := in
			other.Shard = shard
			same("for another shard", other)
		}
		for name, change := range partChanges() {
			other := in
			change(&other)
			if !rightMsg(other) {
				same("with "+name, other)
			}
		}
		for _, x := range someWrongNames() {
			other := in
			other.Tx = x
			same("a wrong name", other)
		}
	}
	for _, x := range []impl.Tx{tx(0, 1), tx(1, 2), tx(2, 1), tx(3, 1), tx(4, 1)} {
		for _, in := range []impl.Msg{telling(x, 1, 7), refusing(x, 1, 2), voting(x, true), voting(x, false), doing(x), wondering(x), {}, {Kind: 8, Tx: x, Shard: 1}, {Kind: -1, Tx: x, Shard: 1}, {Kind: 0, Tx: x, Shard: 1}} {
			same("another kind", in)
		}
		for _, n := range append(farEnds(), -1, 0, 17) {
			same("a wrong number", asking(x, n, askGet("x")))
			same("a wrong number", readying(x, n, homeStamp+2))
		}
		for _, a := range wrongAsks() {
			same("a wrong ask", asking(x, 1, a))
		}
	}
}

func TestP15AnAskOutsideOfThePart(t *testing.T) {
	s := busyShard()
	s.Part = impl.Range{Lo: "b", Hi: "e"}
	for _, x := range []impl.Tx{tx(0, 1), tx(1, 2), tx(2, 1), tx(3, 1), tx(4, 1), tx(1, 1)} {
		for _, a := range []impl.Ask{askGet("a"), askGet("az"), askPut("e", "1"), askDel("e\x00"), askScan("a", "c", 1, false), askScan("b", "e\x00", 1, true), askScan("b", "", 8, false), askScan("", "", 1, true), askScan("", "b", 1, true)} {
			for _, num := range []int{1, 2, 3, 16} {
				got, out := checkTake(t, "outside", s, asking(x, num, a))
				wantShard(t, "outside", got, out, s, []impl.Msg{refusing(x, num, 3)})
			}
		}
	}
	p := &shardPlay{t, s}
	p.take(asking(tx(4, 1), 1, askGet("b")), telling(tx(4, 1), 1, homeStamp+6, pair("b", "2")))
	p.take(asking(tx(4, 1), 2, askScan("b", "b\x00", 8, true)), telling(tx(4, 1), 2, homeStamp+6, pair("b", "2")))
	p.take(asking(tx(4, 1), 3, askDel("dzzz")), telling(tx(4, 1), 3, homeStamp+6))
	p.s.Part = impl.Range{Lo: "b"}
	p.take(asking(tx(4, 1), 4, askScan("f", "", 8, true)), telling(tx(4, 1), 4, homeStamp+6))
}

func TestP15WhoMayBegin(t *testing.T) {
	for num := 2; num <= 16; num++ {
		p := playOn(t, abcd...)
		p.take(asking(tx(0, 1), num, askGet("a")), refusing(tx(0, 1), num, 2))
	}
	// LastOf is 1.5.7.
	for _, x := range []impl.Tx{{C: 1, E: 5, N: 7}, {C: 1, E: 5, N: 6}, {C: 1, E: 4, N: 999}, {C: 1, E: 1, N: 1}} {
		p := playOn(t, append(slices.Clone(abcd), pair("h1", "1.5.7"))...)
		p.take(asking(x, 1, askGet("a")), refusing(x, 1, 2))
	}
	for _, x := range []impl.Tx{{C: 1, E: 5, N: 8}, {C: 1, E: 6, N: 1}, {C: 1, E: 50, N: 1}, {C: 0, E: 1, N: 1}, {C: 2, E: 5, N: 7}} {
		p := playOn(t, append(slices.Clone(abcd), pair("h1", "1.5.7"), pair("h2", "1.9.9"), pair("h3", "q"))...)
		p.take(asking(x, 1, askGet("a")), telling(x, 1, homeStamp+1, pair("a", "1")))
	}
	// A work of its coordinator that is after it, told or ready.
	for _, later := range []impl.Tx{{C: 1, E: 2, N: 4}, {C: 1, E: 3, N: 1}} {
		x := impl.Tx{C: 1, E: 2, N: 3}
		p := playOn(t, abcd...)
		p.take(asking(later, 1, askPut("a", "z")), telling(later, 1, homeStamp+1))
		p.take(asking(x, 1, askGet("a")), refusing(x, 1, 2))
		p.take(asking(impl.Tx{C: 2, E: 1, N: 1}, 1, askGet("b")), telling(impl.Tx{C: 2, E: 1, N: 1}, 1, homeStamp+2, pair("b", "2")))
		p.take(ending(later, false), doing(later))
		p.take(asking(x, 1, askGet("a")), telling(x, 1, homeStamp+3, pair("a", "1")))
	}
	s := busyShard()
	s.Store = shardStore(append(pairsOf(s), pair("h0", "q"))...)
	got, out := checkTake(t, "behind a ready one", s, asking(impl.Tx{C: 0, E: 1, N: 9}, 1, askGet("x")))
	wantShard(t, "behind a ready one", got, out, s, []impl.Msg{refusing(impl.Tx{C: 0, E: 1, N: 9}, 1, 2)})
}

func TestP15TheLastThatIsBorn(t *testing.T) {
	p := playOn(t, abcd...)
	p.s.Born = 99998
	p.take(asking(tx(0, 1), 1, askGet("a")), telling(tx(0, 1), 1, 399999, pair("a", "1")))
	p.take(asking(tx(1, 1), 1, askGet("a")), refusing(tx(1, 1), 1, 2))
	p.take(asking(tx(0, 2), 1, askGet("a")), refusing(tx(0, 2), 1, 2))
	p.take(asking(tx(0, 1), 2, askGet("b")), telling(tx(0, 1), 2, 399999, pair("b", "2")))
	p.take(ending(tx(0, 1), false), doing(tx(0, 1)))
	p.take(asking(tx(1, 1), 1, askGet("a")), refusing(tx(1, 1), 1, 2))
	p.reopen()
	p.take(asking(tx(1, 1), 1, askGet("a")), telling(tx(1, 1), 1, 400001, pair("a", "1")))
}

func TestP15AsManyWorksAsThereMayBe(t *testing.T) {
	for _, n := range []int{11, 12} {
		d := readyDisk(append(slices.Clone(abcd), pair("b", "2")), manyReady(n-4)...)
		s, _ := checkOpen(t, "ready ones", homeId, impl.Range{}, d)
		p := &shardPlay{t, s}
		for c := range 4 {
			p.take(asking(tx(c, 5), 1, askGet("a")), telling(tx(c, 5), 1, homeStamp+1+c, pair("a", "1")))
		}
		if len(p.s.Works) != n {
			t.Errorf("%d works, want %d", len(p.s.Works), n)
		}
		if n == 12 {
			// Also one that would drop a work of its coordinator.
			p.take(asking(tx(4, 5), 1, askGet("a")), refusing(tx(4, 5), 1, 2))
			p.take(asking(tx(0, 6), 1, askGet("a")), refusing(tx(0, 6), 1, 2))
			p.take(asking(tx(0, 5), 2, askGet("b")), telling(tx(0, 5), 2, homeStamp+1, pair("b", "2")))
			continue
		}
		p.take(asking(tx(0, 6), 1, askGet("b")), telling(tx(0, 6), 1, homeStamp+5, pair("b", "2")))
		p.take(asking(tx(4, 5), 1, askGet("a")), telling(tx(4, 5), 1, homeStamp+6, pair("a", "1")))
		p.take(asking(tx(5, 5), 1, askGet("a")), refusing(tx(5, 5), 1, 2))
	}
}

// A first ask drops the works of its coordinator that aren't ready, in order,
// and tells who waited for them, also those that are dropped next.
func TestP15AFirstAskDropsOlderWorks(t *testing.T) {
	p := playOn(t, abcd...)
	x, y, z := tx(0, 1), tx(0, 2), tx(1, 1)
	p.take(asking(x, 1, askPut("a", "x")), telling(x, 1, homeStamp+1))
	p.take(readying(x, 1, homeStamp+1), voting(x, true))
	p.take(asking(y, 1, askPut("b", "y")), telling(y, 1, homeStamp+2))
	p.take(asking(z, 1, askGet("b")))
	p.take(asking(tx(0, 3), 1, askGet("b")), telling(z, 1, homeStamp+3, pair("b", "2")), telling(tx(0, 3), 1, homeStamp+4, pair("b", "2")))
	if len(p.s.Works) != 3 || p.s.Works[0].Tx != x || p.s.Works[1].Tx != z || p.s.Works[2].Tx != tx(0, 3) {
		t.Errorf("the works are %s", shardText(p.s))
	}

	s := homeShard(abcd...)
	s.Born = 9
	s.Locks = impl.Locks{Held: []impl.Lock{{Tx: tx(0, 1), Range: impl.PointOf("a"), Ex: true}}, Wait: []impl.Lock{{Tx: tx(1, 1), Range: impl.PointOf("a")}, {Tx: tx(0, 3), Range: impl.PointOf("a")}, {Tx: tx(0, 2), Range: impl.PointOf("a"), Ex: true}}}
	s.Works = []impl.Work{{Tx: tx(0, 3), Stamp: homeStamp + 3, Waits: true, Last: 4, Ask: askGet("a")}, {Tx: tx(0, 1), Stamp: homeStamp + 1, Last: 1}, {Tx: tx(1, 1), Stamp: homeStamp + 4, Last: 2, Waits: true, Ask: askGet("a")},
		{Tx: tx(0, 2), Stamp: homeStamp + 2, Last: 3, Waits: true, Ask: askDel("a")}}
	p = &shardPlay{t, s}
	p.take(asking(tx(0, 4), 1, askPut("a", "q")), telling(tx(1, 1), 2, homeStamp+4, pair("a", "1")))
	s.Works[0], s.Works[1] = s.Works[1], s.Works[0]
	p = &shardPlay{t, s}
	p.take(asking(tx(0, 4), 1, askPut("b", "q")), telling(tx(1, 1), 2, homeStamp+4, pair("a", "1")), telling(tx(0, 3), 4, homeStamp+3, pair("a", "1")), telling(tx(0, 4), 1, homeStamp+10))
}

func TestP15TheNumberOfAnAsk(t *testing.T) {
	s := busyShard()
	x := tx(1, 2)
	same := func(what string, s impl.Shard, in impl.Msg, sent ...impl.Msg) {
		t.Helper()
		got, out := checkTake(t, what, s, in)
		wantShard(t, what, got, out, s, sent)
	}
	same("Last", s, asking(x, 2, askGet("d")), s.Works[toldWork].Tell)
	for _, num := range []int{1, 4, 5, 16} {
		same("another number", s, asking(x, num, askGet("d")))
	}
	for _, num := range []int{1, 2, 16} {
		same("a ready one", s, asking(tx(0, 1), num, askGet("a")))
		same("one that waits", s, asking(tx(2, 1), num, askGet("x")))
	}
	for _, tell := range []impl.Msg{{}, {Stamp: homeStamp + 2}, {Stamp: -7}, {Stamp: 7, Pairs: []impl.Pair{}}} {
		s.Works[toldWork].Tell = tell
		same("Last without a tell", s, asking(x, 2, askGet("d")))
	}
	got, out := checkTake(t, "Last + 1", s, asking(x, 3, askGet("d")))
	if w := got.Works[toldWork]; w.Age != 0 || w.Last != 3 || !sameMsgs(out, []impl.Msg{telling(x, 3, homeStamp+2, pair("d", "4"))}) || !sameMsg(w.Tell, out[0]) {
		t.Errorf("Last + 1: %s, sends %s", workText(w), msgsText(out))
	}
	s.Works[toldWork].Last = 16
	same("no number behind the last", s, asking(x, 16, askGet("d")))
	s.Works[toldWork].Tell = refusing(x, 16, 4)
	same("a code that was told", s, asking(x, 16, askGet("d")), refusing(x, 16, 4))
}

func TestP15APutOfAWorkWithAllEdits(t *testing.T) {
	for _, n := range []int{15, 16} {
		for _, a := range []impl.Ask{askPut("e", "6"), askDel("e"), askPut("x", "1"), askDel("c"), askPut("a", "1")} {
			s := busyShard()
			s.Works[toldWork].Edits = slices.Repeat([]impl.Edit{puts("e", "5")}, n)
			got, out := checkTake(t, strconv.Itoa(n)+" edits", s, asking(tx(1, 2), 3, a))
			dropped := len(got.Works) == 3 && sameMsgs(out, []impl.Msg{telling(tx(2, 1), 1, homeStamp+5), refusing(tx(1, 2), 3, 5)})
			wantBool(t, "dropped with 16 edits alone", dropped, n == 16)
		}
		s := busyShard()
		s.Works[toldWork].Edits = slices.Repeat([]impl.Edit{puts("e", "5")}, n)
		_, out := checkTake(t, "a read with "+strconv.Itoa(n)+" edits", s, asking(tx(1, 2), 3, askGet("e")))
		wantBool(t, "a read has no edits", sameMsgs(out, []impl.Msg{telling(tx(1, 2), 3, homeStamp+2, pair("e", "5"))}), true)
	}
}

// fullShard has so many locks, all of one work but one of another's that waits
// for it.
func fullShard(locks int) impl.Shard {
	s := homeShard(abcd...)
	s.Born = 3
	for i := range locks - 1 {
		s.Locks.Held = append(s.Locks.Held, impl.Lock{Tx: tx(0, 1), Range: impl.Range{Lo: "a", Hi: numbered(i)}})
	}
	s.Locks.Wait = []impl.Lock{{Tx: tx(1, 1), Range: impl.PointOf("b"), Ex: true}}
	s.Works = []impl.Work{{Tx: tx(1, 1), Stamp: homeStamp + 1, Last: 1, Waits: true, Ask: askDel("b")}, {Tx: tx(0, 1), Stamp: homeStamp + 2, Last: 9}, {Tx: tx(2, 1), Stamp: homeStamp + 3, Last: 2}}
	return s
}

func TestP15EachCodeOfTheLocks(t *testing.T) {
	s := fullShard(60)
	x, y, z := tx(0, 1), tx(1, 1), tx(2, 1)
	p := &shardPlay{t, s}
	p.take(asking(x, 10, askGet("a")), telling(x, 10, homeStamp+2, pair("a", "1")))
	p.take(asking(z, 3, askGet("x")), refusing(z, 3, 4))
	p.take(asking(tx(3, 1), 1, askGet("x")), refusing(tx(3, 1), 1, 4))
	if p.s.Born != 4 || len(p.s.Works) != 2 {
		t.Errorf("behind a first ask without a lock: %s", shardText(p.s))
	}
	p.take(asking(x, 11, askPut("a", "x")), telling(y, 1, homeStamp+1), refusing(x, 11, 4))

	// A lock fewer: one is held, one waits.
	p = &shardPlay{t, fullShard(59)}
	p.take(asking(z, 3, askGet("x")), telling(z, 3, homeStamp+3))
	p.take(asking(z, 4, askGet("x")), telling(z, 4, homeStamp+3))
	p.take(asking(z, 5, askPut("x", "1")), refusing(z, 5, 4))
	p = &shardPlay{t, fullShard(59)}
	p.take(asking(z, 3, askGet("b")))
	if w := p.s.Works[2]; !w.Waits || w.Last != 3 || w.Ask != askGet("b") || w.Stamp != homeStamp+3 || len(p.s.Locks.Wait) != 2 {
		t.Errorf("one that waits: %s", shardText(p.s))
	}
	p.take(ending(x, false), telling(y, 1, homeStamp+1), doing(x))
	p.take(ending(y, false), telling(z, 3, homeStamp+3, pair("b", "2")), doing(y))
}

func TestP15LocksThatAreHadAreNotAskedFor(t *testing.T) {
	p := playOn(t, abcd...)
	x, y := tx(0, 1), tx(1, 1)
	p.take(asking(x, 1, askScan("a", "d", 1, false)), telling(x, 1, homeStamp+1, pair("a", "1")))
	p.take(asking(x, 2, askGet("b")), telling(x, 2, homeStamp+1, pair("b", "2")))
	p.take(asking(x, 3, askScan("b", "d", 1, true)), telling(x, 3, homeStamp+1, pair("c", "3")))
	wantBool(t, "one lock", len(p.s.Locks.Held) == 1, true)
	p.take(asking(x, 4, askPut("b", "x")), telling(x, 4, homeStamp+1))
	p.take(asking(x, 5, askDel("b")), telling(x, 5, homeStamp+1))
	p.take(asking(x, 6, askGet("b")), telling(x, 6, homeStamp+1))
	wantBool(t, "two locks", len(p.s.Locks.Held) == 2 && p.s.Locks.Held[1] == impl.Lock{Tx: x, Range: impl.PointOf("b"), Ex: true}, true)
	p.take(asking(y, 1, askGet("a")), telling(y, 1, homeStamp+2, pair("a", "1")))
	// Who waits for more than it has waits also for what it reads.
	p.take(asking(x, 7, askPut("a", "x")))
	p.take(asking(tx(2, 1), 1, askGet("a")))
	p.take(ending(y, false), telling(x, 7, homeStamp+1), doing(y))
	p.take(asking(x, 8, askGet("a")), telling(x, 8, homeStamp+1, pair("a", "x")))
	p.take(ending(x, false), telling(tx(2, 1), 1, homeStamp+3, pair("a", "1")), doing(x))
}

func TestP15GrantsInTheOrderOfTheLocks(t *testing.T) {
	p := playOn(t, abcd...)
	w, x, y, z, q := tx(0, 1), tx(1, 1), tx(2, 1), tx(3, 1), tx(4, 1)
	p.take(asking(w, 1, askPut("a", "w")), telling(w, 1, homeStamp+1))
	p.take(asking(x, 1, askGet("d")), telling(x, 1, homeStamp+2, pair("d", "4")))
	p.take(asking(y, 1, askGet("a")))
	p.take(asking(z, 1, askScan("", "", 8, true)))
	p.take(asking(q, 1, askPut("d", "q")))
	p.take(asking(x, 2, askGet("a")))
	// Works stand as x, y, z, q; the locks wait as y, z, q, x.
	p.take(ending(w, false), telling(y, 1, homeStamp+3, pair("a", "1")), telling(z, 1, homeStamp+4, pair("d", "4"), pair("c", "3"), pair("b", "2"), pair("a", "1")),
		telling(x, 2, homeStamp+2, pair("a", "1")), doing(w))
	p.take(ending(z, false), doing(z))
	p.take(ending(x, false), telling(q, 1, homeStamp+5), doing(x))
}

func TestP15MakingReady(t *testing.T) {
	x := tx(1, 2)
	s := busyShard()
	dropped := []impl.Msg{telling(tx(2, 1), 1, homeStamp+5), voting(x, false)}
	refused := func(what string, s impl.Shard, in impl.Msg) {
		t.Helper()
		got, out := checkTake(t, what, s, in)
		if !sameMsgs(out, dropped) || len(got.Works) != len(s.Works)-1 || !sameStore(got.Store, s.Store) {
			t.Errorf("%s: %s, sends %s", what, shardText(got), msgsText(out))
		}
	}
	for _, num := range []int{1, 3, 16} {
		refused("another number", s, readying(x, num, homeStamp+2))
	}
	for _, stamp := range []int{1, homeStamp, homeStamp + 1, homeStamp + 3, 400002, 200002, impl.MaxNum} {
		refused("another stamp", s, readying(x, 2, stamp))
	}
	got, out := checkTake(t, "ready", s, readying(x, 2, homeStamp+2))
	want := []impl.Rec{wrote("e", "5"), took("e"), sharing("b", "d"), barring("e", "e\x00")}
	if w := got.Works[toldWork]; !w.Ready || w.Age != 5 || w.Last != 2 || w.Stamp != homeStamp+2 || !sameMsg(w.Tell, s.Works[toldWork].Tell) || !sameMsgs(out, []impl.Msg{voting(x, true)}) {
		t.Errorf("ready: %s, sends %s", workText(w), msgsText(out))
	}
	wantPreps(t, "ready", got.Store.Tree, impl.Prep{Tx: tx(0, 1), Recs: []impl.Rec{wrote("a", "new"), barring("a", "a\x00")}}, impl.Prep{Tx: x, Recs: want})
	wantLast(t, "ready", got.Store.Tree, 1, x)
	_, out = checkTake(t, "one that waits", s, readying(tx(2, 1), 1, homeStamp+5))
	wantBool(t, "one that waits is dropped", sameMsgs(out, []impl.Msg{voting(tx(2, 1), false)}), true)
	_, out = checkTake(t, "none", s, readying(tx(6, 1), 1, homeStamp+5))
	wantBool(t, "none is voted against", sameMsgs(out, []impl.Msg{voting(tx(6, 1), false)}), true)

	// PrepOk is false: a lock that no client's ask has, or too many records.
	far := busyShard()
	far.Locks.Held[2].Range = impl.Range{Lo: "eeeeeeeeee"}
	refused("a lock that can't be kept", far, readying(x, 2, homeStamp+2))
	for _, n := range []int{14, 15, 16} {
		many := busyShard()
		many.Works[toldWork].Edits = slices.Repeat([]impl.Edit{puts("e", "5")}, n)
		if n == 14 {
			_, out := checkTake(t, "16 records", many, readying(x, 2, homeStamp+2))
			wantBool(t, "16 records", sameMsgs(out, []impl.Msg{voting(x, true)}), true)
		} else {
			refused("too many records", many, readying(x, 2, homeStamp+2))
		}
	}
	// Commit has a code: no Gen, no room in the tree, no sheets.
	for what, store := range crampedStores(s) {
		cramped := busyShard()
		cramped.Store = store
		refused(what, cramped, readying(x, 2, homeStamp+2))
	}
}

// crampedStores: stores with the pairs of s that nothing can be committed to.
func crampedStores(s impl.Shard) map[string]impl.Store {
	pairs := pairsOf(s)
	full := slices.Clone(pairs)
	for i := range 200 - len(pairs) {
		full = append(full, pair("z"+numbered(i), ""))
	}
	tree := treeWith(pairs...)
	return map[string]impl.Store{
		"the last Gen": settled(tree, impl.MaxNum, 40, upFrom(2, 20)),
		"no sheets":    settled(tree, 4, 2+len(tree.Nodes), upFrom(2, 20)),
		"200 pairs":    shardStore(full...),
	}
}

func TestP15Ending(t *testing.T) {
	s := busyShard()
	ready, told, waiter, none := tx(0, 1), tx(1, 2), tx(2, 1), tx(6, 1)
	for _, yes := range []bool{true, false} {
		got, out := checkTake(t, "none", s, ending(none, yes))
		wantShard(t, "none", got, out, s, []impl.Msg{doing(none)})
		got, out = checkTake(t, "a ready one", s, ending(ready, yes))
		wantBool(t, "a ready one is done", sameMsgs(out, []impl.Msg{doing(ready)}) && len(got.Works) == 3 && got.Store.Gen == s.Store.Gen+1, true)
		wantLast(t, "ended", got.Store.Tree, 0, ready)
		wantPairs(t, "ended", impl.Data(got.Store.Tree, nil), []impl.Pair{pair("a", []string{"1", "new"}[bit(yes)]), pair("b", "2"), pair("c", "3"), pair("d", "4")})
	}
	got, out := checkTake(t, "one that isn't ready, with yes", s, ending(told, true))
	wantShard(t, "one that isn't ready, with yes", got, out, s, nil)
	got, out = checkTake(t, "one that waits, with yes", s, ending(waiter, true))
	wantShard(t, "one that waits, with yes", got, out, s, nil)
	_, out = checkTake(t, "one that isn't ready", s, ending(told, false))
	wantBool(t, "who is dropped", sameMsgs(out, []impl.Msg{telling(waiter, 1, homeStamp+5), doing(told)}), true)
	_, out = checkTake(t, "one that waits", s, ending(waiter, false))
	wantBool(t, "who waits is dropped", sameMsgs(out, []impl.Msg{doing(waiter)}), true)
	for what, store := range crampedStores(s) {
		cramped := busyShard()
		cramped.Store = store
		if what == "200 pairs" {
			// Taking out makes room, and 'a' is there already.
			_, out := checkTake(t, what, cramped, ending(ready, true))
			wantBool(t, "an end with yes of a full tree", sameMsgs(out, []impl.Msg{doing(ready)}), true)
			continue
		}
		got, out := checkTake(t, what, cramped, ending(ready, true))
		wantShard(t, what, got, out, cramped, nil)
		got, out = checkTake(t, what, cramped, ending(ready, false))
		wantShard(t, what, got, out, cramped, nil)
	}
}

func TestP15Ticks(t *testing.T) {
	p := playOn(t, abcd...)
	w, x, y, z := tx(0, 1), tx(1, 1), tx(2, 1), tx(3, 1)
	p.take(asking(w, 1, askPut("a", "w")), telling(w, 1, homeStamp+1))
	p.take(readying(w, 1, homeStamp+1), voting(w, true))
	p.take(asking(x, 1, askPut("b", "x")), telling(x, 1, homeStamp+2))
	p.tick(wondering(w))
	p.take(asking(y, 1, askScan("a", "c", 8, false)))
	p.take(asking(z, 1, askGet("b")))
	for range 3 {
		p.tick(wondering(w))
	}
	p.take(asking(x, 1, askPut("b", "x")), telling(x, 1, homeStamp+2))
	p.tick(wondering(w))
	if p.s.Works[0].Age != 0 || p.s.Works[1].Age != 5 || p.s.Works[2].Age != 4 || p.s.Works[3].Age != 4 {
		t.Errorf("five ticks: %s", shardText(p.s))
	}
	p.tick(wondering(w), telling(z, 1, homeStamp+4, pair("b", "2")))
	p.take(asking(z, 2, askGet("c")), telling(z, 2, homeStamp+4, pair("c", "3")))
	p.tick(wondering(w), refusing(y, 1, 6))
	if len(p.s.Works) != 2 || p.s.Works[1].Age != 1 || len(p.s.Locks.Wait) != 0 {
		t.Errorf("seven ticks: %s", shardText(p.s))
	}
	for range 4 {
		p.tick(wondering(w))
	}
	p.tick(wondering(w))
	if len(p.s.Works) != 1 || len(p.s.Locks.Held) != 1 {
		t.Errorf("twelve ticks: %s", shardText(p.s))
	}
	p.take(ending(w, true), doing(w))
	p.tick()
}

// All grow old at once: who was told by one that is dropped ahead of it doesn't
// wait any more, and who still waits is told that it is over.
func TestP15ATickThatDropsAll(t *testing.T) {
	s := homeShard(abcd...)
	s.Born = 9
	w, x, y, z := tx(0, 1), tx(1, 1), tx(2, 1), tx(3, 1)
	s.Locks = impl.Locks{Held: []impl.Lock{{Tx: w, Range: impl.PointOf("a"), Ex: true}}, Wait: []impl.Lock{{Tx: x, Range: impl.PointOf("a"), Ex: true}, {Tx: y, Range: impl.PointOf("a")}, {Tx: z, Range: impl.PointOf("a")}}}
	s.Works = []impl.Work{{Tx: z, Stamp: homeStamp + 4, Last: 7, Waits: true, Ask: askGet("a"), Age: 5}, {Tx: w, Stamp: homeStamp + 1, Last: 1, Age: 5}, {Tx: x, Stamp: homeStamp + 2, Last: 3, Waits: true, Ask: askPut("a", "x"), Age: 5},
		{Tx: y, Stamp: homeStamp + 3, Last: 5, Waits: true, Ask: askGet("a"), Age: 4}}
	p := &shardPlay{t, s}
	p.tick(refusing(z, 7, 6), telling(x, 3, homeStamp+2), telling(y, 5, homeStamp+3, pair("a", "1")))
	p.tick()
	if len(p.s.Works) != 0 || len(p.s.Locks.Held) != 0 {
		t.Errorf("behind two ticks: %s", shardText(p.s))
	}
	for age := range 6 {
		s.Works[1].Age = age
		checkTick(t, "an age of "+strconv.Itoa(age), s)
	}
}

// thrownWork is right for a shard of the tests, but for its locks.
func thrownWork(d *dice, s impl.Shard, x impl.Tx) impl.Work {
	w := impl.Work{Tx: x, Stamp: 100000*s.Boot + 1 + d.below(s.Born), Last: d.below(17), Age: d.below(6)}
	for range []int{0, 1, 3, 15, 16}[d.below(5)] {
		w.Edits = append(w.Edits, []impl.Edit{puts("abcde"[d.below(5):][:1], strconv.Itoa(d.below(9))), goes("abcde"[d.below(5):][:1])}[d.below(2)])
	}
	switch d.below(4) {
	case 0:
		w.Tell.Stamp = d.below(9)
	case 1, 2:
		w.Tell = telling(x, w.Last, 1+d.below(homeStamp), thrownUserPairs(d, d.below(9))...)
		if w.Last == 0 {
			w.Tell = impl.Msg{}
		}
	}
	return w
}

func thrownPairs(d *dice) []impl.Pair {
	l := []impl.Pair{pair("b", strconv.Itoa(homeBoot))}
	for _, k := range []string{"a", "b", "c", "d", "e"} {
		if d.below(3) > 0 {
			l = append(l, pair("d"+k, "old"+k))
		}
	}
	for c := range 3 {
		if d.below(3) == 0 {
			l = append(l, pair("h"+strconv.Itoa(c), dotted(impl.Tx{C: c, E: 1 + d.below(2), N: 1 + d.below(3)})))
		}
	}
	return l
}

// thrownShard is a right shard in a state that no life need lead to.
func thrownShard(d *dice) impl.Shard {
	s := impl.Shard{Id: homeId, Part: impl.Range{Lo: []string{"", "a", "b"}[d.below(3)], Hi: []string{"", "e", "f"}[d.below(3)]}, Boot: homeBoot, Born: 1 + d.below(99999)}
	var preps []impl.Prep
	names := map[impl.Tx]bool{}
	for range d.below(10) {
		x := impl.Tx{C: d.below(3), E: 1 + d.below(2), N: 1 + d.below(3)}
		if names[x] {
			continue
		}
		names[x] = true
		w := thrownWork(d, s, x)
		for range d.below(4) {
			y := thrownLock(d, 1, 5)
			y.Tx = x
			locks, code := askedOf(s.Locks, y)
			if code == 0 {
				s.Locks = locks
			} else if code == 3 && len(preps) < 3 && d.below(3) > 0 {
				s.Locks = locks
				w.Waits, w.Ask = true, thrownIn(d, impl.Shard{}).Ask
				if !rightAsk(w.Ask) {
					w.Ask = askGet("c")
				}
				break
			}
		}
		if recs := recsOf(s, w); !w.Waits && len(recs) > 0 && len(recs) < 17 && d.below(3) == 0 {
			w.Ready = true
			w.Stamp *= d.below(2)
			preps = append(preps, impl.Prep{Tx: x, Recs: recs})
		}
		s.Works = append(s.Works, w)
	}
	tree := readyTree(thrownPairs(d), preps...)
	size := 2 + len(tree.Nodes) + []int{60, 60, 60, 8, 5, 3, 0}[d.below(7)]
	s.Store = settled(tree, 4+d.below(2), size, scattered(d, size))
	return s
}

func TestP15ThrownShards(t *testing.T) {
	throw := dice(1020)
	sent, commits, dropped := map[int]int{}, 0, 0
	for range 2500 {
		s := thrownShard(&throw)
		wantShardOk(t, "a thrown shard", s, true)
		for range 4 {
			in := thrownIn(&throw, s)
			got, out := checkTake(t, "a thrown shard", s, in)
			for _, m := range out {
				sent[m.Kind*10+m.Code]++
			}
			commits += bit(got.Store.Gen > s.Store.Gen)
			dropped += bit(len(got.Works) < len(s.Works))
		}
		_, out := checkTick(t, "a thrown shard", s)
		for _, m := range out {
			sent[m.Kind*10+m.Code]++
		}
		if t.Failed() {
			t.Fatalf("the shard was %s", shardText(s))
		}
	}
	for _, kind := range []int{20, 22, 23, 25, 26, 40, 60, 70} {
		if sent[kind] < 30 {
			t.Errorf("only %d messages of the kind and code %d", sent[kind], kind)
		}
	}
	if commits < 200 || dropped < 500 {
		t.Errorf("only %d commits, and %d drops", commits, dropped)
	}
}

// What no words bar is done also where what comes isn't right any more.
func TestP15WhatLeadsToNoRightShard(t *testing.T) {
	s := busyShard()
	_, out := checkTake(t, "a work without records", s, readying(tx(3, 1), 1, homeStamp+1))
	wantBool(t, "Last is no number", sameMsgs(out, []impl.Msg{voting(tx(3, 1), false)}), true)
	s.Works[newWork].Last = 1
	got, out := checkTake(t, "a work without records", s, readying(tx(3, 1), 1, homeStamp+1))
	wantBool(t, "no records", sameMsgs(out, []impl.Msg{voting(tx(3, 1), true)}), true)
	wantShardOk(t, "ready without records", got, false)
	s = busyShard()
	s.Works[waiterAt].Edits = slices.Repeat([]impl.Edit{puts("e", "5")}, 16)
	got, _ = checkTake(t, "one edit more by a grant", s, ending(tx(1, 2), false))
	wantShardOk(t, "17 edits", got, false)
	s = busyShard()
	s.Works[waiterAt].Last, s.Works[waiterAt].Age = 0, 5
	got, _ = checkTake(t, "told with no number", s, ending(tx(1, 2), false))
	wantShardOk(t, "told with no number", got, false)
	s.Works[toldWork].Age = 0
	_, out = checkTick(t, "old with no number", s)
	wantBool(t, "old with no number", sameMsgs(out, []impl.Msg{wondering(tx(0, 1)), refusing(tx(2, 1), 0, 6)}), true)
}

// shardWithRoom is a shard whose lists all have room behind them.
func shardWithRoom(s impl.Shard) impl.Shard {
	c := cloneShard(s)
	c.Store = givenOf(s.Store, impl.Tree{}, nil, nil).Store
	mark := impl.Lock{Tx: impl.Tx{C: -7}}
	c.Locks = impl.Locks{Held: marked(s.Locks.Held, mark), Wait: marked(s.Locks.Wait, mark)}
	for i, w := range c.Works {
		c.Works[i].Edits, c.Works[i].Tell.Pairs = marked(w.Edits, puts("mark", "")), marked(w.Tell.Pairs, pair("mark", ""))
	}
	c.Works = marked(c.Works, impl.Work{Age: -7})
	return c
}

func shardAnswers(s impl.Shard, in impl.Msg, edits []impl.Edit) map[string][]any {
	opened, _ := impl.ShardOpen(s.Id, s.Part, s.Store.Disk)
	taken, out := impl.ShardTake(s, in)
	ticked, more := impl.ShardTick(s)
	batch, _ := impl.ShardBatch(s, in)
	impl.ShardOk(s)
	return map[string][]any{"ShardOpen": {opened}, "ShardTake": {taken, out}, "ShardTick": {ticked, more}, "ShardBatch": {batch}, "Data": {impl.Data(s.Store.Tree, edits)}}
}

func checkShardMemory(t *testing.T, what string, s impl.Shard, in impl.Msg, edits []impl.Edit) {
	t.Helper()
	told := askTwice(t, what, func() map[string][]any { return shardAnswers(s, in, edits) }, s, in, edits)
	wantApart(t, what, told, spreadOf(s, in, edits)...)
}

// spreadOf are the lists of arguments, each alone, as they may be one memory.
func spreadOf(s impl.Shard, in impl.Msg, edits []impl.Edit) []any {
	l := []any{s.Store, s.Locks.Held, s.Locks.Wait, edits, in.Pairs}
	bare := slices.Clone(s.Works)
	for i, w := range bare {
		l = append(l, w.Edits, w.Tell.Pairs)
		bare[i].Edits, bare[i].Tell.Pairs = nil, nil
	}
	return append(l, bare)
}

func TestP15ShardsAreNewMemory(t *testing.T) {
	edits := marked([]impl.Edit{puts("b", "new"), goes("a"), puts("q", "")}, puts("mark", ""))
	for _, in := range append(stirring(), impl.Msg{}, telling(tx(1, 2), 1, 7, marked(userPairs(3), pair("mark", ""))...), asking(tx(1, 2), 3, askScan("", "", 8, true))) {
		checkShardMemory(t, "busy", shardWithRoom(busyShard()), in, edits)
	}
	throw := dice(1030)
	for range 150 {
		s := thrownShard(&throw)
		checkShardMemory(t, "thrown", shardWithRoom(s), thrownIn(&throw, s), edits)
	}
	p := playOn(t, abcd...)
	p.take(asking(tx(0, 1), 1, askScan("", "", 8, true)), telling(tx(0, 1), 1, homeStamp+1, pair("d", "4"), pair("c", "3"), pair("b", "2"), pair("a", "1")))
	p.take(asking(tx(1, 1), 1, askPut("c", "7")))
	p.take(asking(tx(2, 1), 1, askScan("a", "d", 8, false)))
	p.take(asking(tx(3, 1), 1, askGet("c")))
	for _, in := range []impl.Msg{asking(tx(0, 1), 1, askGet("a")), ending(tx(0, 1), false), ending(tx(1, 1), false), readying(tx(0, 1), 1, homeStamp+1)} {
		checkShardMemory(t, "a play", shardWithRoom(p.s), in, edits)
	}
}

// The lists of a shard may be pieces of one memory; those of an answer not.
func TestP15ShardsOfOneMemoryAreApart(t *testing.T) {
	s := busyShard()
	edits := slices.Repeat([]impl.Edit{puts("e", "5")}, 6)
	pairs := userPairs(6)
	locks := slices.Concat(s.Locks.Held, s.Locks.Wait, s.Locks.Held)
	s.Locks = impl.Locks{Held: locks[:3], Wait: locks[3:4]}
	for i := range s.Works {
		s.Works[i].Edits = edits[i/2 : i]
	}
	s.Works[toldWork].Tell.Pairs, s.Works[newWork].Tell.Pairs, s.Works[waiterAt].Tell.Pairs = pairs[:4], pairs[:0], pairs[3:3]
	page := s.Store.Disk.Sheets[2].Bytes
	for i := 200; i < 210; i++ {
		s.Store.Disk.Sheets[i].Bytes = page
	}
	s.Store.Disk.Sheets[211].Bytes = page[:0]
	wantShardOk(t, "one memory", s, true)
	for _, in := range append(stirring(), asking(tx(1, 2), 3, askScan("b", "d", 8, true)), asking(tx(1, 2), 3, askPut("e", "9")), ending(tx(1, 2), true)) {
		first, second := shardAnswers(s, in, edits), shardAnswers(s, in, edits)
		for name, answer := range first {
			if allText(false, answer...) != allText(false, second[name]...) || sharesMemory(slices.Concat(answer, second[name])...) {
				t.Errorf("of %s of one memory two lists share some", name)
			}
		}
		for name, answer := range first {
			for _, arg := range spreadOf(s, in, edits)[1:] {
				if sharesMemory(slices.Concat(answer, []any{arg})...) {
					t.Errorf("%s shares memory with an argument of one memory", name)
				}
			}
		}
	}
}

func TestP15RefusalsChangeNoShard(t *testing.T) {
	for what, s := range brokenShards() {
		if len(s.Works) > 100 || strings.HasPrefix(what, "the store is") {
			continue
		}
		before := allText(true, s)
		in := ending(tx(1, 2), false)
		impl.ShardTake(s, in)
		impl.ShardTick(s)
		impl.ShardBatch(s, in)
		wantBool(t, what+" stays as it is", allText(true, s) == before, true)
	}
}
