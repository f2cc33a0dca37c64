package tests

import (
	"math"
	"reflect"
	"slices"
	"strconv"
	"testing"

	"loop.example/g00392/impl"
)

func toCall(desk int, x impl.Call) impl.Step { return impl.Step{Kind: 1, A: desk, Call: x} }

func toDeliver(place int) impl.Step { return impl.Step{Kind: 2, A: place} }

func toLose(place int) impl.Step { return impl.Step{Kind: 3, A: place} }

func toDouble(place int) impl.Step { return impl.Step{Kind: 4, A: place} }

func toTick() impl.Step { return impl.Step{Kind: 5} }

func toDown(machine int) impl.Step { return impl.Step{Kind: 6, A: machine} }

func toTear(place, done int, keep ...int) impl.Step {
	return impl.Step{Kind: 7, A: place, B: done, Keep: keep}
}

func toUp(machine int) impl.Step { return impl.Step{Kind: 8, A: machine} }

func toCalm(times int) impl.Step { return impl.Step{Kind: 9, A: times} }

// letterOf: what shards send goes to desks, and the other way round.
func letterOf(m impl.Msg) impl.Letter {
	return impl.Letter{Up: slices.Contains([]int{2, 4, 6, 7}, m.Kind), Bytes: msgText(m)}
}

func lettersOf(l ...impl.Msg) []impl.Letter {
	var letters []impl.Letter
	for _, m := range l {
		letters = append(letters, letterOf(m))
	}
	return letters
}

func cloneNet(n impl.Net) impl.Net {
	n.Splits, n.Order, n.Letters, n.Log = slices.Clone(n.Splits), slices.Clone(n.Order), slices.Clone(n.Letters), slices.Clone(n.Log)
	n.Houses, n.Desks = slices.Clone(n.Houses), slices.Clone(n.Desks)
	for i, x := range n.Houses {
		n.Houses[i].Shard, n.Houses[i].Disk = cloneShard(x.Shard), cloneDisk(x.Disk)
	}
	for i, x := range n.Desks {
		n.Desks[i].Coord, n.Desks[i].Disk = cloneCoord(x.Coord), cloneDisk(x.Disk)
	}
	for i, x := range n.Letters {
		n.Letters[i].Bytes = slices.Clone(x.Bytes)
	}
	for i, x := range n.Log {
		n.Log[i].Pairs = slices.Clone(x.Pairs)
	}
	return n
}

func sameHouse(a, b impl.House) bool {
	same := a.Up == b.Up && sameStore(a.Shard.Store, b.Shard.Store) && sameDisk(a.Disk, b.Disk)
	a.Shard.Store, b.Shard.Store = impl.Store{}, impl.Store{}
	return same && sameShard(a.Shard, b.Shard)
}

func sameDesk(a, b impl.Desk) bool {
	same := a.Up == b.Up && sameStore(a.Coord.Store, b.Coord.Store) && sameDisk(a.Disk, b.Disk)
	a.Coord.Store, b.Coord.Store = impl.Store{}, impl.Store{}
	return same && sameCoord(a.Coord, b.Coord)
}

// sameNet looks at the stores, which are long, as stores.
func sameNet(a, b impl.Net) bool {
	return slices.EqualFunc(a.Houses, b.Houses, sameHouse) && slices.EqualFunc(a.Desks, b.Desks, sameDesk) &&
		allText(false, a.Splits, a.Letters, a.Log, a.Order) == allText(false, b.Splits, b.Letters, b.Log, b.Order)
}

// netText tells a net but for the disks of machines that are up.
func netText(n impl.Net) string {
	text := "splits " + allText(false, n.Splits)
	for i, x := range n.Houses {
		text += "\nhouse " + strconv.Itoa(i) + " " + strconv.FormatBool(x.Up) + " " + shardText(x.Shard) + ", " + diskText(x.Disk)
	}
	for i, x := range n.Desks {
		text += "\ndesk " + strconv.Itoa(i) + " " + strconv.FormatBool(x.Up) + " " + coordText(x.Coord) + ", " + diskText(x.Disk)
	}
	text += "\n" + strconv.Itoa(len(n.Letters)) + " letters"
	for _, x := range n.Letters[:min(len(n.Letters), 12)] {
		m, ok := msgIn(x.Bytes)
		text += "\n\t" + strconv.FormatBool(x.Up) + " " + strconv.FormatBool(ok) + " " + allText(false, m)
	}
	return text + "\n" + repliesText(n.Log) + "\norder " + allText(false, n.Order)
}

func stepText(x impl.Step) string {
	return "the step " + strconv.Itoa(x.Kind) + " A " + strconv.Itoa(x.A) + " B " + strconv.Itoa(x.B) + " Keep " + intsText(x.Keep) + " " + allText(false, x.Call)
}

func houseStands(n impl.Net, i int) bool {
	x := n.Houses[i]
	if x.Up {
		return sameDisk(x.Disk, impl.Disk{}) && shardStands(x.Shard) && x.Shard.Id == i && x.Shard.Part == rangeOf(n.Splits, i)
	}
	_, code := foundOn(x.Disk)
	return code == 0 && sameShard(x.Shard, impl.Shard{})
}

func deskStands(n impl.Net, i int) bool {
	x := n.Desks[i]
	if x.Up {
		return sameDisk(x.Disk, impl.Disk{}) && coordStands(x.Coord) && x.Coord.Id == i && slices.Equal(x.Coord.Splits, n.Splits)
	}
	_, code := foundOn(x.Disk)
	return code == 0 && sameCoord(x.Coord, impl.Coord{})
}

// netStands is what NetOk must say.
func netStands(n impl.Net) bool {
	if !rightDesk(0, n.Splits) || len(n.Houses) != 1+len(n.Splits) || !slices.Contains([]int{1, 2, 3}, len(n.Desks)) || len(n.Letters) > 200 || len(n.Log) > 300 {
		return false
	}
	no := func(stands func(n impl.Net, i int) bool) func(i int) bool {
		return func(i int) bool { return !stands(n, i) }
	}
	return !slices.ContainsFunc(upFrom(0, len(n.Houses)), no(houseStands)) && !slices.ContainsFunc(upFrom(0, len(n.Desks)), no(deskStands))
}

// freshOf is what NetNew must answer.
func freshOf(splits []string, desks, size int) (impl.Net, bool) {
	if desks < 1 || desks > 3 || !rightDesk(0, splits) || size < 3 || size > 400 {
		return impl.Net{}, false
	}
	n := impl.Net{Splits: splits}
	d := settled(impl.Tree{}, 1, size, nil).Disk
	for i := range len(splits) + 1 {
		s, _ := openedOf(i, rangeOf(splits, i), d)
		n.Houses = append(n.Houses, impl.House{Up: true, Shard: s})
	}
	for i := range desks {
		c, _ := deskOf(i, splits, d)
		n.Desks = append(n.Desks, impl.Desk{Up: true, Coord: c})
	}
	return n, true
}

// netModel is a net of the tests' own: machines by the models of shards and
// coordinators, letters by the tests' own bytes.
type netModel struct{ impl.Net }

func (m *netModel) put(out []impl.Msg) {
	for _, x := range out {
		if rightMsg(x) && len(m.Letters) < 200 {
			m.Letters = append(m.Letters, letterOf(x))
		}
	}
}

func (m *netModel) setHouse(i int, s *shardModel) {
	m.Houses[i].Shard = s.Shard
	m.put(s.out)
}

func (m *netModel) setDesk(i int, c *deskModel) {
	m.Desks[i].Coord = c.Coord
	m.put(c.out)
	for _, r := range c.told {
		if len(m.Log) < 300 {
			m.Log = append(m.Log, r)
		}
	}
}

// to is the machine that a letter is for, or -1, and its message.
func (m *netModel) to(place int) (house, desk int, in impl.Msg) {
	house, desk = -1, -1
	if place < 0 || place >= len(m.Letters) {
		return
	}
	in, ok := msgIn(m.Letters[place].Bytes)
	switch {
	case !ok:
	case m.Letters[place].Up && in.Tx.C < len(m.Desks) && m.Desks[in.Tx.C].Up:
		desk = in.Tx.C
	case !m.Letters[place].Up && in.Shard < len(m.Houses) && m.Houses[in.Shard].Up:
		house = in.Shard
	}
	return
}

func (m *netModel) lose(place int) {
	if place >= 0 && place < len(m.Letters) {
		m.Letters = slices.Concat(m.Letters[:place], m.Letters[place+1:])
	}
}

func (m *netModel) deliver(place int) {
	house, desk, in := m.to(place)
	m.lose(place)
	if house >= 0 {
		m.setHouse(house, takenOf(m.Houses[house].Shard, in))
	}
	if desk >= 0 {
		c := heardOf(m.Desks[desk].Coord, in)
		m.setDesk(desk, c)
		if len(c.told) == 1 && c.told[0].Kind == 3 && c.told[0].Code == 0 {
			m.Order = append(m.Order, in.Tx)
		}
	}
}

// tornOf is the disk of a right store that is torn within a commit.
func tornOf(s impl.Store, edits []impl.Edit, done int, keep []int) impl.Disk {
	ops, _, _ := planModel(s, edits)
	return crashed(doneOn(s.Disk, ops[:max(0, min(done, len(ops)))]), keep)
}

// decisionOn is what a disk has under 'c'.
func decisionOn(d impl.Disk) string {
	s, _ := foundOn(d)
	for _, p := range regrown(s.Tree, 0).all() {
		if p.Key == "c" {
			return p.Val
		}
	}
	return ""
}

func (m *netModel) tear(x impl.Step) {
	house, desk, in := m.to(x.A)
	if house >= 0 {
		if s := takenOf(m.Houses[house].Shard, in); len(s.batch) > 0 {
			m.Houses[house] = impl.House{Disk: tornOf(m.Houses[house].Shard.Store, s.batch, x.B, x.Keep)}
			m.lose(x.A)
		}
	}
	if desk >= 0 {
		old := m.Desks[desk].Coord.Store
		if c := heardOf(m.Desks[desk].Coord, in); len(c.batch) > 0 {
			m.Desks[desk] = impl.Desk{Disk: tornOf(old, c.batch, x.B, x.Keep)}
			m.lose(x.A)
			if in.Kind == 4 && decisionOn(old.Disk) != decisionOn(m.Desks[desk].Disk) {
				m.Order = append(m.Order, in.Tx)
			}
		}
	}
}

func (m *netModel) tick() {
	for i, x := range m.Houses {
		if x.Up {
			m.setHouse(i, tickedOf(x.Shard))
		}
	}
	for i, x := range m.Desks {
		if x.Up {
			m.setDesk(i, agedOf(x.Coord))
		}
	}
}

func (m *netModel) down(number int) {
	if i := number; i >= 0 && i < len(m.Houses) && m.Houses[i].Up {
		m.Houses[i] = impl.House{Disk: m.Houses[i].Shard.Store.Disk}
	}
	if i := number - len(m.Houses); number >= 0 && i >= 0 && i < len(m.Desks) && m.Desks[i].Up {
		m.Desks[i] = impl.Desk{Disk: m.Desks[i].Coord.Store.Disk}
	}
}

func (m *netModel) up(number int) {
	if i := number; i >= 0 && i < len(m.Houses) && !m.Houses[i].Up {
		if s, code := openedOf(i, rangeOf(m.Splits, i), m.Houses[i].Disk); code == 0 {
			m.Houses[i] = impl.House{Up: true, Shard: s}
		}
	}
	if i := number - len(m.Houses); number >= 0 && i >= 0 && i < len(m.Desks) && !m.Desks[i].Up {
		if c, code := deskOf(i, m.Splits, m.Desks[i].Disk); code == 0 {
			m.Desks[i] = impl.Desk{Up: true, Coord: c}
		}
	}
}

// calmOf goes through calm step by step, each as any other step.
func calmOf(n impl.Net, times int) impl.Net {
	if times < 1 || times > 60 {
		return n
	}
	for range times {
		for i := range len(n.Houses) + len(n.Desks) {
			if i < len(n.Houses) && !n.Houses[i].Up || i >= len(n.Houses) && !n.Desks[i-len(n.Houses)].Up {
				n = behind(n, toUp(i))
			}
		}
		n = behind(n, toTick())
		for range 2000 {
			if len(n.Letters) > 0 {
				n = behind(n, toDeliver(0))
			}
		}
	}
	return n
}

// behind is what Do must answer.
func behind(n impl.Net, x impl.Step) impl.Net {
	if !netStands(n) {
		return impl.Net{}
	}
	m := &netModel{cloneNet(n)}
	switch x.Kind {
	case 1:
		if x.A >= 0 && x.A < len(m.Desks) && m.Desks[x.A].Up {
			m.setDesk(x.A, calledOf(m.Desks[x.A].Coord, x.Call))
		}
	case 2:
		m.deliver(x.A)
	case 3:
		m.lose(x.A)
	case 4:
		if x.A >= 0 && x.A < len(m.Letters) && len(m.Letters) < 200 {
			m.Letters = append(m.Letters, m.Letters[x.A])
		}
	case 5:
		m.tick()
	case 6:
		m.down(x.A)
	case 7:
		m.tear(x)
	case 8:
		m.up(x.A)
	case 9:
		return calmOf(m.Net, x.A)
	}
	return m.Net
}

func wantNet(t *testing.T, what string, got, want impl.Net) {
	t.Helper()
	if !sameNet(got, want) {
		t.Errorf("%s: %s\nwant %s", what, netText(got), netText(want))
	}
}

func wantNetOk(t *testing.T, what string, n impl.Net, want bool) {
	t.Helper()
	wantBool(t, "NetOk: "+what, impl.NetOk(n), want)
	wantBool(t, "the model of NetOk: "+what, netStands(n), want)
}

// checkDo holds Do against the model.
func checkDo(t *testing.T, what string, n impl.Net, x impl.Step) impl.Net {
	t.Helper()
	got := impl.Do(n, x)
	wantNet(t, what+", "+stepText(x), got, behind(n, x))
	return got
}

// wantSame: a step that can't be done.
func wantSame(t *testing.T, what string, n impl.Net, x impl.Step) {
	t.Helper()
	wantNet(t, what+", "+stepText(x), checkDo(t, what, n, x), n)
}

// checkNew holds NetNew against the model.
func checkNew(t *testing.T, splits []string, desks, size int) (impl.Net, bool) {
	t.Helper()
	want, right := freshOf(splits, desks, size)
	n, ok := impl.NetNew(splits, desks, size)
	what := "NetNew " + allText(false, splits) + " " + strconv.Itoa(desks) + " " + strconv.Itoa(size)
	wantBool(t, what, ok, right)
	wantNet(t, what, n, want)
	return n, ok
}

// netPlay is a right net that goes on by steps, each of which is held against the
// model, and against what is to be there behind it.
type netPlay struct {
	*testing.T
	n impl.Net
}

func newPlay(t *testing.T, splits []string, desks int) *netPlay {
	t.Helper()
	n, ok := checkNew(t, splits, desks, 80)
	if !ok {
		t.Fatal("there is no net")
	}
	return &netPlay{t, n}
}

// do also holds all letters against what is wanted as messages, and the new
// replies against what is wanted as replies.
func (p *netPlay) do(x impl.Step, wanted ...any) {
	p.Helper()
	seen := len(p.n.Log)
	p.n = checkDo(p.T, "a play", p.n, x)
	wantBool(p.T, "NetOk behind "+stepText(x), impl.NetOk(p.n), true)
	var letters []impl.Letter
	var told []impl.Reply
	for _, w := range wanted {
		switch w := w.(type) {
		case impl.Msg:
			letters = append(letters, letterOf(w))
		case impl.Reply:
			told = append(told, w)
		}
	}
	if allText(false, p.n.Letters) != allText(false, letters) || !sameReplies(p.n.Log[seen:], told) {
		p.Errorf("%s leaves %s\nwant %v and %s", stepText(x), netText(p.n), letters, repliesText(told))
	}
}

func (p *netPlay) wantOrder(want ...impl.Tx) {
	p.Helper()
	if !slices.Equal(p.n.Order, want) {
		p.Errorf("the order is %v, want %v", p.n.Order, want)
	}
}

func (p *netPlay) wantRest(rest bool, want ...impl.Pair) {
	p.Helper()
	wantBool(p.T, "Settled", impl.Settled(p.n), rest)
	wantPairs(p.T, "AllData", impl.AllData(p.n), want)
}

// nx names a transaction of a desk in its first epoch.
func nx(desk, n int) impl.Tx { return impl.Tx{C: desk, E: 1, N: n} }

// A whole transaction over three houses, letter by letter.
func TestP2ATransactionLetterByLetter(t *testing.T) {
	p := newPlay(t, deskSplits, 1)
	x := nx(0, 1)
	put, scan := askPut("a", "1"), askScan("", "", 3, true)
	p.wantRest(true)
	p.do(toCall(0, toBegin()), replyOf(x, 1, 0))
	p.do(toCall(0, toAsk(put)), ofShard(0, asking(x, 1, put)))
	p.wantRest(false)
	p.do(toDeliver(0), ofShard(0, telling(x, 1, 100001)))
	p.do(toDeliver(0), replyAsk(x, put, 0))
	asks := []any{ofShard(0, asking(x, 2, askScan("", "g", 3, true))), ofShard(1, asking(x, 1, askScan("g", "p", 3, true))), ofShard(2, asking(x, 1, askScan("p", "", 3, true)))}
	tells := []any{ofShard(0, telling(x, 2, 100001, pair("a", "1"))), ofShard(1, telling(x, 1, 100001)), ofShard(2, telling(x, 1, 100001))}
	p.do(toCall(0, toAsk(scan)), asks...)
	p.do(toDeliver(1), asks[0], asks[2], tells[1])
	p.do(toDeliver(0), asks[2], tells[1], tells[0])
	p.do(toDeliver(0), tells[1], tells[0], tells[2])
	p.do(toDeliver(2), tells[1], tells[0])
	p.do(toDeliver(1), tells[1])
	p.do(toDeliver(0), replyAsk(x, scan, 0, pair("a", "1")))
	readies := []any{ofShard(0, readying(x, 2, 100001)), ofShard(1, readying(x, 1, 100001)), ofShard(2, readying(x, 1, 100001))}
	votes := []any{ofShard(0, voting(x, true)), ofShard(1, voting(x, true)), ofShard(2, voting(x, true))}
	p.do(toCall(0, toCommit()), readies...)
	byCalm := &netPlay{t, p.n}
	p.do(toDeliver(0), readies[1], readies[2], votes[0])
	p.do(toDeliver(0), readies[2], votes[0], votes[1])
	p.do(toDeliver(0), votes...)
	p.do(toDeliver(0), votes[1], votes[2])
	p.do(toDeliver(0), votes[2])
	p.wantOrder()
	p.wantRest(false)
	ends := []any{ofShard(0, ending(x, true)), ofShard(1, ending(x, true)), ofShard(2, ending(x, true))}
	dones := []any{ofShard(0, doing(x)), ofShard(1, doing(x)), ofShard(2, doing(x))}
	p.do(toDeliver(0), append(slices.Clone(ends), replyOf(x, 3, 0))...)
	p.wantOrder(x)
	p.wantRest(false)
	p.do(toDeliver(0), ends[1], ends[2], dones[0])
	p.wantRest(false, pair("a", "1"))
	p.do(toDeliver(0), ends[2], dones[0], dones[1])
	p.do(toDeliver(0), dones...)
	p.do(toDeliver(0), dones[1:]...)
	p.do(toDeliver(0), dones[2])
	p.wantRest(false, pair("a", "1"))
	p.do(toDeliver(0))
	p.wantRest(true, pair("a", "1"))
	byCalm.do(toCalm(1), replyOf(x, 3, 0))
	byCalm.wantOrder(x)
	byCalm.wantRest(true, pair("a", "1"))
}

// One house and one desk, by calm and letter by letter; an abort, a delete, and a
// transaction that asks nothing.
func TestP2OneHouseAndOneDesk(t *testing.T) {
	p := newPlay(t, nil, 1)
	p.do(toCall(0, toBegin()), replyOf(nx(0, 1), 1, 0))
	p.do(toCall(0, toCommit()), replyOf(nx(0, 1), 3, 0))
	p.wantOrder()
	p.wantRest(true)
	for n, a := range []impl.Ask{askPut("a", "1"), askPut("b", "2"), askDel("a")} {
		x := nx(0, n+2)
		p.do(toCall(0, toBegin()), replyOf(x, 1, 0))
		p.do(toCall(0, toAsk(a)), ofShard(0, asking(x, 1, a)))
		p.do(toCalm(1), replyAsk(x, a, 0))
		p.do(toCall(0, toCommit()), ofShard(0, readying(x, 1, 100001+n)))
		p.do(toCalm(2), replyOf(x, 3, 0))
	}
	p.wantOrder(nx(0, 2), nx(0, 3), nx(0, 4))
	p.wantRest(true, pair("b", "2"))
	x := nx(0, 5)
	p.do(toCall(0, toBegin()), replyOf(x, 1, 0))
	p.do(toCall(0, toAsk(askDel("b"))), ofShard(0, asking(x, 1, askDel("b"))))
	p.do(toDeliver(0), ofShard(0, telling(x, 1, 100004)))
	p.do(toDeliver(0), replyAsk(x, askDel("b"), 0))
	p.do(toCall(0, toAbort()), ofShard(0, ending(x, false)), replyOf(x, 4, 0))
	p.do(toDeliver(0), ofShard(0, doing(x)))
	p.do(toDeliver(0))
	p.wantRest(true, pair("b", "2"))
	p.wantOrder(nx(0, 2), nx(0, 3), nx(0, 4))
}

// Two desks want the same key: the second waits until the first has ended, and
// then reads what that wrote.
func TestP2TwoDesksThatClash(t *testing.T) {
	p := newPlay(t, []string{"g"}, 2)
	x, y := nx(0, 1), nx(1, 1)
	put, get := askPut("k", "1"), askGet("k")
	p.do(toCall(0, toBegin()), replyOf(x, 1, 0))
	p.do(toCall(1, toBegin()), replyOf(y, 1, 0))
	p.do(toCall(0, toAsk(put)), ofShard(1, asking(x, 1, put)))
	p.do(toCall(1, toAsk(get)), ofShard(1, asking(x, 1, put)), ofShard(1, asking(y, 1, get)))
	p.do(toDeliver(0), ofShard(1, asking(y, 1, get)), ofShard(1, telling(x, 1, 100001)))
	p.do(toDeliver(0), ofShard(1, telling(x, 1, 100001)))
	p.do(toDeliver(0), replyAsk(x, put, 0))
	p.do(toCall(0, toCommit()), ofShard(1, readying(x, 1, 100001)))
	p.do(toDeliver(0), ofShard(1, voting(x, true)))
	p.do(toDeliver(0), ofShard(1, ending(x, true)), replyOf(x, 3, 0))
	p.do(toDeliver(0), ofShard(1, telling(y, 1, 100002, pair("k", "1"))), ofShard(1, doing(x)))
	p.do(toDeliver(1), ofShard(1, telling(y, 1, 100002, pair("k", "1"))))
	p.do(toDeliver(0), replyAsk(y, get, 0, pair("k", "1")))
	p.wantRest(false, pair("k", "1"))
	p.do(toCall(1, toCommit()), ofShard(1, readying(y, 1, 100002)))
	p.do(toCalm(1), replyOf(y, 3, 0))
	p.wantOrder(x, y)
	p.wantRest(true, pair("k", "1"))
}

// Two desks each wait for what the other one holds: what grows old is dropped, so
// that calm brings both to rest, and neither may commit.
func TestP2TwoDesksThatWaitForEachOther(t *testing.T) {
	p := newPlay(t, []string{"g"}, 2)
	for _, keys := range [][]string{{"a", "k"}, {"k", "a"}} {
		for desk, k := range keys {
			if p.n.Desks[desk].Coord.Phase == 0 {
				p.n = checkDo(t, "a play", p.n, toCall(desk, toBegin()))
			}
			p.n = checkDo(t, "a play", p.n, toCall(desk, toAsk(askPut(k, "1"))))
		}
		for len(p.n.Letters) > 0 {
			p.n = checkDo(t, "a play", p.n, toDeliver(0))
		}
	}
	wantBool(t, "both wait", len(p.n.Letters) == 0 && len(p.n.Houses[0].Shard.Locks.Wait) == 1 && len(p.n.Houses[1].Shard.Locks.Wait) == 1, true)
	early := checkDo(t, "a play", p.n, toCalm(4))
	wantBool(t, "four ticks are too few", impl.Settled(early), false)
	p.n = checkDo(t, "a play", p.n, toCalm(20))
	p.wantRest(true)
	for desk := range 2 {
		p.n = checkDo(t, "a play", p.n, toCall(desk, toCommit()))
	}
	p.do(toCalm(2), replyOf(nx(0, 1), 3, 7), replyOf(nx(1, 1), 3, 7))
	p.wantRest(true)
	p.wantOrder()
}

// replayed is what the transactions of the order make of no data, one after the
// other, and whether each was told that by the log.
func replayed(n impl.Net) ([]impl.Pair, bool) {
	var edits []impl.Edit
	told := true
	for _, x := range n.Order {
		for _, r := range n.Log {
			if r.Kind != 2 || r.Code != 0 || r.Tx != x {
				continue
			}
			told = told && allText(false, readOf(dataOf(nil, edits), r.Ask)) == allText(false, r.Pairs)
			switch r.Ask.Kind {
			case 2:
				edits = append(edits, puts(r.Ask.Key, r.Ask.Val))
			case 3:
				edits = append(edits, goes(r.Ask.Key))
			}
		}
	}
	return dataOf(nil, edits), told
}

// thrownWish is a call that fits the phase of a desk, mostly.
func thrownWish(d *dice, n impl.Net, desk int) impl.Call {
	k := "abcdefgh"[d.below(8):][:1]
	if d.below(12) == 0 {
		return thrownCall(d)
	}
	if n.Desks[desk].Coord.Phase == 0 {
		return toBegin()
	}
	switch d.below(24) {
	case 0, 1, 2, 3, 4, 5, 6:
		return toAsk(askPut(k, strconv.Itoa(d.below(100))))
	case 7, 8:
		return toAsk(askDel(k))
	case 9, 10:
		return toAsk(askGet(k))
	case 11, 12, 13:
		return toAsk(askScan("", []string{"", "e"}[d.below(2)], 1+d.below(8), d.below(2) == 0))
	case 14:
		return toAbort()
	}
	return toCommit()
}

// tearable is the place of a letter that something is committed for, mostly.
func tearable(d *dice, n impl.Net) int {
	places := slices.DeleteFunc(upFrom(0, len(n.Letters)), func(place int) bool { edits, _ := editsFor(n, place); return len(edits) == 0 })
	if len(places) == 0 || d.below(8) == 0 {
		return d.below(len(n.Letters) + 1)
	}
	return places[d.below(len(places))]
}

// thrownKind is a step of a kind, mostly one that something comes of.
func thrownKind(d *dice, n impl.Net, kind int) impl.Step {
	place := d.below(len(n.Letters)+1) * d.below(3) / 2
	desk, machine := d.below(len(n.Desks)), d.below(len(n.Houses)+len(n.Desks))
	switch kind {
	case 1:
		return toCall(desk, thrownWish(d, n, desk))
	case 6, 8:
		return impl.Step{Kind: kind, A: machine}
	case 7:
		return toTear(tearable(d, n), d.below(7), thrownKeep(d, d.below(4))...)
	case 9:
		return toCalm(1 + d.below(2))
	}
	return impl.Step{Kind: kind, A: place}
}

// thrownStep goes on with what is under way more often than it hinders that.
func thrownStep(d *dice, n impl.Net) impl.Step {
	roll := d.below(96)
	busy := n.Desks[d.below(len(n.Desks))].Coord.Phase > 1
	switch {
	case roll < 60 && len(n.Letters) > 0 || roll < 80 && busy:
		return thrownKind(d, n, 2)
	case roll < 80:
		return thrownKind(d, n, 1)
	case roll < 95:
		return thrownKind(d, n, []int{3, 4, 4, 5, 5, 6, 6, 7, 7, 7, 7, 8, 8, 8, 9}[roll-80])
	}
	far := farPlaces(2)
	return impl.Step{Kind: d.below(12), A: far[d.below(len(far))], B: d.below(9), Call: toBegin()}
}

// someNets are new ones of each number of houses and desks.
func someNets(t *testing.T, size int) []impl.Net {
	t.Helper()
	var l []impl.Net
	for desks := 1; desks < 4; desks++ {
		for _, splits := range [][]string{nil, {"c"}, {"c", "f"}, {"b", "d", "f"}} {
			n, ok := impl.NetNew(splits, desks, size)
			if !ok {
				t.Fatal("there is no net")
			}
			l = append(l, n)
		}
	}
	return l
}

// netLives are thrown plays from new nets; at each step look is told the net ahead
// of it, the step, and the net behind it.
func netLives(t *testing.T, seed, plays, size int, look func(before impl.Net, x impl.Step, after impl.Net)) {
	t.Helper()
	throw := dice(seed)
	for range plays {
		for _, n := range someNets(t, size) {
			for range 60 {
				x := thrownStep(&throw, n)
				after := impl.Do(n, x)
				look(n, x, after)
				n = after
			}
			look(n, impl.Step{Kind: -1}, n)
			if t.Failed() {
				t.Fatalf("a life ends with %s", netText(n))
			}
		}
	}
}

// Any play of 60 steps comes to rest, with what was decided for and nothing else.
func TestP2CalmBringsAnyPlayToRest(t *testing.T) {
	rests, decided, undone := 0, 0, 0
	for _, size := range []int{80, 81, 400} {
		netLives(t, 1200+size, 8, size, func(before impl.Net, x impl.Step, after impl.Net) {
			if x.Kind >= 0 {
				return
			}
			n := impl.Do(after, toCalm(30))
			want, told := replayed(n)
			wantBool(t, "Settled", impl.Settled(n), true)
			wantPairs(t, "AllData", impl.AllData(n), want)
			wantBool(t, "each was told what was there", told, true)
			rests += bit(!impl.Settled(after))
			decided += len(n.Order)
			for _, r := range n.Log {
				undone += bit(r.Kind > 1 && r.Code > 1)
			}
		})
	}
	if rests < 100 || decided < 300 || undone < 50 {
		t.Errorf("only %d came to rest, %d were decided for, %d were undone", rests, decided, undone)
	}
}

// A play in two parts is the play, wherever it is cut, and so is one step by step.
func TestP3APlayInPartsIsThePlay(t *testing.T) {
	throw := dice(1301)
	for i, first := range someNets(t, 80) {
		var steps []impl.Step
		n := first
		for range 48 {
			x := thrownStep(&throw, n)
			steps = append(steps, x)
			n = impl.Do(n, x)
		}
		wantNet(t, "a play", impl.Play(first, steps), n)
		ahead := first
		for cut, x := range steps {
			if (cut+i)%3 == 0 {
				wantNet(t, "cut at "+strconv.Itoa(cut), impl.Play(ahead, steps[cut:]), n)
			}
			wantNet(t, "a play of one step", impl.Play(ahead, steps[cut:cut+1]), impl.Do(ahead, x))
			ahead = impl.Play(impl.Play(first, steps[:cut]), steps[cut:cut+1])
			wantNet(t, "the first part", ahead, impl.Play(first, steps[:cut+1]))
		}
		wantNet(t, "cut behind the last", impl.Play(n, nil), n)
	}
}

// Losing a letter takes just that one, doubling puts the same behind all others.
func TestP3LosingAndDoublingChangesNothingElse(t *testing.T) {
	lost := 0
	look := func(n impl.Net) {
		for place := range n.Letters {
			less, more := cloneNet(n), cloneNet(n)
			less.Letters = slices.Delete(less.Letters, place, place+1)
			more.Letters = append(more.Letters, more.Letters[place])
			wantNet(t, "lost", impl.Do(n, toLose(place)), less)
			if len(n.Letters) < 200 {
				wantNet(t, "doubled", impl.Do(n, toDouble(place)), more)
				wantNet(t, "doubled and lost", impl.Play(n, []impl.Step{toDouble(place), toLose(len(n.Letters))}), n)
			} else {
				wantNet(t, "doubled where there is no room", impl.Do(n, toDouble(place)), n)
			}
			lost++
		}
	}
	netLives(t, 1302, 1, 80, func(before impl.Net, x impl.Step, after impl.Net) {
		if x.Kind == 1 || x.Kind == 5 {
			look(after)
		}
	})
	for _, size := range []int{1, 2, 198, 199, 200} {
		n := busyNet()
		n.Letters = fillers(size)
		look(n)
	}
	if lost < 500 {
		t.Errorf("only %d letters", lost)
	}
}

// fillers are so many letters that can't be read, no two alike.
func fillers(size int) []impl.Letter {
	var l []impl.Letter
	for i := range size {
		l = append(l, impl.Letter{Up: i%2 == 0, Bytes: []byte{0xff, byte(i)}})
	}
	return l
}

// coordAt is one of the phaseCoords as the coordinator of another desk.
func coordAt(id, phase int) impl.Coord {
	c := phaseCoords()[phase]
	c.Id, c.Tx.C = id, id
	for i := range c.Got {
		c.Got[i].Tx.C = id
	}
	if phase == 4 {
		retold(&c, pair("c", strconv.Itoa(id)+".5.3:02"))
	}
	return c
}

func houseOf(i int, s impl.Shard) impl.House {
	s.Id, s.Part = i, rangeOf(deskSplits, i)
	for j := range s.Works {
		if s.Works[j].Tell.Kind > 0 {
			s.Works[j].Tell.Shard = i
		}
	}
	return impl.House{Up: true, Shard: s}
}

func deskOn(id, phase int) impl.Desk { return impl.Desk{Up: true, Coord: coordAt(id, phase)} }

// busyNet has a house at rest, a busy one and one that is down with something made
// ready, a desk that asks, one that ends, and one that is down; its letters are of
// all kinds, some for machines that aren't there or down, and one can't be read.
func busyNet() impl.Net {
	n := impl.Net{Splits: slices.Clone(deskSplits), Order: []impl.Tx{tx(0, 1), dx(3)}}
	n.Houses = []impl.House{houseOf(0, homeShard(abcd...)), houseOf(1, busyShard()), {Disk: readyDisk(abcd, prepOf("0.5.3", wrote("q", "1"), barring("q", "q\x00")))}}
	n.Desks = []impl.Desk{deskOn(0, 2), deskOn(1, 4), {Disk: shardStore(pair("e", "7"), pair("c", "2.7.3:02")).Disk}}
	n.Letters = lettersOf(asking(tx(3, 1), 1, askScan("h", "o", 8, true)), readying(tx(1, 2), 2, homeStamp+2), ending(tx(0, 1), true), wondering(dx(3)), ofShard(2, asking(tx(3, 1), 1, askGet("q"))))
	n.Letters = append(n.Letters, impl.Letter{Bytes: []byte("x")}, impl.Letter{Up: true, Bytes: msgText(doing(impl.Tx{C: 3, E: 1, N: 1}))}, impl.Letter{Bytes: msgText(ofShard(3, ending(tx(0, 1), false)))})
	for _, m := range []impl.Msg{ofShard(0, telling(dx(3), 2, 700, userPairs(2)...)), ofShard(0, doing(dx(3))), ofShard(1, wondering(dx(2)))} {
		for desk := range 3 {
			m.Tx.C = desk
			n.Letters = append(n.Letters, letterOf(m))
		}
	}
	n.Log = []impl.Reply{replyOf(tx(0, 1), 1, 0), replyAsk(tx(0, 1), askScan("a", "", 8, false), 0, abcd...), replyOf(tx(0, 1), 3, 0), replyAsk(dx(3), askGet("a"), 6)}
	return n
}

// restingNet has three houses and three desks, all up and at rest.
func restingNet() impl.Net {
	n := impl.Net{Splits: slices.Clone(deskSplits)}
	for i := range 3 {
		n.Houses = append(n.Houses, houseOf(i, homeShard(abcd...)))
		n.Desks = append(n.Desks, deskOn(i, 0))
	}
	return n
}

// downNet has all its machines down, on these splits.
func downNet(splits []string, desks int) impl.Net {
	n := impl.Net{Splits: splits}
	for range min(len(splits), 9) + 1 {
		n.Houses = append(n.Houses, impl.House{Disk: shardStore(abcd...).Disk})
	}
	for range desks {
		n.Desks = append(n.Desks, impl.Desk{Disk: shardStore(abcd...).Disk})
	}
	return n
}

func changedNets(change func(do func(what string, change func(n *impl.Net)))) map[string]impl.Net {
	l := map[string]impl.Net{}
	change(func(what string, change func(n *impl.Net)) {
		n := busyNet()
		change(&n)
		l[what] = n
	})
	return l
}

// otherNets are right, each changed in one way.
func otherNets() map[string]impl.Net {
	l := changedNets(func(do func(what string, change func(n *impl.Net))) {
		do("as it is", func(n *impl.Net) {})
		for desks := 1; desks < 4; desks++ {
			do(strconv.Itoa(desks)+" desks", func(n *impl.Net) { n.Desks = n.Desks[:desks] })
		}
		for _, size := range []int{0, 1, 199, 200} {
			do(strconv.Itoa(size)+" letters", func(n *impl.Net) { n.Letters = fillers(size) })
		}
		for _, size := range []int{0, 299, 300} {
			do(strconv.Itoa(size)+" replies", func(n *impl.Net) { n.Log = slices.Repeat(n.Log[1:2], size) })
		}
		do("letters without bytes", func(n *impl.Net) { n.Letters = []impl.Letter{{}, {Up: true}, {Bytes: []byte{}}} })
		do("replies that aren't right", func(n *impl.Net) { n.Log = []impl.Reply{{}, {Kind: -1, Tx: impl.Tx{C: 9}, Code: -9}} })
		do("an order that isn't right", func(n *impl.Net) { n.Order = append(n.Order, impl.Tx{}, impl.Tx{C: 9}, tx(0, 1)) })
		do("a long order", func(n *impl.Net) { n.Order = slices.Repeat(n.Order, 500) })
		do("lists without elements", func(n *impl.Net) {
			n.Letters, n.Log, n.Order = []impl.Letter{}, []impl.Reply{}, []impl.Tx{}
			n.Houses[0].Disk = impl.Disk{Sheets: []impl.Sheet{}, Dirty: []impl.Write{}}
			n.Houses[2].Shard = impl.Shard{Works: []impl.Work{}, Locks: impl.Locks{Held: []impl.Lock{}, Wait: []impl.Lock{}}, Store: impl.Store{Places: []int{}, Tree: impl.Tree{Nodes: []impl.Node{}}, Disk: impl.Disk{Sheets: []impl.Sheet{}}}}
			n.Desks[2].Coord = impl.Coord{Splits: []string{}, Counts: []int{}, Stamps: []int{}, Pend: []int{}, Got: []impl.Msg{}}
		})
		do("disks that nothing can be opened from", func(n *impl.Net) {
			n.Houses[2].Disk, n.Desks[2].Disk = shardStore(pair("b", "999")).Disk, shardStore(pair("e", "999")).Disk
		})
	})
	for _, splits := range [][]string{nil, {}, {"a"}, {"\x00", topUser}, {longUser[:7], longUser}, {"a", "b", "c"}} {
		l["splits "+allText(false, splits)] = downNet(splits, 2)
	}
	l["all at rest"] = restingNet()
	return l
}

// brokenNets: each is wrong in one way.
func brokenNets() map[string]impl.Net {
	l := changedNets(func(do func(what string, change func(n *impl.Net))) {
		do("nothing", func(n *impl.Net) { *n = impl.Net{} })
		do("201 letters", func(n *impl.Net) { n.Letters = fillers(201) })
		do("5000 letters", func(n *impl.Net) { n.Letters = fillers(5000) })
		do("301 replies", func(n *impl.Net) { n.Log = slices.Repeat(n.Log[:1], 301) })
		do("5000 replies", func(n *impl.Net) { n.Log = slices.Repeat(n.Log[:1], 5000) })
		do("no desks", func(n *impl.Net) { n.Desks = nil })
		do("four desks", func(n *impl.Net) { n.Desks = append(n.Desks, n.Desks[2]) })
		do("5000 desks", func(n *impl.Net) { n.Desks = slices.Repeat(n.Desks[2:], 5000) })
		do("no houses", func(n *impl.Net) { n.Houses = nil })
		do("a house too few", func(n *impl.Net) { n.Houses = n.Houses[:2] })
		do("a house too many", func(n *impl.Net) { n.Houses = append(n.Houses, n.Houses[2]) })
		do("5000 houses", func(n *impl.Net) { n.Houses = slices.Repeat(n.Houses[2:], 5000) })
		for i, splits := range [][]string{nil, {"g"}, {"g", "p", "t"}, {"g", "q"}, {"f", "p"}, {"p", "g"}, {"g", "g"}} {
			do("other splits "+strconv.Itoa(i), func(n *impl.Net) { n.Splits = splits })
		}
		breakMachines(do)
	})
	for i, splits := range append(wrongSplits(), []string{"a", longUser + "i"}, []string{longUser + "i"}, []string{longKey}, []string{topUser + "\x00"}) {
		l["the splits "+strconv.Itoa(i)] = downNet(splits, 1)
	}
	return l
}

// stain makes one field after the other of a value something, and nothing again.
func stain(v reflect.Value, path string, look func(path string)) {
	something := reflect.New(v.Type()).Elem()
	switch v.Kind() {
	case reflect.Struct:
		for i := range v.NumField() {
			stain(v.Field(i), path+"."+v.Type().Field(i).Name, look)
		}
		return
	case reflect.Int:
		something.SetInt(1)
	case reflect.Bool:
		something.SetBool(true)
	case reflect.String:
		something.SetString("x")
	case reflect.Slice:
		something.Set(reflect.MakeSlice(v.Type(), 1, 1))
	}
	v.Set(something)
	look(path)
	v.SetZero()
}

func breakMachines(do func(what string, change func(n *impl.Net))) {
	stained := func(what string, part func(n *impl.Net) any) {
		n := busyNet()
		v := reflect.ValueOf(part(&n)).Elem()
		stain(v, what, func(path string) {
			stains := reflect.New(v.Type()).Elem()
			stains.Set(v)
			do(path, func(n *impl.Net) { reflect.ValueOf(part(n)).Elem().Set(stains) })
		})
	}
	stained("a house that is down with", func(n *impl.Net) any { return &n.Houses[2].Shard })
	stained("a desk that is down with", func(n *impl.Net) any { return &n.Desks[2].Coord })
	stained("a house that is up with", func(n *impl.Net) any { return &n.Houses[0].Disk })
	stained("a desk that is up with", func(n *impl.Net) any { return &n.Desks[0].Disk })
	do("a house that is up with its disk", func(n *impl.Net) { n.Houses[0].Disk = n.Houses[0].Shard.Store.Disk })
	do("a desk that is up with its disk", func(n *impl.Net) { n.Desks[0].Disk = n.Desks[0].Coord.Store.Disk })
	do("a house that is up and nothing else", func(n *impl.Net) { n.Houses[2] = impl.House{Up: true} })
	do("a desk that is up and nothing else", func(n *impl.Net) { n.Desks[2] = impl.Desk{Up: true} })
	do("a house that is up with a disk alone", func(n *impl.Net) { n.Houses[2].Up = true })
	do("a desk that is up with a disk alone", func(n *impl.Net) { n.Desks[2].Up = true })
	do("a house that is down with a shard", func(n *impl.Net) { n.Houses[0].Up = false })
	do("a desk that is down with a coordinator", func(n *impl.Net) { n.Desks[0].Up = false })
	do("a house that is down with a shard and a disk", func(n *impl.Net) { n.Houses[0] = impl.House{Shard: n.Houses[0].Shard, Disk: n.Houses[2].Disk} })
	do("a desk that is down with a coordinator and a disk", func(n *impl.Net) { n.Desks[0] = impl.Desk{Coord: n.Desks[0].Coord, Disk: n.Desks[2].Disk} })
	do("a house that is nothing", func(n *impl.Net) { n.Houses[0] = impl.House{} })
	do("a desk that is nothing", func(n *impl.Net) { n.Desks[0] = impl.Desk{} })
	for what, d := range unreadDisks() {
		do("a house that is down with a disk of "+what, func(n *impl.Net) { n.Houses[2].Disk = d })
		do("a desk that is down with a disk of "+what, func(n *impl.Net) { n.Desks[2].Disk = d })
	}
	for i := range 3 {
		do("the Id "+strconv.Itoa(i+1), func(n *impl.Net) { n.Houses[0].Shard.Id = i + 1 })
		do("the Part of "+strconv.Itoa(i+1), func(n *impl.Net) { n.Houses[0].Shard.Part = []impl.Range{{}, {Lo: "g", Hi: "p"}, {Lo: "p"}}[i] })
		do("the desk "+strconv.Itoa(i+1)+" at the first place", func(n *impl.Net) { n.Desks[0] = deskOn(i+1, 2) })
	}
	do("two houses at each other's places", func(n *impl.Net) { n.Houses[0], n.Houses[1] = n.Houses[1], n.Houses[0] })
	do("the Part of another place with its Id", func(n *impl.Net) { n.Houses[1].Shard.Part = impl.Range{Lo: "g", Hi: "q"} })
	for _, splits := range [][]string{{"g", "q"}, {"f", "p"}, {"G", "p"}} {
		do("a desk with the splits "+allText(false, splits), func(n *impl.Net) { n.Desks[1].Coord.Splits = splits })
	}
	do("a desk with a shard more", func(n *impl.Net) {
		c := &n.Desks[1].Coord
		c.Splits, c.Counts, c.Stamps = append(c.Splits, "t"), append(c.Counts, 0), append(c.Stamps, 0)
	})
	do("a shard that isn't right", func(n *impl.Net) { n.Houses[1].Shard.Works[0].Age = 6 })
	do("a shard at the last place that isn't right", func(n *impl.Net) {
		n.Houses[2] = houseOf(2, busyShard())
		n.Houses[2].Shard.Born = 4
	})
	do("a coordinator that isn't right", func(n *impl.Net) { n.Desks[0].Coord.Age = 8 })
	do("a coordinator at the last place that isn't right", func(n *impl.Net) {
		n.Desks[2] = deskOn(2, 3)
		n.Desks[2].Coord.Num = 1000
	})
}

// unreadDisks are such that StoreOpen doesn't open them.
func unreadDisks() map[string]impl.Disk {
	right := shardStore(abcd...)
	none, waits, torn := cloneDisk(right.Disk), with(right.Disk, impl.Write{At: 99, Bytes: counted(1)}), cloneDisk(right.Disk)
	none.Sheets[0].Bytes = nil
	torn.Sheets[right.Places[0]].Bytes[3]++
	return map[string]impl.Disk{"nothing": {}, "two sheets": blank(2), "no meta": none, "something that waits": waits, "a torn page": torn, "a short sheet": diskOf(metaText(impl.Meta{Gen: 2}), nil, []byte("x")), "401 sheets": blank(401)}
}

func TestP15NetLimits(t *testing.T) {
	if impl.MaxDesks != 3 || impl.MaxLetters != 200 || impl.MaxLog != 300 || impl.MaxCalm != 60 || impl.MaxTake != 2000 {
		t.Errorf("limits %d %d %d %d %d", impl.MaxDesks, impl.MaxLetters, impl.MaxLog, impl.MaxCalm, impl.MaxTake)
	}
	kinds := []int{impl.StepCall, impl.StepDeliver, impl.StepLose, impl.StepDouble, impl.StepTick, impl.StepDown, impl.StepTorn, impl.StepUp, impl.StepCalm}
	if !slices.Equal(kinds, upFrom(1, 9)) {
		t.Errorf("kinds %v", kinds)
	}
}

func TestP15NetNew(t *testing.T) {
	for _, desks := range []int{1, 2, 3} {
		for _, splits := range [][]string{nil, {}, {"c"}, {"c", "f"}, {"b", "d", "f"}, {"\x00", topUser}, {longUser}} {
			for _, size := range []int{3, 4, 80, 400} {
				n, ok := checkNew(t, splits, desks, size)
				wantBool(t, "a new net", ok && impl.NetOk(n) && impl.Settled(n) && len(impl.AllData(n)) == 0, true)
			}
		}
	}
	for _, desks := range append(farEnds(), 0, 4, 5) {
		_, ok := checkNew(t, []string{"c"}, desks, 80)
		wantBool(t, "wrong desks", ok, false)
	}
	for _, size := range append(farEnds(), 0, 1, 2, 401, 402) {
		_, ok := checkNew(t, []string{"c"}, 1, size)
		wantBool(t, "wrong sizes "+strconv.Itoa(size), ok, size == 257)
	}
	for _, splits := range append(wrongSplits(), []string{longUser + "i"}, []string{"a", longUser + "i"}, []string{longKey}, []string{"a", "b", "c", "d"}) {
		_, ok := checkNew(t, splits, 3, 80)
		wantBool(t, "wrong splits", ok, false)
	}
}

func TestP15NetOk(t *testing.T) {
	for what, n := range otherNets() {
		wantNetOk(t, what, n, true)
	}
	for what, n := range brokenNets() {
		wantNetOk(t, what, n, false)
	}
}

// Each shard and each coordinator that is wrong makes a net wrong, and so does one
// that is right at another place.
func TestP15NetOkOfEachMachine(t *testing.T) {
	n := downNet([]string{"a", "y"}, 1)
	withShard := func(what string, s impl.Shard, right bool) {
		n.Houses[1] = impl.House{Up: true, Shard: s}
		wantBool(t, "NetOk with a shard: "+what, impl.NetOk(n), right)
	}
	for what, s := range otherShards() {
		withShard(what, s, s.Id == 1 && s.Part == impl.Range{Lo: "a", Hi: "y"})
	}
	for what, s := range brokenShards() {
		withShard(what, s, false)
	}
	n = downNet(deskSplits, 3)
	withCoord := func(what string, c impl.Coord, right bool) {
		n.Desks[2] = impl.Desk{Up: true, Coord: c}
		wantBool(t, "NetOk with a coordinator: "+what, impl.NetOk(n), right)
	}
	for what, c := range otherCoords() {
		withCoord(what, c, c.Id == 2 && slices.Equal(c.Splits, deskSplits))
	}
	for what, c := range brokenCoords() {
		withCoord(what, c, false)
	}
}

// someSteps are of each kind, and something comes of each of them in a busyNet.
func someSteps() []impl.Step {
	return []impl.Step{toCall(0, toAbort()), toDeliver(0), toLose(0), toDouble(0), toTick(), toDown(0), toTear(1, 9), toUp(2), toCalm(1), {Kind: 10}, {}}
}

func TestP15WrongNetsAreRefused(t *testing.T) {
	for what, n := range brokenNets() {
		for _, x := range someSteps() {
			wantNet(t, "Do: "+what, impl.Do(n, x), impl.Net{})
			wantNet(t, "Play: "+what, impl.Play(n, []impl.Step{x}), impl.Net{})
		}
		wantNet(t, "Play of two steps: "+what, impl.Play(n, someSteps()[:2]), impl.Net{})
		wantNet(t, "Play of no steps: "+what, impl.Play(n, nil), n)
		wantBool(t, "Settled: "+what, impl.Settled(n), false)
		wantPairs(t, "AllData: "+what, impl.AllData(n), nil)
	}
	for _, x := range someSteps()[:9] {
		wantBool(t, "something comes of "+stepText(x), sameNet(impl.Do(busyNet(), x), busyNet()), false)
	}
}

func TestP15RightNetsGoOn(t *testing.T) {
	for what, n := range otherNets() {
		if what == "a long order" {
			continue
		}
		for _, x := range someSteps() {
			wantBool(t, "NetOk behind "+stepText(x)+": "+what, impl.NetOk(checkDo(t, what, n, x)), true)
		}
		wantNet(t, "Play of no steps: "+what, impl.Play(n, nil), n)
	}
}

// far are numbers far from those of any place or machine.
func far() []int {
	return append(farEnds(), 1000, 1<<31, 1<<31+1, -1<<31, 1<<62)
}

func TestP15StepsThatCannotBeDone(t *testing.T) {
	n := busyNet()
	for _, kind := range append(far(), 0, 10, 11, 1+1<<32) {
		wantSame(t, "another kind", n, impl.Step{Kind: kind, Call: toAbort()})
		wantSame(t, "another kind", n, impl.Step{Kind: kind, A: 1, B: 1, Keep: []int{1}, Call: toBegin()})
	}
	letters := len(n.Letters)
	for _, at := range append(far(), -1, letters, letters+1) {
		for _, x := range []impl.Step{toDeliver(at), toLose(at), toDouble(at), toTear(at, 1), toTear(at, 9, 512)} {
			wantSame(t, "no such letter", n, x)
		}
	}
	for _, at := range append(far(), -1, -2, -3, 6, 7) {
		wantSame(t, "no such machine", n, toDown(at))
		wantSame(t, "no such machine", n, toUp(at))
	}
	for _, at := range append(far(), -1, 2, 3, 4, 5, 6) {
		for _, x := range someCalls() {
			wantSame(t, "no desk that is up", n, toCall(at, x))
		}
	}
	for i, x := range wrongCalls() {
		if i%5 == 0 {
			wantSame(t, "a wrong call", n, toCall(0, x))
		}
	}
	for _, at := range append(far(), -1, 0, 61, 62) {
		wantSame(t, "no rounds or too many", n, toCalm(at))
	}
}

// What isn't looked at may be anything.
func TestP15StepsWithMoreThanTheyNeed(t *testing.T) {
	n := busyNet()
	for _, x := range someSteps()[:9] {
		want := impl.Do(n, x)
		more := x
		if x.Kind != 7 {
			more.B, more.Keep = -9, []int{math.MinInt64, 9}
		}
		if x.Kind == 5 {
			more.A = 77
		}
		if x.Kind != 1 {
			more.Call = impl.Call{Kind: 9, Ask: askGet("a")}
		}
		wantNet(t, "with more: "+stepText(more), checkDo(t, "with more", n, more), want)
	}
}

func TestP15EachPlaceAndEachMachine(t *testing.T) {
	n := busyNet()
	for place := range n.Letters {
		got := checkDo(t, "busy", n, toDeliver(place))
		wantBool(t, "the letter goes", len(got.Letters) >= len(n.Letters)-1 && (place+1 == len(n.Letters) || allText(false, got.Letters[place]) == allText(false, n.Letters[place+1])), true)
		checkDo(t, "busy", n, toLose(place))
		checkDo(t, "busy", n, toDouble(place))
	}
	for machine := range 6 {
		up := slices.Contains([]int{0, 1, 3, 4}, machine)
		down := checkDo(t, "busy", n, toDown(machine))
		wantBool(t, "one that is up goes down", sameNet(down, n), !up)
		wantBool(t, "one that is down goes up", sameNet(checkDo(t, "busy", n, toUp(machine)), n), up)
		if up {
			again := checkDo(t, "busy", down, toUp(machine))
			wantBool(t, "one that was down is up again", sameNet(down, again), false)
			wantSame(t, "down already", down, toDown(machine))
		}
	}
	rest := restingNet()
	for i := range 3 {
		down := checkDo(t, "at rest", rest, toDown(i))
		wantHouse := impl.House{Disk: rest.Houses[i].Shard.Store.Disk}
		wantBool(t, "a house that is down", sameHouse(down.Houses[i], wantHouse) && sameDesk(down.Desks[i], rest.Desks[i]), true)
		down = checkDo(t, "at rest", rest, toDown(i+3))
		wantDesk := impl.Desk{Disk: rest.Desks[i].Coord.Store.Disk}
		wantBool(t, "a desk that is down", sameDesk(down.Desks[i], wantDesk) && sameHouse(down.Houses[i], rest.Houses[i]), true)
	}
}

func TestP15StepCall(t *testing.T) {
	for phase := range 5 {
		n := restingNet()
		n.Desks[1] = deskOn(1, phase)
		for _, x := range someCalls() {
			got := checkDo(t, "a call", n, toCall(1, x))
			c, out, told := impl.CoordCall(n.Desks[1].Coord, x)
			wantBool(t, "it is what CoordCall answers", sameCoord(got.Desks[1].Coord, c) && allText(false, got.Letters) == allText(false, lettersOf(out...)) && sameReplies(got.Log, told) && len(got.Order) == 0, true)
			down := checkDo(t, "a desk goes down", n, toDown(4))
			wantSame(t, "a desk that is down", down, toCall(1, x))
		}
	}
}

// letterFor is a letter for or from a house, as it is sent or the other way round.
func letterFor(up bool, m impl.Msg) []impl.Letter {
	return []impl.Letter{{Up: up, Bytes: msgText(m)}}
}

// A letter goes also where nobody takes it.
func TestP15StepDeliverToNobody(t *testing.T) {
	n := restingNet()
	n.Desks = n.Desks[:2]
	gone := func(what string, n impl.Net, letters []impl.Letter) {
		t.Helper()
		bare := cloneNet(n)
		n.Letters = letters
		wantNet(t, what, checkDo(t, what, n, toDeliver(0)), bare)
	}
	m := asking(tx(3, 1), 1, askGet("h"))
	for _, b := range [][]byte{nil, {}, []byte("x"), msgText(m)[1:], append(msgText(m), 0), msgText(m)[:9], msgText(impl.Msg{Kind: 8, Tx: m.Tx}), msgText(ofShard(4, m)), make([]byte, 5000)} {
		gone("no message", n, []impl.Letter{{Bytes: b}})
		gone("no message", n, []impl.Letter{{Up: true, Bytes: b}})
	}
	gone("no such house", n, letterFor(false, ofShard(3, m)))
	for c := 2; c < 8; c++ {
		gone("no such desk", n, letterFor(true, wondering(impl.Tx{C: c, E: 1, N: 1})))
	}
	for i := range 3 {
		down := impl.Do(n, toDown(i))
		gone("a house that is down", down, letterFor(false, ofShard(i, ending(tx(3, 1), false))))
	}
	for i := range 2 {
		down := impl.Do(n, toDown(3+i))
		gone("a desk that is down", down, letterFor(true, wondering(impl.Tx{C: i, E: 1, N: 1})))
	}
	gone("an answer for a house", n, letterFor(false, doing(tx(0, 1))))
	gone("a question of a desk for a desk", n, letterFor(true, m))
	gone("an end for a desk", n, letterFor(true, ending(tx(0, 1), true)))
	n.Letters = letterFor(false, m)
	wantBool(t, "one that is taken", len(impl.Do(n, toDeliver(0)).Letters) == 1, true)
	n.Letters = letterFor(true, wondering(tx(1, 1)))
	wantBool(t, "one that a desk takes", len(impl.Do(n, toDeliver(0)).Letters) == 1, true)
	n.Desks[0], n.Desks[1] = deskOn(0, 4), deskOn(1, 4)
	n.Letters = letterFor(true, wondering(impl.Tx{C: 1, E: 5, N: 3}))
	wantNet(t, "by the name, not the shard", impl.Do(n, toDeliver(0)), func() impl.Net {
		want := cloneNet(n)
		want.Letters = letterFor(false, ending(impl.Tx{C: 1, E: 5, N: 3}, true))
		return want
	}())
}

// votingNet has a desk whose last vote, of the house 2, is on its way.
func votingNet(yes bool) impl.Net {
	n := restingNet()
	n.Desks[1] = deskOn(1, 3)
	n.Letters = lettersOf(ofShard(2, voting(impl.Tx{C: 1, E: 5, N: 3}, yes)))
	return n
}

// The order has whom a reply of a commit with code 0 names, and nobody else.
func TestP15TheOrder(t *testing.T) {
	x := impl.Tx{C: 1, E: 5, N: 3}
	n := votingNet(true)
	n.Order = []impl.Tx{dx(9), x}
	got := checkDo(t, "the last vote", n, toDeliver(0))
	wantBool(t, "decided for", slices.Equal(got.Order, []impl.Tx{dx(9), x, x}) && len(got.Log) == 1 && got.Log[0].Code == 0 && len(got.Letters) == 2, true)
	got = checkDo(t, "a no", votingNet(false), toDeliver(0))
	wantBool(t, "voted against", len(got.Order) == 0 && len(got.Log) == 1 && got.Log[0].Code == 7 && len(got.Letters) == 2, true)
	n = votingNet(true)
	n.Desks[1].Coord.Pend = []int{0, 2}
	got = checkDo(t, "not the last vote", n, toDeliver(0))
	wantBool(t, "not yet decided", len(got.Order) == 0 && len(got.Log) == 0 && len(got.Letters) == 0, true)
	for what, store := range crampedDesks(coordAt(1, 3)) {
		n := votingNet(true)
		n.Desks[1].Coord.Store = store
		got := checkDo(t, what, n, toDeliver(0))
		wantBool(t, "a decision that can't come to the disk: "+what, len(got.Order) == 0 && len(got.Log) == 1 && got.Log[0].Code == 9, true)
		wantSame(t, what, n, toTear(0, 9, 512))
	}
	n = votingNet(true)
	n.Log = slices.Repeat([]impl.Reply{replyOf(x, 1, 0)}, 300)
	got = checkDo(t, "a full log", n, toDeliver(0))
	wantBool(t, "decided for, told to nobody", slices.Equal(got.Order, []impl.Tx{x}) && len(got.Log) == 300 && got.Log[299].Kind == 1, true)
	n = restingNet()
	n.Desks[0] = deskOn(0, 1)
	n.Desks[0].Coord.Counts, n.Desks[0].Coord.Stamps = []int{0, 0, 0}, []int{0, 0, 0}
	got = checkDo(t, "a commit of nothing", n, toCall(0, toCommit()))
	wantBool(t, "one that asked nothing isn't in the order", len(got.Order) == 0 && len(got.Log) == 1 && got.Log[0].Code == 0, true)
	n = restingNet()
	n.Desks[0] = deskOn(0, 2)
	n.Desks[0].Coord.Pend, n.Desks[0].Coord.Stamps[1] = []int{0}, 800
	n.Letters = lettersOf(ofShard(0, telling(impl.Tx{C: 0, E: 5, N: 3}, 2, 700)))
	got = checkDo(t, "an ask that is told", n, toDeliver(0))
	wantBool(t, "an ask isn't a commit", len(got.Order) == 0 && len(got.Log) == 1 && got.Log[0].Code == 0, true)
}

// New letters come as far as there is room; of a letter that goes the room is free.
func TestP15LettersKeepToMaxLetters(t *testing.T) {
	scan := toCall(0, toAsk(askScan("", "", 8, false)))
	for size := 195; size <= 200; size++ {
		n := restingNet()
		n.Desks[0] = deskOn(0, 1)
		n.Letters = fillers(size)
		got := checkDo(t, "three letters more", n, scan)
		wantBool(t, "as many as there is room for", len(got.Letters) == min(200, size+3) && got.Desks[0].Coord.Phase == 2, true)
		_, out, _ := impl.CoordCall(n.Desks[0].Coord, scan.Call)
		wantBool(t, "the first ones", allText(false, got.Letters[size:]) == allText(false, lettersOf(out...)[:len(got.Letters)-size]), true)
		n.Desks[0] = deskOn(0, 4)
		n.Houses[1] = houseOf(1, busyShard())
		got = checkDo(t, "a tick", n, toTick())
		wantBool(t, "of a tick the houses' first", len(got.Letters) == min(200, size+4) && (size == 200 || got.Letters[size].Up), true)
		n.Letters = append(lettersOf(ofShard(1, wondering(impl.Tx{C: 0, E: 5, N: 3})), ofShard(1, ending(tx(1, 2), false))), fillers(size-2)...)
		got = checkDo(t, "one for one", n, toDeliver(0))
		wantBool(t, "one for one", len(got.Letters) == size, true)
		got = checkDo(t, "two for one", n, toDeliver(1))
		wantBool(t, "two for one", len(got.Letters) == min(200, size+1) && allText(false, got.Letters[size-1]) == allText(false, letterOf(telling(tx(2, 1), 1, homeStamp+5))), true)
		doubled := checkDo(t, "doubled", n, toDouble(0))
		wantBool(t, "doubled", len(doubled.Letters) == min(200, size+1), true)
		checkDo(t, "calm", n, toCalm(1))
	}
}

func TestP15TheLogKeepsToMaxLog(t *testing.T) {
	for size := 296; size <= 300; size++ {
		n := restingNet()
		n.Log = slices.Repeat([]impl.Reply{replyOf(dx(9), 4, 0)}, size)
		for i := range 3 {
			n.Desks[i] = deskOn(i, 2)
			n.Desks[i].Coord.Age = 7
		}
		got := checkDo(t, "three are given up", n, toTick())
		wantBool(t, "as many as there is room for", len(got.Log) == min(300, size+3) && (size == 300 || got.Log[size].Tx.C == 0 && got.Log[size].Code == 8), true)
		wantBool(t, "all are given up", got.Desks[0].Coord.Phase+got.Desks[1].Coord.Phase+got.Desks[2].Coord.Phase == 0, true)
		got = checkDo(t, "one is given up", n, toCall(2, toAbort()))
		wantBool(t, "one more", len(got.Log) == min(300, size+1), true)
		checkDo(t, "calm", n, toCalm(3))
	}
}

func TestP15StepTick(t *testing.T) {
	n := restingNet()
	for i := range 3 {
		n.Houses[i], n.Desks[i] = houseOf(i, busyShard()), deskOn(i, 2+i)
	}
	for mask := range 64 {
		some := n
		for i := range 6 {
			if mask>>i&1 == 1 {
				some = impl.Do(some, toDown(i))
			}
		}
		got := checkDo(t, "some are down", some, toTick())
		var want []impl.Letter
		for i, x := range some.Houses {
			if x.Up {
				_, out := impl.ShardTick(x.Shard)
				want = append(want, lettersOf(out...)...)
			} else {
				wantBool(t, "one that is down stays as it is", sameHouse(got.Houses[i], x), true)
			}
		}
		for i, x := range some.Desks {
			if x.Up {
				_, out, _ := impl.CoordTick(x.Coord)
				want = append(want, lettersOf(out...)...)
			} else {
				wantBool(t, "one that is down stays as it is", sameDesk(got.Desks[i], x), true)
			}
		}
		wantBool(t, "the letters of those that are up", allText(false, got.Letters) == allText(false, want), true)
	}
}

// cannotOpen are disks with a store that neither a house nor a desk can be opened
// from.
func cannotOpen() map[string]impl.Disk {
	return map[string]impl.Disk{
		"no sheets":          blankStore(2).Disk,
		"the last Gen":       settled(treeWith(abcd...), impl.MaxNum, 40, upFrom(2, 20)).Disk,
		"the last boot":      shardStore(pair("b", "999"), pair("e", "999")).Disk,
		"a tree that's full": shardStore(numberedPairs(200)...).Disk,
	}
}

func blankStore(size int) impl.Store { return settled(impl.Tree{}, 1, size, nil) }

func TestP15StepUpThatCannotBeDone(t *testing.T) {
	for what, d := range cannotOpen() {
		n := restingNet()
		n.Houses[1], n.Desks[2] = impl.House{Disk: d}, impl.Desk{Disk: d}
		wantNetOk(t, what, n, true)
		wantSame(t, what, n, toUp(1))
		wantSame(t, what, n, toUp(5))
		got := checkDo(t, what, n, toCalm(3))
		wantBool(t, "calm leaves it down: "+what, !got.Houses[1].Up && !got.Desks[2].Up && !impl.Settled(got), true)
	}
	clash := readyDisk(nil, prepOf("1.1.1", barring("h", "i")), prepOf("2.1.1", sharing("h", "")))
	n := restingNet()
	n.Houses[1], n.Desks[2] = impl.House{Disk: clash}, impl.Desk{Disk: clash}
	wantSame(t, "locks that clash", n, toUp(1))
	wantBool(t, "a desk asks for no locks", checkDo(t, "locks that clash", n, toUp(5)).Desks[2].Up, true)
}

func TestP15StepCalm(t *testing.T) {
	n := busyNet()
	for _, times := range []int{1, 2, 3, 7} {
		checkDo(t, "busy", n, toCalm(times))
	}
	wantNet(t, "a round more", impl.Do(impl.Do(n, toCalm(2)), toCalm(3)), impl.Do(n, toCalm(5)))
	once := checkDo(t, "busy", n, toCalm(1))
	wantBool(t, "all letters are taken", len(once.Letters) == 0 && once.Houses[2].Up && once.Desks[2].Up, true)
	rest := newPlay(t, []string{"c"}, 1)
	rest.do(toCall(0, toBegin()), replyOf(nx(0, 1), 1, 0))
	rest.do(toCall(0, toAsk(askGet("a"))), ofShard(0, asking(nx(0, 1), 1, askGet("a"))))
	rest.n = checkDo(t, "a house goes down", rest.n, toDown(1))
	wantSame(t, "too many rounds", rest.n, toCalm(61))
	rest.do(toCalm(60), replyAsk(nx(0, 1), askGet("a"), 0))
	wantBool(t, "60 rounds", impl.Settled(rest.n) && rest.n.Houses[1].Up, true)
	full := busyNet()
	full.Letters = slices.Repeat(lettersOf(wondering(impl.Tx{C: 1, E: 5, N: 9})), 200)
	got := checkDo(t, "200 letters", full, toCalm(1))
	wantBool(t, "200 letters, and what comes of them", len(got.Letters) == 0, true)
}

func TestP15Settled(t *testing.T) {
	want := func(what string, n impl.Net, rest bool) {
		t.Helper()
		wantBool(t, "NetOk: "+what, impl.NetOk(n), true)
		wantBool(t, "Settled: "+what, impl.Settled(n), rest)
	}
	want("at rest", restingNet(), true)
	for i := range 6 {
		want("one that is down", impl.Do(restingNet(), toDown(i)), false)
	}
	for i := range 3 {
		n := restingNet()
		n.Houses[i].Shard.Works, n.Houses[i].Shard.Born = []impl.Work{{Tx: tx(3, 1), Stamp: homeStamp + 1}}, 1
		want("a work", n, false)
		for phase := range 5 {
			n := restingNet()
			n.Desks[i] = deskOn(i, phase)
			want("the phase "+phaseNames[phase], n, phase < 2)
		}
	}
	n := restingNet()
	n.Letters = fillers(1)
	want("a letter", n, false)
	n = restingNet()
	n.Log, n.Order = busyNet().Log, busyNet().Order
	want("a log and an order", n, true)
	want("busy", busyNet(), false)
}

func TestP15AllData(t *testing.T) {
	n := restingNet()
	l := []impl.Pair{pair("a", "1"), pair("b", "2"), pair("c", "3"), pair("d", "4")}
	wantPairs(t, "three houses", impl.AllData(n), slices.Concat(l, l, l))
	n.Houses[1].Shard = houseOf(1, homeShard(pair("dz", "9"), pair("d", "x"), pair("q", "x"))).Shard
	wantPairs(t, "one house behind the other", impl.AllData(n), slices.Concat(l, []impl.Pair{pair("z", "9")}, l))
	for i := range 3 {
		wantPairs(t, "one that is down", impl.AllData(impl.Do(n, toDown(i))), slices.Concat(l, []impl.Pair{pair("z", "9")}, l))
	}
	down := impl.Play(n, []impl.Step{toDown(0), toDown(1), toDown(2), toDown(3), toDown(4), toDown(5)})
	wantPairs(t, "all are down", impl.AllData(down), impl.AllData(n))
	n = restingNet()
	n.Houses[1] = houseOf(1, busyShard())
	wantPairs(t, "edits that aren't committed", impl.AllData(n), slices.Concat(l, l, l))
	n.Houses[0] = houseOf(0, homeShard())
	wantPairs(t, "a house without data", impl.AllData(n), slices.Concat(l, l))
}

// oldNet has two desks and three houses, in each of which a key is old.
func oldNet(t *testing.T) impl.Net {
	t.Helper()
	n, _ := impl.NetNew(deskSplits, 2, 80)
	steps := []impl.Step{toCall(1, toBegin())}
	for _, k := range []string{"a", "h", "q"} {
		steps = append(steps, toCall(1, toAsk(askPut(k, "old"))), toCalm(1))
	}
	n = impl.Play(n, append(steps, toCall(1, toCommit()), toCalm(2)))
	if !impl.Settled(n) || len(n.Order) != 1 {
		t.Fatalf("nothing is old: %s", netText(n))
	}
	return n
}

// goThrough is a transaction of the first desk that writes in each house, until
// stop, which is told the net ahead of each letter, says so.
func goThrough(n impl.Net, stop func(n impl.Net) bool) impl.Net {
	for _, x := range []impl.Call{toBegin(), toAsk(askPut("a", "new")), toAsk(askScan("", "", 8, true)), toAsk(askDel("q")), toAsk(askPut("h", "new")), toCommit()} {
		n = impl.Do(n, toCall(0, x))
		for len(n.Letters) > 0 {
			if stop(n) {
				return n
			}
			n = impl.Do(n, toDeliver(0))
		}
	}
	stop(n)
	return n
}

// wantAllOrNothing: at rest each house has what the transaction of goThrough did,
// or none of them, and that is how it was told.
func wantAllOrNothing(t *testing.T, what string, n impl.Net) bool {
	t.Helper()
	n = impl.Do(n, toCalm(30))
	yes := slices.Contains(n.Order, nx(0, 1))
	want := []impl.Pair{pair("a", "old"), pair("h", "old"), pair("q", "old")}
	if yes {
		want = []impl.Pair{pair("a", "new"), pair("h", "new")}
	}
	wantBool(t, what+": Settled", impl.Settled(n), true)
	wantPairs(t, what, impl.AllData(n), want)
	replay, told := replayed(n)
	wantPairs(t, what+": one after the other", replay, want)
	wantBool(t, what+": each was told what was there", told, true)
	for _, r := range n.Log {
		if r.Tx == nx(0, 1) && r.Kind > 1 && (r.Kind == 3 || r.Code > 0) {
			wantBool(t, what+": what was told holds", r.Kind == 3 && r.Code == 0, yes)
		}
	}
	return yes
}

// crashedAt tells whether a run was stopped ahead of the letter of that number.
func crashedAt(n impl.Net, number int) (impl.Net, bool) {
	at := 0
	n = goThrough(n, func(impl.Net) bool { at++; return at > number })
	return n, at > number
}

// Each machine goes down ahead of each letter, which comes, is lost or comes twice.
func TestP4ACrashAtEachStepOfATransaction(t *testing.T) {
	old := oldNet(t)
	fates := map[bool]int{}
	for number := 0; ; number++ {
		n, stopped := crashedAt(old, number)
		if !stopped || t.Failed() {
			break
		}
		for machine := range 4 {
			for i, steps := range [][]impl.Step{{toDown(machine)}, {toDown(machine), toLose(0)}, {toDouble(0), toDown(machine), toUp(machine)}, {toDown(machine), toDeliver(0), toUp(machine)}, {toLose(0)}, {toDouble(0)}} {
				if i < 4 || machine == 0 {
					what := "ahead of the letter " + strconv.Itoa(number) + " of the machine " + strconv.Itoa(machine) + ", way " + strconv.Itoa(i)
					fates[wantAllOrNothing(t, what, impl.Play(n, steps))]++
				}
			}
		}
	}
	if fates[true] < 100 || fates[false] < 100 {
		t.Errorf("only %v crashes", fates)
	}
}

// editsFor are the edits that the machine of a letter would commit for it.
func editsFor(n impl.Net, place int) ([]impl.Edit, impl.Store) {
	house, desk, in := (&netModel{n}).to(place)
	if house >= 0 {
		edits, _ := impl.ShardBatch(n.Houses[house].Shard, in)
		return edits, n.Houses[house].Shard.Store
	}
	if desk >= 0 {
		edits, _ := impl.CoordBatch(n.Desks[desk].Coord, in)
		return edits, n.Desks[desk].Coord.Store
	}
	return nil, impl.Store{}
}

// Each letter that something is committed for is torn in its commit, at each
// operation, in many ways.
func TestP4TornAtEachStepOfATransaction(t *testing.T) {
	old := oldNet(t)
	fates, kinds := map[bool]int{}, map[int]int{}
	for number := 0; ; number++ {
		n, stopped := crashedAt(old, number)
		if !stopped || t.Failed() {
			break
		}
		for place := range n.Letters {
			edits, _ := editsFor(n, place)
			if len(edits) == 0 {
				wantSame(t, "nothing is committed", n, toTear(place, 9, 512))
				continue
			}
			in, _ := msgIn(n.Letters[place].Bytes)
			kinds[in.Kind]++
			for done := -1; done < 8; done++ {
				for _, keep := range [][]int{nil, {511}, {512}, {512, 512, 512, 512}, {0, 300}} {
					torn := impl.Do(n, toTear(place, done, keep...))
					wantBool(t, "the letter is gone", len(torn.Letters) == len(n.Letters)-1 && impl.NetOk(torn), true)
					if place == 0 && done%2 == 0 {
						fates[wantAllOrNothing(t, "torn, "+stepText(toTear(place, done, keep...)), torn)]++
					}
				}
			}
		}
	}
	if fates[true] < 50 || fates[false] < 50 || len(kinds) != 4 {
		t.Errorf("only %v torn ones, of the kinds %v", fates, kinds)
	}
}

// tornWays: how many operations are done, and what comes of what waits.
func tornWays() []impl.Step {
	var l []impl.Step
	for _, done := range append(upFrom(-2, 13), math.MinInt64, math.MinInt64+1, -1<<32, 1<<32, 1<<32+1, math.MaxInt64) {
		for _, keep := range [][]int{nil, {}, {0}, {1}, {511}, {512}, {513}, {-1, 512}, {512, -1}, {100, 200, 300}, slices.Repeat([]int{512}, 9), {math.MinInt64, math.MaxInt64}} {
			l = append(l, toTear(0, done, keep...))
		}
	}
	return l
}

// Of a vote that is torn the order tells whether the decision came to the disk,
// and of nothing else.
func TestP4ATornVoteIsInTheOrderOrNot(t *testing.T) {
	x := impl.Tx{C: 1, E: 5, N: 3}
	for _, before := range []string{"", "q", "9.9.9:0", "1.5.3:3", "1.5.3:"} {
		n := votingNet(true)
		if before != "" {
			retold(&n.Desks[1].Coord, pair("c", before))
		}
		ways := map[bool]int{}
		for _, step := range tornWays() {
			got := checkDo(t, "a vote", n, step)
			behind := decisionOn(got.Desks[1].Disk)
			decided := behind == "1.5.3:02"
			ways[decided]++
			wantBool(t, "the old one or the new one", decided || behind == before, true)
			wantBool(t, "in the order or not", slices.Equal(got.Order, []impl.Tx{x}), decided)
			wantBool(t, "down, and nobody is told", !got.Desks[1].Up && len(got.Log) == 0 && len(got.Letters) == 0 && impl.NetOk(got), true)
			again := checkDo(t, "a vote", got, toUp(4))
			wantBool(t, "behind it the decision stands", again.Desks[1].Up && (again.Desks[1].Coord.Phase == 4) == decided, true)
		}
		if ways[true] < 20 || ways[false] < 20 {
			t.Errorf("only %v ways", ways)
		}
	}
	n := restingNet()
	n.Desks[1] = deskOn(1, 4)
	n.Desks[1].Coord.Pend = []int{2}
	n.Letters = lettersOf(ofShard(2, doing(x)))
	ways := map[string]int{}
	for _, step := range tornWays() {
		got := checkDo(t, "the last that is done", n, step)
		ways[decisionOn(got.Desks[1].Disk)]++
		wantBool(t, "that isn't a vote", len(got.Order) == 0 && !got.Desks[1].Up && len(got.Letters) == 0, true)
	}
	if len(ways) != 2 || ways[""] < 20 || ways["1.5.3:02"] < 20 {
		t.Errorf("only %v ways", ways)
	}
}

// A house that is torn within making ready or ending has all of it or nothing.
func TestP4ATornHouse(t *testing.T) {
	n := restingNet()
	n.Houses[1] = houseOf(1, busyShard())
	for _, in := range []impl.Msg{readying(tx(1, 2), 2, homeStamp+2), ending(tx(0, 1), true), ending(tx(0, 1), false)} {
		n.Letters = lettersOf(in)
		shard, _ := impl.ShardTake(n.Houses[1].Shard, in)
		edits, ok := impl.ShardBatch(n.Houses[1].Shard, in)
		wantBool(t, "there are edits", ok, true)
		ways := map[bool]int{}
		for _, step := range tornWays() {
			got := checkDo(t, "a house", n, step)
			d, code := impl.CommitCrash(n.Houses[1].Shard.Store, edits, step.B, step.Keep)
			wantDisk(t, "as CommitCrash leaves it", got.Houses[1].Disk, code == 0, d)
			s, _ := foundOn(d)
			made := sameTree(s.Tree, shard.Store.Tree)
			ways[made]++
			wantBool(t, "the old tree or the new one", made || sameTree(s.Tree, n.Houses[1].Shard.Store.Tree), true)
			wantBool(t, "down, and nothing is sent", !got.Houses[1].Up && len(got.Letters) == 0 && len(got.Order) == 0 && impl.NetOk(got), true)
			again := checkDo(t, "a house", got, toUp(1)).Houses[1].Shard
			for _, w := range shard.Works {
				if made && w.Ready {
					at := slices.IndexFunc(again.Works, func(v impl.Work) bool { return v.Tx == w.Tx && v.Ready })
					wantBool(t, "what is ready outlives it with its locks", at >= 0 && slices.Equal(recsOf(again, again.Works[max(at, 0)]), recsOf(shard, w)), true)
				}
			}
		}
		if ways[true] < 20 || ways[false] < 20 {
			t.Errorf("only %v ways", ways)
		}
	}
}

func TestP15StepTornOfNoEdits(t *testing.T) {
	n := busyNet()
	tears := []impl.Step{toTear(0, 9), toTear(0, 0), toTear(0, -1), toTear(0, 3, 512, 512, 512)}
	for place, x := range n.Letters {
		edits, _ := editsFor(n, place)
		for _, step := range tears {
			step.A = place
			got := checkDo(t, "busy", n, step)
			wantBool(t, "torn where there are edits", sameNet(got, n), len(edits) == 0)
		}
		down := cloneNet(n)
		down.Letters = []impl.Letter{x}
		down = impl.Play(down, []impl.Step{toDown(0), toDown(1), toDown(3), toDown(4)})
		for _, step := range tears {
			wantSame(t, "all are down", down, step)
		}
	}
	n = votingNet(true)
	for what, letters := range map[string][]impl.Letter{
		"to a house":       letterFor(false, ofShard(2, voting(impl.Tx{C: 1, E: 5, N: 3}, true))),
		"of another desk":  letterFor(true, ofShard(2, voting(impl.Tx{C: 2, E: 5, N: 3}, true))),
		"of no desk":       letterFor(true, ofShard(2, voting(impl.Tx{C: 3, E: 5, N: 3}, true))),
		"of another shard": letterFor(true, ofShard(0, voting(impl.Tx{C: 1, E: 5, N: 3}, true))),
		"a no":             letterFor(true, ofShard(2, voting(impl.Tx{C: 1, E: 5, N: 3}, false))),
		"of no house":      letterFor(false, ofShard(3, ending(tx(0, 1), true))),
		"no message":       fillers(1),
		"no letter":        nil,
	} {
		n.Letters = letters
		for _, step := range tears {
			wantSame(t, "a vote "+what, n, step)
		}
	}
}

// readyOn are the records of what stands as made ready on a house's disk.
func readyOn(x impl.House) map[impl.Tx][]impl.Rec {
	l := map[impl.Tx][]impl.Rec{}
	for _, p := range prepsIn(pairsIn(x)) {
		l[p.Tx] = p.Recs
	}
	return l
}

func pairsIn(x impl.House) []impl.Pair {
	if x.Up {
		return pairsOf(x.Shard)
	}
	s, _ := foundOn(x.Disk)
	return regrown(s.Tree, 0).all()
}

// What was made ready stays so with its locks, whatever comes, until it is told
// how it ends, and that is told once.
func TestP4NetsKeepWhatIsReady(t *testing.T) {
	ended := map[int]map[impl.Tx]bool{}
	ways := map[string]int{}
	netLives(t, 1401, 24, 80, func(before impl.Net, x impl.Step, after impl.Net) {
		if x.Kind < 0 {
			ended = map[int]map[impl.Tx]bool{}
		}
		in := impl.Msg{}
		if x.Kind == 2 || x.Kind == 7 {
			_, _, in = (&netModel{before}).to(x.A)
		}
		for i := range before.Houses {
			was, is := readyOn(before.Houses[i]), readyOn(after.Houses[i])
			for name, recs := range was {
				if _, there := is[name]; !there {
					if ended[i] == nil {
						ended[i] = map[impl.Tx]bool{}
					}
					wantBool(t, "ended by an end, once", !ended[i][name] && (x.Kind == 9 || in.Kind == 5 && in.Tx == name && in.Shard == i), true)
					ended[i][name] = true
					ways["ended "+strconv.Itoa(x.Kind)]++
					continue
				}
				wantBool(t, "what is ready stays as it is", slices.Equal(recs, is[name]), true)
				if s := after.Houses[i].Shard; after.Houses[i].Up {
					at := slices.IndexFunc(s.Works, func(w impl.Work) bool { return w.Tx == name && w.Ready })
					wantBool(t, "its work has its edits and its locks", at >= 0 && slices.Equal(recsOf(s, s.Works[max(at, 0)]), recs), true)
					ways["up "+strconv.FormatBool(before.Houses[i].Up)]++
				}
			}
			for name := range is {
				if _, there := was[name]; !there {
					wantBool(t, "what has ended isn't made ready again", ended[i][name], false)
				}
			}
			want := dataOf(pairsIn(before.Houses[i]), nil)
			if in.Kind == 5 && in.Yes && in.Shard == i && len(is) < len(was) {
				for _, r := range was[in.Tx] {
					if r.Kind < 3 {
						want = dataOf(dPairs(want), []impl.Edit{{Key: r.Key, Val: r.Val, Gone: r.Kind == 2}})
					}
				}
			}
			if x.Kind != 9 {
				wantPairs(t, "the data changes by an end with yes alone", dataOf(pairsIn(after.Houses[i]), nil), want)
			}
		}
	})
	if ways["ended 2"] < 50 || ways["ended 7"] < 5 || ways["ended 9"] < 5 || ways["up true"] < 100 || ways["up false"] < 5 {
		t.Errorf("only %v", ways)
	}
}

// dPairs are clients' pairs as they stand in a tree.
func dPairs(l []impl.Pair) []impl.Pair {
	l = slices.Clone(l)
	for i := range l {
		l[i].Key = "d" + l[i].Key
	}
	return l
}

// What a letter's machine would commit for it is what it commits, and what may be
// torn.
func TestP4NetsCommitWhatTheMachineTells(t *testing.T) {
	ways := map[string]int{}
	netLives(t, 1402, 10, 80, func(before impl.Net, x impl.Step, after impl.Net) {
		if x.Kind != 2 && x.Kind != 7 {
			return
		}
		house, desk, in := (&netModel{before}).to(x.A)
		edits, old := editsFor(before, x.A)
		if house < 0 && desk < 0 {
			return
		}
		var got impl.Store
		var disk impl.Disk
		if house >= 0 {
			got, disk = after.Houses[house].Shard.Store, after.Houses[house].Disk
		} else {
			got, disk = after.Desks[desk].Coord.Store, after.Desks[desk].Disk
		}
		switch {
		case len(edits) == 0:
			wantStore(t, "nothing is committed", got, 0, old)
		case x.Kind == 2:
			made, code := impl.Commit(old, edits)
			wantStore(t, "what is committed", got, code, made)
			ways["committed "+strconv.Itoa(in.Kind)]++
		default:
			d, code := impl.CommitCrash(old, edits, x.B, x.Keep)
			wantDisk(t, "what is torn", disk, code == 0, d)
			ways["torn"]++
		}
	})
	for _, kind := range []string{"3", "4", "5", "6"} {
		if ways["committed "+kind] < 30 {
			t.Errorf("only %v", ways)
		}
	}
	if ways["torn"] < 10 {
		t.Errorf("only %v", ways)
	}
}

// A net may become one that isn't right where a shard does; then calm, like any
// play, leaves nothing, unless no step follows.
func TestP15WhatLeadsToNoRightNet(t *testing.T) {
	n := busyNet()
	n.Houses[1].Shard.Works[newWork].Last = 1
	n.Letters = lettersOf(readying(tx(3, 1), 1, homeStamp+1))
	got := checkDo(t, "ready without records", n, toDeliver(0))
	wantNetOk(t, "ready without records", got, false)
	wantBool(t, "it is there", len(got.Houses) == 3 && len(got.Letters) == 1, true)
	wantNet(t, "calm", checkDo(t, "ready without records", n, toCalm(1)), impl.Net{})
	n = restingNet()
	n.Houses[1] = houseOf(1, busyShard())
	n.Houses[1].Shard.Works[waiterAt].Edits = slices.Repeat([]impl.Edit{puts("e", "5")}, 16)
	n.Houses[1].Shard.Works[waiterAt].Age, n.Houses[1].Shard.Works[toldWork].Age = 0, 0
	n.Letters = lettersOf(ending(tx(1, 2), false))
	wantNetOk(t, "one edit more by a grant", checkDo(t, "a grant", n, toDeliver(0)), false)
	wantNet(t, "calm", checkDo(t, "a grant", n, toCalm(1)), impl.Net{})
	n = restingNet()
	n.Houses[2] = houseOf(2, homeShard())
	n.Houses[2].Shard.Born = 1
	n.Houses[2].Shard.Works = []impl.Work{{Tx: tx(7, 1), Last: 1, Stamp: homeStamp + 1}}
	n.Letters = lettersOf(ofShard(2, readying(tx(7, 1), 1, homeStamp+1)))
	wantNet(t, "two rounds", checkDo(t, "the last but one step", n, toCalm(2)), impl.Net{})
	n.Houses[2].Shard.Works[0].Last, n.Houses[2].Shard.Works[0].Age = 0, 0
	n.Letters = nil
	wantBool(t, "with a right one all goes on", impl.NetOk(checkDo(t, "right", n, toCalm(2))), true)
	n = restingNet()
	n.Houses[1] = houseOf(1, busyShard())
	n.Houses[1].Shard.Works[waiterAt].Last = 0
	n.Letters = lettersOf(ending(tx(1, 2), false))
	got = checkDo(t, "told with no number", n, toDeliver(0))
	wantBool(t, "what isn't right has no letter", allText(false, got.Letters) == allText(false, lettersOf(doing(tx(1, 2)))) && !impl.NetOk(got), true)
}

// thrownNet is right, its machines in states that no play need lead to.
func thrownNet(d *dice) impl.Net {
	c := thrownCoord(d)
	for c.Id > 2 {
		c = thrownCoord(d)
	}
	n := impl.Net{Splits: c.Splits}
	for i := range len(c.Splits) + 1 {
		s := houseOf(0, thrownShard(d)).Shard
		s.Id, s.Part = i, rangeOf(c.Splits, i)
		for j := range s.Works {
			s.Works[j].Tell.Shard = i * bit(s.Works[j].Tell.Kind > 0)
		}
		n.Houses = append(n.Houses, impl.House{Up: true, Shard: s})
		for range d.below(4) {
			n.Letters = append(n.Letters, letterOf(ofShard(i, thrownIn(d, s))))
		}
		if d.below(4) == 0 {
			n.Houses[i] = impl.House{Disk: s.Store.Disk}
		}
	}
	for i := range 3 {
		n.Desks = append(n.Desks, impl.Desk{Disk: thrownCoord(d).Store.Disk})
		if i == c.Id {
			n.Desks[i] = impl.Desk{Up: true, Coord: c}
		} else if d.below(2) == 0 {
			if opened, code := impl.CoordOpen(i, c.Splits, n.Desks[i].Disk); code == 0 {
				n.Desks[i] = impl.Desk{Up: true, Coord: opened}
			}
		}
	}
	for range d.below(5) {
		n.Letters = append(n.Letters, letterOf(thrownNews(d, c)))
	}
	for i := range n.Letters {
		j := d.below(i + 1)
		n.Letters[i], n.Letters[j] = n.Letters[j], n.Letters[i]
		if d.below(20) == 0 {
			n.Letters[i].Up = !n.Letters[i].Up
		}
	}
	if d.below(8) == 0 {
		n.Letters = append(n.Letters, fillers(198-len(n.Letters)+d.below(3))...)
	}
	if d.below(8) == 0 {
		n.Log = slices.Repeat([]impl.Reply{replyOf(dx(1), 4, 1)}, 298+d.below(3))
	}
	return n
}

func TestP15ThrownNets(t *testing.T) {
	throw := dice(1520)
	ways := map[string]int{}
	for range 700 {
		n := thrownNet(&throw)
		wantNetOk(t, "a thrown net", n, true)
		for i := range 4 {
			step := thrownStep(&throw, n)
			if i == 1 {
				step = toDeliver(throw.below(len(n.Letters) + 1))
			}
			if i > 1 {
				step = thrownKind(&throw, n, 1+throw.below(9))
			}
			got := checkDo(t, "a thrown net", n, step)
			ways[strconv.Itoa(step.Kind)+" "+strconv.FormatBool(sameNet(got, n))]++
			ways["order"] += len(got.Order)
			ways["log"] += bit(len(got.Log) > len(n.Log))
			ways["full"] += bit(len(got.Letters) == 200 && len(n.Letters) < 200)
			ways["right"] += bit(impl.NetOk(got))
		}
		if t.Failed() {
			t.Fatalf("the net was %s", netText(n))
		}
	}
	for way, least := range map[string]int{"1 false": 20, "2 false": 500, "4 false": 5, "5 false": 10, "6 false": 5, "7 false": 20, "8 false": 5, "9 false": 3, "order": 10, "log": 50, "full": 3, "right": 2000} {
		if ways[way] < least {
			t.Errorf("only %d of %s: %v", ways[way], way, ways)
		}
	}
}

// Plays on disks with room and with little, each step held against the model.
func TestP15ThrownPlays(t *testing.T) {
	ways := map[int]int{}
	for _, size := range []int{80, 7, 4, 3} {
		netLives(t, 1530+size, 2, size, func(before impl.Net, x impl.Step, after impl.Net) {
			if x.Kind >= 0 {
				wantNet(t, "a play, "+stepText(x), after, behind(before, x))
				wantBool(t, "NetOk behind it", impl.NetOk(after), true)
				ways[x.Kind] += bit(!sameNet(before, after))
			}
		})
	}
	for kind := 1; kind < 10; kind++ {
		if ways[kind] < 10 {
			t.Errorf("only %v", ways)
		}
	}
}

// netWithRoom is a net whose lists all have room behind them.
func netWithRoom(n impl.Net) impl.Net {
	n = cloneNet(n)
	for i, x := range n.Houses {
		n.Houses[i] = impl.House{Up: x.Up, Shard: shardWithRoom(x.Shard), Disk: diskWithRoom(x.Disk)}
	}
	for i, x := range n.Desks {
		n.Desks[i] = impl.Desk{Up: x.Up, Coord: coordWithRoom(x.Coord), Disk: diskWithRoom(x.Disk)}
	}
	for i, x := range n.Letters {
		n.Letters[i].Bytes = marked(x.Bytes, 'R')
	}
	for i, x := range n.Log {
		n.Log[i].Pairs = marked(x.Pairs, pair("mark", ""))
	}
	n.Splits, n.Order, n.Log = marked(n.Splits, "mark"), marked(n.Order, dx(7)), marked(n.Log, impl.Reply{Kind: -7})
	n.Houses, n.Desks, n.Letters = marked(n.Houses, impl.House{}), marked(n.Desks, impl.Desk{}), marked(n.Letters, impl.Letter{Up: true})
	return n
}

func netAnswers(n impl.Net, steps []impl.Step) map[string][]any {
	fresh, _ := impl.NetNew(n.Splits, 3, 9)
	all := map[string][]any{"NetNew": {fresh}, "Play": {impl.Play(n, steps)}, "Play of no steps": {impl.Play(n, nil)}, "AllData": {impl.AllData(n)}}
	for i, x := range steps {
		all["Do "+strconv.Itoa(i)] = []any{impl.Do(n, x)}
	}
	impl.NetOk(n)
	impl.Settled(n)
	return all
}

// netPieces are the lists of a net, each alone, as they may be one memory.
func netPieces(n impl.Net) []any {
	l := []any{n.Splits, n.Order, n.Log[:0], n.Letters[:0], n.Houses[:0], n.Desks[:0]}
	for _, x := range n.Houses {
		l = append(append(l, x.Disk), spreadOf(x.Shard, impl.Msg{}, nil)...)
	}
	for _, x := range n.Desks {
		l = append(append(l, x.Disk), listsOf(x.Coord, impl.Msg{})...)
	}
	for _, x := range n.Letters {
		l = append(l, x.Bytes)
	}
	for _, x := range n.Log {
		l = append(l, x.Pairs)
	}
	return l
}

func checkNetMemory(t *testing.T, what string, n impl.Net, steps []impl.Step) {
	t.Helper()
	told := askTwice(t, what, func() map[string][]any { return netAnswers(n, steps) }, n, steps)
	wantBool(t, what+": the lists of the arguments are apart", sharesMemory(n, steps), false)
	wantApart(t, what, told, n, steps)
}

// memorySteps are of each kind, at several places.
func memorySteps(n impl.Net) []impl.Step {
	l := []impl.Step{toTick(), toCalm(1), toCalm(61), {Kind: 12}, toCall(0, toAbort()), toCall(1, toBegin()), toCall(2, toAsk(askScan("", "", 8, true)))}
	for i := range 6 {
		l = append(l, toDown(i), toUp(i))
	}
	for i := range n.Letters {
		l = append(l, toDeliver(i), toTear(i, 2, marked([]int{100, 511}, -7)...))
	}
	return append(l, toLose(0), toDouble(0), toLose(len(n.Letters)-1), toDouble(len(n.Letters)-1))
}

func TestP15NetsAreNewMemory(t *testing.T) {
	n := busyNet()
	checkNetMemory(t, "busy", netWithRoom(n), memorySteps(n))
	checkNetMemory(t, "voting", netWithRoom(votingNet(true)), memorySteps(votingNet(true)))
	n = restingNet()
	n.Desks[0] = deskOn(0, 2)
	n.Desks[0].Coord.Pend, n.Desks[0].Coord.Stamps[1] = []int{0}, 800
	n.Letters = lettersOf(ofShard(0, telling(impl.Tx{C: 0, E: 5, N: 3}, 2, 700, userPairs(3)...)))
	checkNetMemory(t, "the last to tell", netWithRoom(n), memorySteps(n))
	throw := dice(1540)
	for range 15 {
		n := thrownNet(&throw)
		checkNetMemory(t, "thrown", netWithRoom(n), memorySteps(n)[:min(30, len(memorySteps(n)))])
	}
}

// The lists of a net may be pieces of one memory; those of an answer not.
func TestP15NetsOfOneMemoryAreApart(t *testing.T) {
	n := busyNet()
	bytes, pairs, disk := n.Letters[0].Bytes, userPairs(6), n.Houses[2].Disk
	n.Letters = append(n.Letters[:9], n.Letters[:9]...)
	n.Letters = append(n.Letters, impl.Letter{Bytes: bytes[:3]}, impl.Letter{Up: true, Bytes: bytes[2:]})
	n.Log = []impl.Reply{replyAsk(dx(1), askGet("a"), 0, pairs[:4]...), replyAsk(dx(1), askGet("a"), 0, pairs[2:]...)}
	n.Houses[0], n.Desks[2] = impl.House{Disk: disk}, impl.Desk{Disk: disk}
	for i := range n.Desks[:2] {
		n.Desks[i].Coord.Splits = n.Splits
	}
	numbers := []int{2, 0, 1, 0, 1}
	n.Desks[1].Coord.Counts, n.Desks[0].Coord.Pend = numbers[:3], numbers[3:]
	n.Houses[1].Shard.Store.Disk.Sheets[250] = disk.Sheets[2]
	wantNetOk(t, "one memory", n, true)
	steps := memorySteps(n)
	told := askTwice(t, "one memory", func() map[string][]any { return netAnswers(n, steps) }, n, steps)
	wantApart(t, "one memory", told, netPieces(n)...)
}

func TestP15RefusalsChangeNoNet(t *testing.T) {
	for what, n := range brokenNets() {
		if len(n.Letters)+len(n.Log)+len(n.Desks)+len(n.Houses)+len(n.Splits) > 400 {
			continue
		}
		before := allText(true, n)
		netAnswers(n, someSteps())
		wantBool(t, what+" stays as it is", allText(true, n) == before, true)
		same := impl.Play(n, nil)
		if sharesMemory(same) {
			t.Errorf("%s: of Play of no steps two lists share memory", what)
		}
		for _, arg := range netPieces(n) {
			if sharesMemory(same, arg) {
				t.Errorf("%s: Play of no steps shares memory with an argument", what)
			}
		}
	}
}
