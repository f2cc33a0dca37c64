package tests

import (
	"bytes"
	"math"
	"slices"
	"strconv"
	"strings"
	"testing"

	"loop.example/g00392/impl"
)

// diskOf has a sheet for each list, without bytes where that has none.
func diskOf(sheets ...[]byte) impl.Disk {
	var d impl.Disk
	for _, b := range sheets {
		d.Sheets = append(d.Sheets, impl.Sheet{Bytes: slices.Clone(b)})
	}
	return d
}

// with is a disk with writes behind those that wait.
func with(d impl.Disk, writes ...impl.Write) impl.Disk {
	c := cloneDisk(d)
	c.Dirty = append(c.Dirty, cloneDisk(impl.Disk{Dirty: writes}).Dirty...)
	return c
}

func cloneDisk(d impl.Disk) impl.Disk {
	var c impl.Disk
	for _, s := range d.Sheets {
		c.Sheets = append(c.Sheets, impl.Sheet{Bytes: slices.Clone(s.Bytes)})
	}
	for _, w := range d.Dirty {
		c.Dirty = append(c.Dirty, impl.Write{At: w.At, Bytes: slices.Clone(w.Bytes)})
	}
	return c
}

func sameDisk(a, b impl.Disk) bool {
	return slices.EqualFunc(a.Sheets, b.Sheets, func(x, y impl.Sheet) bool { return bytes.Equal(x.Bytes, y.Bytes) }) &&
		slices.EqualFunc(a.Dirty, b.Dirty, func(x, y impl.Write) bool { return x.At == y.At && bytes.Equal(x.Bytes, y.Bytes) })
}

// diskText is short enough to be told: a sheet's first and last bytes.
func diskText(d impl.Disk) string {
	short := func(b []byte) string {
		if len(b) < 2 {
			return strconv.Quote(string(b))
		}
		return strconv.Itoa(len(b)) + strconv.Quote(string(b[:2])+".."+string(b[len(b)-2:]))
	}
	s := strconv.Itoa(len(d.Sheets)) + " sheets"
	for _, x := range d.Sheets[:min(len(d.Sheets), 8)] {
		s += " " + short(x.Bytes)
	}
	s += ", " + strconv.Itoa(len(d.Dirty)) + " waiting"
	for _, w := range d.Dirty[:min(len(d.Dirty), 8)] {
		s += " " + strconv.Itoa(w.At) + ":" + short(w.Bytes)
	}
	return s
}

func wantDisk(t *testing.T, what string, got impl.Disk, ok bool, want impl.Disk) {
	t.Helper()
	if !ok || !sameDisk(got, want) {
		t.Errorf("%s: %s %v, want %s", what, diskText(got), ok, diskText(want))
	}
}

func wantNoDisk(t *testing.T, what string, got impl.Disk, ok bool) {
	t.Helper()
	if ok || len(got.Sheets) != 0 || len(got.Dirty) != 0 {
		t.Errorf("%s: %s %v, want nothing and false", what, diskText(got), ok)
	}
}

func wantRead(t *testing.T, what string, d impl.Disk, at int, want []byte) {
	t.Helper()
	b, ok := impl.DiskRead(d, at)
	wantBytes(t, what, b, ok, want)
}

func wantDiskMeta(t *testing.T, what string, d impl.Disk, want impl.Meta, right bool) {
	t.Helper()
	if m, ok := impl.DiskMeta(d); m != want || ok != right {
		t.Errorf("%s: DiskMeta is %v %v, want %v %v", what, m, ok, want, right)
	}
}

// readAhead reads a sheet by writing one after the other over it, the other way
// round than the program looks.
func readAhead(d impl.Disk, at int) []byte {
	b := make([]byte, 512)
	copy(b, d.Sheets[at].Bytes)
	for _, w := range d.Dirty {
		if w.At == at {
			copy(b, w.Bytes)
		}
	}
	return b
}

// crashed tells byte by byte what a crash leaves: that of the last write that
// came so far, else what the sheet has.
func crashed(d impl.Disk, keep []int) impl.Disk {
	c := cloneDisk(impl.Disk{Sheets: d.Sheets})
	for place := range 512 {
		set := map[int]bool{}
		for i := min(len(d.Dirty), len(keep)) - 1; i >= 0; i-- {
			w := d.Dirty[i]
			if keep[i] <= place || set[w.At] {
				continue
			}
			set[w.At] = true
			if len(c.Sheets[w.At].Bytes) == 0 {
				c.Sheets[w.At].Bytes = make([]byte, 512)
			}
			c.Sheets[w.At].Bytes[place] = w.Bytes[place]
		}
	}
	return c
}

// synced keeps the sheets that nothing waits for as they are.
func synced(d impl.Disk) impl.Disk {
	c := cloneDisk(impl.Disk{Sheets: d.Sheets})
	for _, w := range d.Dirty {
		c.Sheets[w.At].Bytes = readAhead(d, w.At)
	}
	return c
}

// metaOn asks both sheets of metas by the tests' own reader.
func metaOn(d impl.Disk) (impl.Meta, bool) {
	even, isEven := metaIn(readAhead(d, 0))
	odd, isOdd := metaIn(readAhead(d, 1))
	isEven = isEven && even.Gen&1 == 0
	isOdd = isOdd && odd.Gen&1 == 1
	switch {
	case isEven && isOdd && even.Gen > odd.Gen, isEven && !isOdd:
		return even, true
	case isOdd:
		return odd, true
	}
	return impl.Meta{}, false
}

func thrownSheet(d *dice) []byte {
	switch d.below(6) {
	case 0:
		return make([]byte, 512)
	case 1:
		return metaText(impl.Meta{Gen: 1 + d.below(300), Root: 2 + d.below(398)})
	}
	return counted(d.below(256))
}

func thrownDisk(d *dice, waiting int) impl.Disk {
	var disk impl.Disk
	for range 2 + d.below(4) {
		s := impl.Sheet{}
		if d.below(3) > 0 {
			s.Bytes = thrownSheet(d)
		}
		disk.Sheets = append(disk.Sheets, s)
	}
	for range waiting {
		disk.Dirty = append(disk.Dirty, impl.Write{At: d.below(len(disk.Sheets)), Bytes: thrownSheet(d)})
	}
	return disk
}

// thrownKeep: the places near the ends of a page more often than the others.
func thrownKeep(d *dice, size int) []int {
	var keep []int
	for range size {
		n := d.below(513)
		if d.below(2) == 0 {
			n = someKeeps()[d.below(len(someKeeps()))]
		}
		keep = append(keep, n)
	}
	return keep
}

func someKeeps() []int {
	return []int{math.MinInt64, math.MinInt64 + 1, -1 << 32, -513, -512, -1, 0, 1, 2, 6, 256, 507, 510, 511, 512, 513, 1024, 1 << 32, 1<<32 + 5, impl.MaxNum + 1, math.MaxInt64 - 1, math.MaxInt64}
}

// thrownDisks: each number of waiting writes from none on, several times.
func thrownDisks(seed int) []impl.Disk {
	d := dice(seed)
	var l []impl.Disk
	for i := range 400 {
		l = append(l, thrownDisk(&d, i%10))
	}
	return l
}

// blank is a disk of so many sheets that were never written.
func blank(n int) impl.Disk {
	return impl.Disk{Sheets: make([]impl.Sheet, n)}
}

// dirty has so many writes waiting, over all its sheets in turn.
func dirty(sheets, waiting int) impl.Disk {
	d := blank(sheets)
	for i := range waiting {
		d.Dirty = append(d.Dirty, impl.Write{At: i % sheets, Bytes: counted(i)})
	}
	return d
}

// farPlaces: numbers of no sheet where there are so many of them.
func farPlaces(size int) []int {
	return append(wrongShards(size), impl.MaxPages, impl.MaxPages+1, 65536, 65537, impl.MaxNum, impl.MaxNum+1, -impl.MaxNum)
}

func wrongSizes() []int {
	return []int{1, 2, 5, 256, 510, 511, 513, 514, 1024, 4096, 5000}
}

// wrongDisks have a meta that could be read, and one thing that isn't right.
func wrongDisks() map[string]impl.Disk {
	right := with(diskOf(metaText(impl.Meta{Gen: 2}), metaText(impl.Meta{Gen: 3, Root: 2}), counted(1)), impl.Write{At: 2, Bytes: counted(2)}, impl.Write{At: 1, Bytes: metaText(impl.Meta{Gen: 5})})
	l := map[string]impl.Disk{"nothing": {}, "no sheets, a write": {Dirty: right.Dirty}, "one sheet": {Sheets: right.Sheets[:1]}, "no sheets": {Sheets: []impl.Sheet{}, Dirty: []impl.Write{}}}
	for _, size := range []int{401, 402, 800, 5000} {
		d := cloneDisk(right)
		d.Sheets = append(d.Sheets, make([]impl.Sheet, size-3)...)
		l[strconv.Itoa(size)+" sheets"] = d
	}
	for _, size := range []int{501, 502, 1000, 5000} {
		d := cloneDisk(right)
		for len(d.Dirty) < size {
			d.Dirty = append(d.Dirty, right.Dirty[0])
		}
		l[strconv.Itoa(size)+" writes"] = d
	}
	for _, at := range farPlaces(3) {
		for i := range right.Dirty {
			d := cloneDisk(right)
			d.Dirty[i].At = at
			l["the write "+strconv.Itoa(i)+" to "+strconv.Itoa(at)] = d
		}
	}
	for _, size := range append(wrongSizes(), 0) {
		for i := range right.Dirty {
			d := cloneDisk(right)
			d.Dirty[i].Bytes = make([]byte, size)
			l["the write "+strconv.Itoa(i)+" of "+strconv.Itoa(size)+" bytes"] = d
		}
		for i := range right.Sheets {
			d := cloneDisk(right)
			d.Sheets[i].Bytes = make([]byte, size)
			if size > 0 {
				l["the sheet "+strconv.Itoa(i)+" of "+strconv.Itoa(size)+" bytes"] = d
			}
		}
	}
	return l
}

func TestP5ASyncedDiskKeepsAllThroughACrash(t *testing.T) {
	throw := dice(50)
	for _, d := range thrownDisks(5) {
		s := impl.DiskSync(d)
		for _, keep := range [][]int{nil, {}, {0}, {-1}, {5}, {512}, {513, 100, 1}, slices.Repeat([]int{512}, 600), thrownKeep(&throw, len(d.Dirty)), thrownKeep(&throw, 12)} {
			wantDisk(t, "a crash behind a sync", impl.DiskCrash(s, keep), true, s)
		}
		for at := range d.Sheets {
			wantRead(t, "behind a sync and a crash", impl.DiskCrash(s, []int{100, 200}), at, readAhead(d, at))
		}
	}
}

func TestP5WhatIsReadIsTheSameAheadAndBehindASync(t *testing.T) {
	for _, d := range thrownDisks(55) {
		s := impl.DiskSync(d)
		for at := range d.Sheets {
			wantRead(t, "ahead of a sync", d, at, readAhead(d, at))
			wantRead(t, "behind a sync", s, at, readAhead(d, at))
		}
		want, right := metaOn(d)
		wantDiskMeta(t, "ahead of a sync", d, want, right)
		wantDiskMeta(t, "behind a sync", s, want, right)
		wantDisk(t, "a sync behind a sync", impl.DiskSync(s), true, s)
	}
}

// What wasn't synced is there as far as it came, whatever a sheet had.
func TestP5ACrashLeavesWhatCame(t *testing.T) {
	throw := dice(500)
	for _, d := range thrownDisks(555) {
		wantDisk(t, "all came", impl.DiskCrash(d, slices.Repeat([]int{512}, len(d.Dirty))), true, impl.DiskSync(d))
		wantDisk(t, "nothing came", impl.DiskCrash(d, nil), true, impl.Disk{Sheets: d.Sheets})
		for size := range len(d.Dirty) + 3 {
			keep := thrownKeep(&throw, size)
			wantDisk(t, "a part came", impl.DiskCrash(d, keep), true, crashed(d, keep))
		}
	}
}

// The last page of a commit is torn at every place over what lies on its sheet:
// the meta ahead of it is told until the sheet holds all its bytes.
func TestP5AMetaThatIsTornOnADisk(t *testing.T) {
	for _, gen := range []int{1, 2, 3, 4, 5, 254, 255, 256, 257, 65534, 65535, 1<<32 - 1, 1 << 32, impl.MaxNum - 1} {
		old := impl.Meta{Gen: gen, Root: 2}
		d := diskOf(nil, nil, counted(2), counted(3))
		d.Sheets[gen%2].Bytes = metaText(old)
		checkTornMeta(t, d, old)
		if gen > 1 {
			d.Sheets[1-gen%2].Bytes = metaText(impl.Meta{Gen: gen - 1, Root: 3})
			checkTornMeta(t, d, old)
		}
	}
}

func checkTornMeta(t *testing.T, d impl.Disk, old impl.Meta) {
	t.Helper()
	fresh := impl.Meta{Gen: old.Gen + 1, Root: 3}
	place := fresh.Gen % 2
	wantDiskMeta(t, "ahead of the write", d, old, true)
	written, ok := impl.DiskWrite(d, place, metaText(fresh))
	wantDisk(t, "the write", written, ok, with(d, impl.Write{At: place, Bytes: metaText(fresh)}))
	wantDiskMeta(t, "behind the write", written, fresh, true)
	for n := -1; n <= 513; n++ {
		torn := impl.DiskCrash(written, []int{n})
		wantDisk(t, "torn at "+strconv.Itoa(n), torn, true, crashed(written, []int{n}))
		want := old
		if n >= 512 || bytes.Equal(crashed(written, []int{n}).Sheets[place].Bytes, metaText(fresh)) {
			want = fresh
		}
		wantDiskMeta(t, "Gen "+strconv.Itoa(fresh.Gen)+" torn at "+strconv.Itoa(n), torn, want, true)
	}
	wantDiskMeta(t, "synced and crashed", impl.DiskCrash(impl.DiskSync(written), []int{3}), fresh, true)
}

// Writes, syncs and crashes one after the other, held against the tests' own.
func TestP5ThrownLivesOfADisk(t *testing.T) {
	throw := dice(5005)
	for range 40 {
		size := 2 + throw.below(5)
		d, ok := impl.DiskNew(size)
		want := blank(size)
		wantDisk(t, "DiskNew", d, ok, want)
		for range 60 {
			switch throw.below(8) {
			case 0:
				d, want = impl.DiskSync(d), synced(want)
			case 1:
				keep := thrownKeep(&throw, throw.below(len(want.Dirty)+2))
				d, want = impl.DiskCrash(d, keep), crashed(want, keep)
			default:
				at, b := throw.below(size), thrownSheet(&throw)
				d, ok = impl.DiskWrite(d, at, b)
				wantBool(t, "DiskWrite", ok, true)
				want = with(want, impl.Write{At: at, Bytes: b})
			}
			wantDisk(t, "a step", d, impl.DiskOk(d), want)
			at := throw.below(size)
			wantRead(t, "behind a step", d, at, readAhead(want, at))
			m, right := metaOn(want)
			wantDiskMeta(t, "behind a step", d, m, right)
		}
	}
}

func TestP15DiskLimits(t *testing.T) {
	if impl.MaxDirty != 500 {
		t.Error("a constant isn't as the document says")
	}
}

func TestP15DiskOkOfSheets(t *testing.T) {
	for n := range 500 {
		d := blank(n)
		wantBool(t, "DiskOk of "+strconv.Itoa(n)+" sheets", impl.DiskOk(d), n >= 2 && n <= 400)
		for i := range d.Sheets {
			d.Sheets[i].Bytes = make([]byte, 512)
		}
		wantBool(t, "DiskOk of "+strconv.Itoa(n)+" written sheets", impl.DiskOk(d), n >= 2 && n <= 400)
	}
	for _, sheets := range []int{2, 3, 400} {
		for _, place := range []int{0, 1, sheets - 1} {
			for size := range 1100 {
				d := blank(sheets)
				d.Sheets[place].Bytes = make([]byte, size)
				wantBool(t, "DiskOk of a sheet of "+strconv.Itoa(size), impl.DiskOk(d), size == 0 || size == 512)
			}
		}
	}
}

func TestP15DiskOkOfWhatWaits(t *testing.T) {
	for _, sheets := range []int{2, 3, 399, 400} {
		for _, waiting := range []int{0, 1, 2, 3, 400, 401, 499, 500, 501, 502, 1000} {
			wantBool(t, "DiskOk of "+strconv.Itoa(waiting)+" writes", impl.DiskOk(dirty(sheets, waiting)), waiting <= 500)
		}
		for _, place := range []int{0, 250, 499} {
			d := dirty(sheets, 500)
			for at := -5; at < 500; at++ {
				d.Dirty[place].At = at
				wantBool(t, "DiskOk of a write to "+strconv.Itoa(at), impl.DiskOk(d), at >= 0 && at < sheets)
			}
			for _, at := range farPlaces(sheets) {
				d.Dirty[place].At = at
				wantBool(t, "DiskOk of a write to "+strconv.Itoa(at), impl.DiskOk(d), at >= 0 && at < sheets)
			}
			d.Dirty[place].At = 0
			for size := range 1100 {
				d.Dirty[place].Bytes = make([]byte, size)
				wantBool(t, "DiskOk of a write of "+strconv.Itoa(size), impl.DiskOk(d), size == 512)
			}
		}
	}
	for _, n := range []int{0, 1, 401} {
		wantBool(t, "DiskOk of "+strconv.Itoa(n)+" sheets and a write", impl.DiskOk(with(blank(n), impl.Write{Bytes: counted(1)})), false)
	}
}

func TestP15DiskNew(t *testing.T) {
	for n := -10; n < 1000; n++ {
		d, ok := impl.DiskNew(n)
		if n < 2 || n > 400 {
			wantNoDisk(t, "DiskNew of "+strconv.Itoa(n), d, ok)
			continue
		}
		wantDisk(t, "DiskNew of "+strconv.Itoa(n), d, ok, blank(n))
		wantBool(t, "DiskOk of a new disk", impl.DiskOk(d), true)
	}
	for _, n := range append(farPlaces(401), math.MaxInt32, math.MinInt32) {
		d, ok := impl.DiskNew(n)
		if n != 400 {
			wantNoDisk(t, "DiskNew of "+strconv.Itoa(n), d, ok)
		}
	}
	d, _ := impl.DiskNew(5)
	for at := range 5 {
		wantRead(t, "a new disk", d, at, make([]byte, 512))
	}
	wantDiskMeta(t, "a new disk", d, impl.Meta{}, false)
}

func TestP15DiskRead(t *testing.T) {
	d := with(diskOf(counted(0), nil, counted(2), make([]byte, 512), nil), impl.Write{At: 2, Bytes: counted(20)}, impl.Write{At: 4, Bytes: counted(40)}, impl.Write{At: 2, Bytes: counted(21)}, impl.Write{At: 3, Bytes: counted(30)}, impl.Write{At: 3, Bytes: make([]byte, 512)})
	wantRead(t, "a sheet", d, 0, counted(0))
	wantRead(t, "a sheet that was never written", d, 1, make([]byte, 512))
	wantRead(t, "a sheet that was written twice", d, 2, counted(21))
	wantRead(t, "a sheet on which zeros wait behind others", d, 3, make([]byte, 512))
	wantRead(t, "a sheet for which the first write waits", d, 4, counted(40))
	for _, at := range farPlaces(5) {
		b, ok := impl.DiskRead(d, at)
		wantNoBytes(t, "DiskRead of "+strconv.Itoa(at), b, ok)
	}
	full := dirty(400, 500)
	for at := range 400 {
		want := counted(at)
		if at < 100 {
			want = counted(400 + at)
		}
		wantRead(t, "a full disk", full, at, want)
	}
	for _, at := range []int{-1, 400, 401, 499, 500} {
		b, ok := impl.DiskRead(full, at)
		wantNoBytes(t, "DiskRead of a full disk at "+strconv.Itoa(at), b, ok)
	}
}

func TestP15DiskWrite(t *testing.T) {
	for _, sheets := range []int{2, 3, 400} {
		d := with(blank(sheets), impl.Write{At: 1, Bytes: counted(1)})
		d.Sheets[0].Bytes = counted(2)
		for _, at := range []int{0, 1, sheets - 1} {
			got, ok := impl.DiskWrite(d, at, counted(3))
			want := with(d, impl.Write{At: at, Bytes: counted(3)})
			wantDisk(t, "DiskWrite to "+strconv.Itoa(at), got, ok, want)
			wantRead(t, "what was written", got, at, counted(3))
			again, ok := impl.DiskWrite(got, at, counted(3))
			wantDisk(t, "the same once more", again, ok, with(want, impl.Write{At: at, Bytes: counted(3)}))
		}
		for _, at := range farPlaces(sheets) {
			got, ok := impl.DiskWrite(d, at, counted(3))
			if at < 0 || at >= sheets {
				wantNoDisk(t, "DiskWrite to "+strconv.Itoa(at), got, ok)
			}
		}
		for _, size := range append(wrongSizes(), 0) {
			got, ok := impl.DiskWrite(d, 1, make([]byte, size))
			wantNoDisk(t, "DiskWrite of "+strconv.Itoa(size)+" bytes", got, ok)
		}
		got, ok := impl.DiskWrite(d, 1, nil)
		wantNoDisk(t, "DiskWrite of nil", got, ok)
	}
}

func TestP15DiskWriteKeepsToMaxDirty(t *testing.T) {
	for _, waiting := range []int{0, 1, 498, 499, 500, 501} {
		d := dirty(3, waiting)
		got, ok := impl.DiskWrite(d, 2, counted(7))
		if waiting >= 500 {
			wantNoDisk(t, "DiskWrite behind "+strconv.Itoa(waiting), got, ok)
			continue
		}
		wantDisk(t, "DiskWrite behind "+strconv.Itoa(waiting), got, ok, with(d, impl.Write{At: 2, Bytes: counted(7)}))
	}
	synced := impl.DiskSync(dirty(3, 500))
	got, ok := impl.DiskWrite(synced, 0, counted(8))
	wantDisk(t, "DiskWrite behind a sync", got, ok, with(synced, impl.Write{At: 0, Bytes: counted(8)}))
}

func TestP15DiskSync(t *testing.T) {
	for _, d := range thrownDisks(15) {
		wantDisk(t, "DiskSync", impl.DiskSync(d), true, synced(d))
	}
	d := diskOf(counted(0), nil, nil, make([]byte, 512))
	wantDisk(t, "a sync with nothing waiting", impl.DiskSync(d), true, d)
	d = with(d, impl.Write{At: 1, Bytes: counted(1)}, impl.Write{At: 0, Bytes: counted(9)}, impl.Write{At: 1, Bytes: counted(2)})
	wantDisk(t, "a sheet that was written twice", impl.DiskSync(d), true, diskOf(counted(9), counted(2), nil, make([]byte, 512)))
	d = with(blank(2), impl.Write{At: 1, Bytes: make([]byte, 512)})
	wantDisk(t, "zeros on a sheet that was never written", impl.DiskSync(d), true, diskOf(nil, make([]byte, 512)))
	for _, sheets := range []int{2, 400} {
		d = dirty(sheets, 500)
		wantDisk(t, "a full disk", impl.DiskSync(d), true, synced(d))
		wantDisk(t, "a blank disk", impl.DiskSync(blank(sheets)), true, blank(sheets))
	}
}

// One write, over a sheet with bytes and over one that was never written.
func TestP15DiskCrashOfOneWrite(t *testing.T) {
	d := with(diskOf(counted(1), nil, counted(3)), impl.Write{At: 0, Bytes: counted(4)})
	e := with(diskOf(counted(1), nil, counted(3)), impl.Write{At: 1, Bytes: counted(5)})
	for n := 1; n < 512; n++ {
		wantDisk(t, "torn at "+strconv.Itoa(n), impl.DiskCrash(d, []int{n}), true, diskOf(slices.Concat(counted(4)[:n], counted(1)[n:]), nil, counted(3)))
		wantDisk(t, "torn at "+strconv.Itoa(n), impl.DiskCrash(e, []int{n}), true, diskOf(counted(1), padded(counted(5)[:n:n]), counted(3)))
	}
	for _, n := range someKeeps() {
		if n <= 0 {
			wantDisk(t, "no byte of a write", impl.DiskCrash(d, []int{n}), true, diskOf(counted(1), nil, counted(3)))
			wantDisk(t, "no byte on a sheet that was never written", impl.DiskCrash(e, []int{n}), true, diskOf(counted(1), nil, counted(3)))
		}
		if n >= 512 {
			wantDisk(t, "all of a write", impl.DiskCrash(d, []int{n}), true, diskOf(counted(4), nil, counted(3)))
			wantDisk(t, "all on a sheet that was never written", impl.DiskCrash(e, []int{n}), true, diskOf(counted(1), counted(5), counted(3)))
		}
	}
	zeros := with(blank(2), impl.Write{At: 1, Bytes: make([]byte, 512)})
	wantDisk(t, "no byte of zeros", impl.DiskCrash(zeros, []int{0}), true, blank(2))
	wantDisk(t, "one byte of zeros", impl.DiskCrash(zeros, []int{1}), true, diskOf(nil, make([]byte, 512)))
}

// keep has no places, fewer, as many and more places than there are writes.
func TestP15DiskCrashOfSeveralWrites(t *testing.T) {
	d := with(diskOf(counted(1), nil, counted(3)), impl.Write{At: 1, Bytes: counted(10)}, impl.Write{At: 0, Bytes: counted(11)}, impl.Write{At: 1, Bytes: counted(12)})
	want := func(what string, keep []int, sheets ...[]byte) {
		t.Helper()
		wantDisk(t, what, impl.DiskCrash(d, keep), true, diskOf(sheets...))
	}
	tornTwice := slices.Concat(counted(12)[:20], counted(10)[20:100], make([]byte, 412))
	want("nil", nil, counted(1), nil, counted(3))
	want("no places", []int{}, counted(1), nil, counted(3))
	want("one place", []int{512}, counted(1), counted(10), counted(3))
	want("two places", []int{0, 512}, counted(11), nil, counted(3))
	want("as many places", []int{100, 0, 20}, counted(1), tornTwice, counted(3))
	want("more places", []int{100, 0, 20, 512, 512, 512}, counted(1), tornTwice, counted(3))
	want("the second one longer", []int{20, -1, 100}, counted(1), padded(counted(12)[:100:100]), counted(3))
	want("the last one whole", []int{20, 300, 512}, slices.Concat(counted(11)[:300], counted(1)[300:]), counted(12), counted(3))
	want("the last one not begun", []int{512, 512, -5}, counted(11), counted(10), counted(3))
	want("the last one alone", []int{-1, 0, 513}, counted(1), counted(12), counted(3))
	for i := range 3 {
		for _, n := range someKeeps() {
			keep := []int{100, 200, 300}
			keep[i] = n
			wantDisk(t, "keep "+strconv.Itoa(n), impl.DiskCrash(d, keep), true, crashed(d, keep))
		}
	}
}

func TestP15DiskCrashOfFullDisks(t *testing.T) {
	throw := dice(151)
	for _, d := range []impl.Disk{dirty(2, 500), dirty(400, 500), dirty(7, 499), blank(400), blank(2)} {
		for _, size := range []int{0, 1, 250, 499, 500, 501, 5000} {
			keep := thrownKeep(&throw, size)
			wantDisk(t, "keep of "+strconv.Itoa(size), impl.DiskCrash(d, keep), true, crashed(d, keep))
		}
	}
}

// metaSheets: what may lie on a meta's sheet, right and wrong.
func metaSheets() [][]byte {
	l := [][]byte{nil, make([]byte, 512), pageText(fullLeaf()), pageText(fullBranch()), counted(1), bytes.Repeat([]byte{'M'}, 512)}
	for _, gen := range []int{1, 2, 3, 4, 255, 256, 257, 1 << 32, 1<<32 + 1, impl.MaxNum - 1, impl.MaxNum} {
		l = append(l, metaText(impl.Meta{Gen: gen, Root: gen % 2 * 399}))
	}
	fresh := metaText(impl.Meta{Gen: 9, Root: 3})
	for _, n := range []int{1, 5, 6, 8, 511} {
		l = append(l, slices.Concat(fresh[:n], metaText(impl.Meta{Gen: 7, Root: 2})[n:]), slices.Concat(fresh[:n], make([]byte, 512-n)))
	}
	return append(l, metaText(impl.Meta{Gen: 0, Root: 2}), metaText(impl.Meta{Gen: 6, Root: 1}), metaText(impl.Meta{Gen: 5, Root: 400}))
}

// Each of these on each of both sheets, on the disk or waiting.
func TestP15DiskMetaOfBothSheets(t *testing.T) {
	for _, even := range metaSheets() {
		for _, odd := range metaSheets() {
			d := diskOf(even, odd, counted(2))
			want, right := metaOn(d)
			wantDiskMeta(t, "on the disk", d, want, right)
			if len(even) == 0 || len(odd) == 0 {
				continue
			}
			ahead := diskOf(metaText(impl.Meta{Gen: 1000}), metaText(impl.Meta{Gen: 1001}), nil)
			for _, waiting := range []impl.Disk{with(blank(3), impl.Write{At: 0, Bytes: even}, impl.Write{At: 1, Bytes: odd}), with(ahead, impl.Write{At: 1, Bytes: odd}, impl.Write{At: 0, Bytes: counted(1)}, impl.Write{At: 0, Bytes: even})} {
				wantDiskMeta(t, "waiting", waiting, want, right)
			}
			half := with(diskOf(even, counted(1)), impl.Write{At: 1, Bytes: odd})
			wantDiskMeta(t, "one on the disk, one waiting", half, want, right)
		}
	}
}

func TestP15DiskMeta(t *testing.T) {
	meta := func(gen, root int) []byte { return metaText(impl.Meta{Gen: gen, Root: root}) }
	want := func(what string, d impl.Disk, gen, root int) {
		t.Helper()
		wantDiskMeta(t, what, d, impl.Meta{Gen: gen, Root: root}, gen > 0)
	}
	want("none", blank(2), 0, 0)
	want("one on sheet 1", diskOf(nil, meta(1, 0)), 1, 0)
	want("one on sheet 0", diskOf(meta(2, 5), nil), 2, 5)
	want("an even Gen on sheet 1", diskOf(nil, meta(2, 5)), 0, 0)
	want("an odd Gen on sheet 0", diskOf(meta(1, 0), nil), 0, 0)
	want("both, the greater on sheet 0", diskOf(meta(4, 7), meta(3, 9)), 4, 7)
	want("both, the greater on sheet 1", diskOf(meta(4, 7), meta(5, 9)), 5, 9)
	want("the lesser Gen with the greater Root", diskOf(meta(2, 399), meta(3, 0)), 3, 0)
	want("both, far apart", diskOf(meta(2, 7), meta(impl.MaxNum, 399)), impl.MaxNum, 399)
	want("the greater one on the wrong sheet", diskOf(meta(9, 7), meta(3, 9)), 3, 9)
	want("both on the wrong sheets", diskOf(meta(3, 9), meta(4, 7)), 0, 0)
	want("on another sheet", diskOf(nil, nil, meta(2, 5), meta(3, 5)), 0, 0)
	want("the greater one torn", diskOf(meta(2, 5), slices.Concat(meta(3, 6)[:511], []byte{1})), 2, 5)
	want("waiting", with(blank(2), impl.Write{At: 1, Bytes: meta(1, 3)}), 1, 3)
	want("waiting, the greater one", with(diskOf(meta(2, 5), meta(1, 3)), impl.Write{At: 1, Bytes: meta(3, 8)}), 3, 8)
	want("waiting over the greater one", with(diskOf(meta(2, 5), meta(3, 3)), impl.Write{At: 1, Bytes: counted(1)}), 2, 5)
	want("waiting twice", with(diskOf(meta(2, 5), nil), impl.Write{At: 1, Bytes: meta(7, 7)}, impl.Write{At: 1, Bytes: meta(3, 6)}), 3, 6)
	want("waiting on the wrong sheet", with(diskOf(meta(2, 5), meta(1, 3)), impl.Write{At: 1, Bytes: meta(4, 8)}), 2, 5)
}

func TestP15WrongDisksAreRefused(t *testing.T) {
	for what, d := range wrongDisks() {
		wantBool(t, "DiskOk of "+what, impl.DiskOk(d), false)
		for _, at := range []int{0, 1, 2, -1, math.MaxInt64, math.MinInt64} {
			b, ok := impl.DiskRead(d, at)
			wantNoBytes(t, "DiskRead of "+what, b, ok)
			got, ok := impl.DiskWrite(d, at, counted(1))
			wantNoDisk(t, "DiskWrite of "+what, got, ok)
		}
		wantNoDisk(t, "DiskSync of "+what, impl.DiskSync(d), false)
		for _, keep := range [][]int{nil, {0, 0}, {512, 512}, {100}} {
			wantNoDisk(t, "DiskCrash of "+what, impl.DiskCrash(d, keep), false)
		}
		wantDiskMeta(t, what, d, impl.Meta{}, false)
	}
}

// diskWithRoom: the same disk whose lists have marked room behind them.
func diskWithRoom(d impl.Disk) impl.Disk {
	c := cloneDisk(d)
	for i, s := range c.Sheets {
		c.Sheets[i].Bytes = marked(s.Bytes, 'R')
	}
	for i, w := range c.Dirty {
		c.Dirty[i].Bytes = marked(w.Bytes, 'R')
	}
	return impl.Disk{Sheets: marked(c.Sheets, impl.Sheet{Bytes: []byte("mark")}), Dirty: marked(c.Dirty, impl.Write{At: -7})}
}

// diskRoom is a disk with all that its lists have room for, cloned.
func diskRoom(d impl.Disk) impl.Disk {
	var c impl.Disk
	for _, s := range d.Sheets[:cap(d.Sheets)] {
		c.Sheets = append(c.Sheets, impl.Sheet{Bytes: slices.Clone(s.Bytes[:cap(s.Bytes)])})
	}
	for _, w := range d.Dirty[:cap(d.Dirty)] {
		c.Dirty = append(c.Dirty, impl.Write{At: w.At, Bytes: slices.Clone(w.Bytes[:cap(w.Bytes)])})
	}
	return c
}

func bytesOf(d impl.Disk) [][]byte {
	var l [][]byte
	for _, s := range d.Sheets {
		l = append(l, s.Bytes)
	}
	for _, w := range d.Dirty {
		l = append(l, w.Bytes)
	}
	return l
}

// checkDiskMemory: two calls answer the same, and the lists of both answers, of
// the argument and of what is written share no memory; nothing is changed.
func checkDiskMemory(t *testing.T, what string, arg impl.Disk, call func(d impl.Disk, b []byte, keep []int) impl.Disk) {
	t.Helper()
	arg = diskWithRoom(arg)
	b, keep := marked(counted(77), 'R'), marked([]int{100, 0, 512, -1}, -7)
	before, bytesBefore, keepBefore := diskRoom(arg), slices.Clone(b[:cap(b)]), slices.Clone(keep[:cap(keep)])
	first, second := call(arg, b, keep), call(arg, b, keep)
	kept := cloneDisk(second)
	if !sameDisk(first, second) || !sameDisk(diskRoom(arg), before) || !bytes.Equal(b[:cap(b)], bytesBefore) || !slices.Equal(keep[:cap(keep)], keepBefore) {
		t.Errorf("%s: a second call answers another thing, or an argument is changed", what)
	}
	all := slices.Concat(bytesOf(first), bytesOf(second), bytesOf(arg), [][]byte{b})
	if !areApart(all, 'S') {
		t.Errorf("%s: two lists share memory", what)
	}
	plain := cloneDisk(arg)
	fillUp(first.Sheets, impl.Sheet{Bytes: []byte("scribble")})
	fillUp(first.Dirty, impl.Write{At: 99})
	if !sameDisk(second, kept) || !sameDisk(arg, plain) {
		t.Errorf("%s: the sheets or the writes of an answer share memory", what)
	}
}

func TestP15DisksAreNewMemory(t *testing.T) {
	for i, d := range thrownDisks(1515)[:60] {
		at := i % len(d.Sheets)
		checkDiskMemory(t, "DiskWrite", d, func(d impl.Disk, b []byte, keep []int) impl.Disk { got, _ := impl.DiskWrite(d, at, b); return got })
		checkDiskMemory(t, "DiskSync", d, func(d impl.Disk, b []byte, keep []int) impl.Disk { return impl.DiskSync(d) })
		checkDiskMemory(t, "DiskCrash", d, func(d impl.Disk, b []byte, keep []int) impl.Disk { return impl.DiskCrash(d, keep) })
		checkDiskMemory(t, "DiskCrash with nothing kept", d, func(d impl.Disk, b []byte, keep []int) impl.Disk { return impl.DiskCrash(d, nil) })
	}
	checkDiskMemory(t, "DiskNew", impl.Disk{}, func(impl.Disk, []byte, []int) impl.Disk { got, _ := impl.DiskNew(4); return got })
}

// The lists of an argument may be one piece of memory; those of an answer not.
func TestP15AnswersOfOneMemoryAreApart(t *testing.T) {
	b := counted(5)
	d := impl.Disk{Sheets: []impl.Sheet{{Bytes: b}, {Bytes: b}, {}, {Bytes: b}}, Dirty: []impl.Write{{At: 2, Bytes: b}, {At: 1, Bytes: b}, {At: 0, Bytes: b}, {At: 0, Bytes: b}}}
	written, _ := impl.DiskWrite(d, 3, b)
	wantDisk(t, "DiskWrite of one memory", written, true, with(d, impl.Write{At: 3, Bytes: b}))
	for what, got := range map[string]impl.Disk{
		"DiskWrite": written, "DiskSync": impl.DiskSync(d), "DiskCrash": impl.DiskCrash(d, []int{512, 0, 5}), "DiskCrash of all": impl.DiskCrash(d, []int{512, 512, 512, 512}), "DiskCrash of none": impl.DiskCrash(d, nil),
	} {
		if !areApart(append(bytesOf(got), b), 'S') {
			t.Errorf("%s: two lists share memory", what)
		}
	}
	if !bytes.Equal(b, counted(5)) {
		t.Error("the bytes are changed")
	}
}

func TestP15WhatADiskReadsIsNewMemory(t *testing.T) {
	for _, d := range thrownDisks(151515)[:60] {
		arg := diskWithRoom(d)
		before := diskRoom(arg)
		for at := range d.Sheets {
			first, _ := impl.DiskRead(arg, at)
			second, _ := impl.DiskRead(arg, at)
			fillUp(first, 'X')
			wantBytes(t, "a second DiskRead", second, true, readAhead(d, at))
			wantRead(t, "behind a change of an answer", arg, at, readAhead(d, at))
		}
		impl.DiskOk(arg)
		impl.DiskMeta(arg)
		if !sameDisk(diskRoom(arg), before) {
			t.Error("a disk is changed, or what is read of it shares its memory")
		}
	}
}

func TestP15RefusalsChangeNoDisk(t *testing.T) {
	for what, d := range wrongDisks() {
		if strings.HasPrefix(what, "5000") {
			continue
		}
		arg := diskWithRoom(d)
		before := diskRoom(arg)
		impl.DiskOk(arg)
		impl.DiskRead(arg, 1)
		impl.DiskWrite(arg, 1, counted(1))
		impl.DiskSync(arg)
		impl.DiskCrash(arg, []int{512, 5})
		impl.DiskMeta(arg)
		if !sameDisk(diskRoom(arg), before) {
			t.Errorf("a wrong disk is changed: %s", what)
		}
	}
	arg, b := diskWithRoom(dirty(3, 500)), marked(counted(1), 'R')
	before, bytesBefore := diskRoom(arg), slices.Clone(b[:cap(b)])
	impl.DiskWrite(arg, 1, b)
	impl.DiskWrite(arg, 3, b)
	impl.DiskWrite(arg, 1, b[:511])
	impl.DiskWrite(arg, 1, b[:513])
	impl.DiskRead(arg, -1)
	if !sameDisk(diskRoom(arg), before) || !bytes.Equal(b[:cap(b)], bytesBefore) {
		t.Error("a refusal changes an argument")
	}
}
