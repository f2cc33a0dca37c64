package tests

import (
	"slices"
	"strconv"
	"strings"
	"testing"

	"loop.example/g00392/impl"
)

func isSaying(line string) bool { return !strings.HasPrefix(line+"#", "#") }

func lineCount(text string) int {
	return len(strings.Split(strings.TrimSuffix(text, "\n"), "\n")) - bit(text == "")
}

// runOf is what Run must read: a net, steps, and the number of a line.
func runOf(text string) (impl.Net, []impl.Step, int) {
	lines := strings.Split(text, "\n")
	at := slices.IndexFunc(lines, isSaying)
	switch {
	case len(text) > 8000:
		return impl.Net{}, nil, 1
	case at < 0:
		return impl.Net{}, nil, lineCount(text) + 1
	}
	n, ok := netIn(lines[at])
	if !ok {
		return impl.Net{}, nil, at + 1
	}
	lines[at] = "#"
	steps, bad := scriptIn(strings.Join(lines, "\n"))
	if bad > 0 {
		return impl.Net{}, nil, bad
	}
	return n, steps, 0
}

// heldBy are the clients' pairs of a right net, one house behind the other.
func heldBy(n impl.Net) []impl.Pair {
	var l []impl.Pair
	if netStands(n) {
		for _, x := range n.Houses {
			l = append(l, dataOf(pairsIn(x), nil)...)
		}
	}
	return l
}

// reportOf is what Report must tell.
func reportOf(n impl.Net) string {
	var b strings.Builder
	for _, r := range n.Log {
		b.WriteString(replyLine(r) + "\n")
	}
	b.WriteString("order")
	for _, x := range n.Order {
		b.WriteString(" ")
		if rightName(x) {
			b.WriteString(dotted(x))
		}
	}
	b.WriteString("\n")
	for _, p := range heldBy(n) {
		b.WriteString(quoted(p.Key) + "=" + quoted(p.Val) + "\n")
	}
	return b.String()
}

// legalOf is what Legal must say.
func legalOf(n impl.Net) bool {
	_, ok := ranAll(n.Log, n.Order)
	times := map[impl.Tx]int{}
	for _, x := range n.Order {
		times[x]++
		ok = ok && times[x] == 1 && outcomeOf(n.Log, x) != 2
	}
	for _, r := range n.Log {
		ok = ok && (r.Kind != 3 || r.Code != 0 || times[r.Tx] > 0 || timesAsked(n.Log, r.Tx) == 0)
	}
	return ok && netStands(n)
}

func isResting(n impl.Net) bool {
	rest := netStands(n) && len(n.Letters) == 0
	for _, x := range n.Houses {
		rest = rest && x.Up && len(x.Shard.Works) == 0
	}
	for _, x := range n.Desks {
		rest = rest && x.Up && (x.Coord.Phase == 0 || x.Coord.Phase == 1)
	}
	return rest
}

// cleanOf is what Clean must say.
func cleanOf(n impl.Net) bool {
	want, ok := ranAll(n.Log, n.Order)
	return ok && isResting(n) && slices.Equal(heldBy(n), want)
}

// checkWhole holds Run against the model, and answers the net and the line.
func checkWhole(t *testing.T, text string) (impl.Net, int) {
	t.Helper()
	n, steps, line := runOf(text)
	want := impl.Play(n, steps)
	got, also := impl.Run(text)
	if also != line {
		t.Errorf("Run(%s) tells line %d, want %d", clip(text), also, line)
	}
	wantNet(t, "Run("+clip(text)+")", got, want)
	return want, line
}

func wantWhole(t *testing.T, text string, line int) {
	t.Helper()
	if _, got := checkWhole(t, text); got != line {
		t.Errorf("the model of Run(%s) tells line %d, not %d", clip(text), got, line)
	}
}

func checkReport(t *testing.T, what string, n impl.Net) {
	t.Helper()
	if got, want := impl.Report(n), reportOf(n); got != want {
		t.Errorf("Report, %s, is %s, want %s", what, strconv.Quote(got), strconv.Quote(want))
	}
}

func wantReport(t *testing.T, what string, n impl.Net, want string) {
	t.Helper()
	checkReport(t, what, n)
	if got := reportOf(n); got != want {
		t.Errorf("the model of Report, %s, tells %s, not %s", what, strconv.Quote(got), strconv.Quote(want))
	}
}

func wantLegal(t *testing.T, what string, n impl.Net, want bool) {
	t.Helper()
	wantBool(t, "Legal: "+what, impl.Legal(n), want)
	wantBool(t, "the model of Legal: "+what, legalOf(n), want)
}

func wantClean(t *testing.T, what string, n impl.Net, want bool) {
	t.Helper()
	wantBool(t, "Clean: "+what, impl.Clean(n), want)
	wantBool(t, "the model of Clean: "+what, cleanOf(n), want)
}

// checkSaid holds what is said of a net against the models.
func checkSaid(t *testing.T, what string, n impl.Net) {
	t.Helper()
	checkReport(t, what, n)
	wantLegal(t, what, n, legalOf(n))
	wantClean(t, what, n, cleanOf(n))
}

// someRun is a text, and what is to be said of the net that it comes to.
type someRun struct {
	what, text, report string
	clean              bool
}

// made is a transaction that has put a and d on two houses and asks for its
// commit: three letters go to and fro ahead of the last vote.
const made = "call 0 begin\ncall 0 put \"a\" \"1\"\ncalm 1\ncall 0 put \"d\" \"4\"\ncalm 1\ncall 0 commit\n"
const madeReport = "0.1.1 begin 0\n0.1.1 ask 0\n0.1.1 ask 0\n"

// looked is a transaction that scans all that is there.
const looked = "call 0 begin\ncall 0 scan \"\" \"\" 8\ncalm 1\ncall 0 commit\ncalm 1\n"

func someRuns() []someRun {
	return []someRun{
		{"nothing", "net 1 80", "order\n", true},
		{"letter by letter", "net 1 80\ncall 0 begin\ncall 0 put \"b\" \"2\"\ndeliver 0\ndeliver 0\ncall 0 get \"b\"\ndeliver 0\ndeliver 0\ncall 0 commit\ndeliver 0\ndeliver 0\ndeliver 0\ndeliver 0\n",
			"0.1.1 begin 0\n0.1.1 ask 0\n0.1.1 ask 0 \"b\"=\"2\"\n0.1.1 commit 0\norder 0.1.1\n\"b\"=\"2\"\n", true},
		{"the decision isn't told yet", "net 1 80\ncall 0 begin\ncall 0 put \"b\" \"2\"\ncalm 1\ncall 0 commit\ndeliver 0\ndeliver 0\n",
			"0.1.1 begin 0\n0.1.1 ask 0\n0.1.1 commit 0\norder 0.1.1\n", false},
		{"given up by the client", "net 1 80\ncall 0 begin\ncall 0 put \"b\" \"2\"\ncalm 1\ncall 0 abort\ncall 0 begin\ncall 0 get \"b\"\ncalm 1\ncall 0 commit\ncall 0 abort\ncalm 1",
			"0.1.1 begin 0\n0.1.1 ask 0\n0.1.1 abort 0\n0.1.2 begin 0\n0.1.2 ask 0\n0.1.2 abort 0\norder\n", true},
		{"calls that don't fit", "net 2 60\ncall 0 begin\ncall 0 commit\ncall 1 abort\ncall 0 begin\ncall 0 begin\ncall 1 commit\ncall 1 get \"a\"\ncall 2 begin",
			"0.1.1 begin 0\n0.1.1 commit 0\n- abort 1\n0.1.2 begin 0\n0.1.2 begin 1\n- commit 1\n- ask 1\norder\n", true},
		{"who comes later waits", "net 2 80 \"g\"\ncall 0 begin\ncall 1 begin\ncall 0 put \"k\" \"1\"\ncall 1 get \"k\"\ndeliver 0\ndeliver 0\ndeliver 0\ncall 0 commit\ncalm 1\ncall 1 del \"k\"\ncalm 1\ncall 1 commit\ncalm 1",
			"0.1.1 begin 0\n1.1.1 begin 0\n0.1.1 ask 0\n0.1.1 commit 0\n1.1.1 ask 0 \"k\"=\"1\"\n1.1.1 ask 0\n1.1.1 commit 0\norder 0.1.1 1.1.1\n", true},
		{"each waits for the other", "net 2 80\ncall 0 begin\ncall 1 begin\ncall 0 put \"a\" \"1\"\ncall 1 put \"b\" \"2\"\ncalm 1\ncall 0 put \"b\" \"1\"\ncall 1 put \"a\" \"2\"\ncalm 9\ncall 0 commit\ncall 1 commit\ncalm 1\n",
			"0.1.1 begin 0\n1.1.1 begin 0\n0.1.1 ask 0\n1.1.1 ask 0\n1.1.1 ask 0\n0.1.1 ask 6\n0.1.1 commit 1\n1.1.1 commit 7\norder\n", true},
		{"scans over three houses", "net 1 80 \"c\" \"f\"\n" + made + "calm 1\ncall 0 begin\ncall 0 put \"h\" \"8\"\ncalm 1\ncall 0 scan \"\" \"\" 2\ncalm 1\ncall 0 back \"b\" \"\" 8\ncalm 1\ncall 0 commit\ncalm 1\n",
			madeReport + "0.1.1 commit 0\n0.1.2 begin 0\n0.1.2 ask 0\n0.1.2 ask 0 \"a\"=\"1\" \"d\"=\"4\"\n0.1.2 ask 0 \"h\"=\"8\" \"d\"=\"4\"\n0.1.2 commit 0\norder 0.1.1 0.1.2\n\"a\"=\"1\"\n\"d\"=\"4\"\n\"h\"=\"8\"\n", true},
		{"a house forgets its work", "net 1 80 \"c\"\ncall 0 begin\ncall 0 put \"a\" \"1\"\ncalm 1\ncall 0 put \"d\" \"4\"\ncalm 1\ndown 1\nup 1\ncall 0 commit\ncalm 1\n" + looked,
			madeReport + "0.1.1 commit 7\n0.1.2 begin 0\n0.1.2 ask 0\n0.1.2 commit 0\norder 0.1.2\n", true},
		{"each letter is doubled", "net 1 80\ncall 0 begin\ncall 0 put \"a\" \"1\"\ndouble 0\ndeliver 0\ndeliver 0\ndouble 0\ncalm 1\ncall 0 commit\ndouble 0\ndeliver 0\ndeliver 0\ndouble 0\ndouble 1\ndeliver 0\ndouble 0\ncalm 2\n",
			"0.1.1 begin 0\n0.1.1 ask 0\n0.1.1 commit 0\norder 0.1.1\n\"a\"=\"1\"\n", true},
		{"each letter is lost once", "net 1 80\ncall 0 begin\ncall 0 put \"a\" \"1\"\nlose 0\ntick\ndeliver 0\nlose 0\ntick\ncalm 1\ncall 0 commit\nlose 0\ntick\ndeliver 0\nlose 0\ntick\nlose 0\nlose 0\ncalm 2\n",
			"0.1.1 begin 0\n0.1.1 ask 0\n0.1.1 commit 0\norder 0.1.1\n\"a\"=\"1\"\n", true},
		{"nobody answers", "net 1 80\ncall 0 begin\ncall 0 put \"a\" \"1\"\ncalm 1\ncall 0 commit\n" + strings.Repeat("lose 0\ntick\n", 8) + "calm 2\n",
			"0.1.1 begin 0\n0.1.1 ask 0\n0.1.1 commit 8\norder\n", true},
		{"a house tears as it is made ready", "net 1 80 \"c\"\n" + made + "torn 0 1 100\nup 0\ncalm 1\n" + looked,
			madeReport + "0.1.1 commit 7\n0.1.2 begin 0\n0.1.2 ask 0\n0.1.2 commit 0\norder 0.1.2\n", true},
		{"a house crashes behind that", "net 1 80 \"c\"\n" + made + "torn 0 9\nup 0\ncalm 1\ncalm 1\n" + looked,
			madeReport + "0.1.1 commit 0\n0.1.2 begin 0\n0.1.2 ask 0 \"a\"=\"1\" \"d\"=\"4\"\n0.1.2 commit 0\norder 0.1.1 0.1.2\n\"a\"=\"1\"\n\"d\"=\"4\"\n", true},
		{"the decision comes to the disk by its last byte", "net 1 80 \"c\"\n" + made + "deliver 0\ndeliver 0\ndeliver 0\ntorn 0 3 512\ncalm 2\n" + looked,
			madeReport + "0.2.1 begin 0\n0.2.1 ask 0 \"a\"=\"1\" \"d\"=\"4\"\n0.2.1 commit 0\norder 0.1.1 0.2.1\n\"a\"=\"1\"\n\"d\"=\"4\"\n", true},
		{"the decision lacks a byte", "net 1 80 \"c\"\n" + made + "deliver 0\ndeliver 0\ndeliver 0\ntorn 0 3 511\nup 2\ncalm 2\n" + looked,
			madeReport + "0.2.1 begin 0\n0.2.1 ask 0\n0.2.1 commit 0\norder 0.2.1\n", true},
		{"all machines crash once", "net 1 80 \"c\"\n" + made + "deliver 0\ndeliver 0\ndown 0\ndown 1\ndeliver 0\ndeliver 0\ndown 2\ncalm 2\n" + looked,
			madeReport + "0.1.1 commit 0\n0.2.1 begin 0\n0.2.1 ask 0 \"a\"=\"1\" \"d\"=\"4\"\n0.2.1 commit 0\norder 0.1.1 0.2.1\n\"a\"=\"1\"\n\"d\"=\"4\"\n", true},
		{"a house is down at the end", "net 1 80 \"c\"\n" + made + "calm 2\ndown 0",
			madeReport + "0.1.1 commit 0\norder 0.1.1\n\"a\"=\"1\"\n\"d\"=\"4\"\n", false},
		{"a disk has no room", "net 1 3\ncall 0 begin\ncall 0 put \"a\" \"1\"\ncalm 1\ncall 0 commit\ncalm 1\ncall 0 begin\ncall 0 put \"a\" \"\"\n" + strings.Repeat("tick\n", 8),
			"0.1.1 begin 0\n0.1.1 ask 0\n0.1.1 commit 7\n0.1.2 begin 0\n0.1.2 ask 8\norder\n", false},
	}
}

func TestP1P2WhatIsSaidOfSomeRuns(t *testing.T) {
	for _, x := range someRuns() {
		n, line := checkWhole(t, x.text)
		if line != 0 {
			t.Errorf("%s: line %d", x.what, line)
		}
		wantReport(t, x.what, n, x.report)
		wantLegal(t, x.what, n, true)
		wantClean(t, x.what, n, x.clean)
		calm := impl.Do(n, toCalm(30))
		wantLegal(t, x.what+", and calm", calm, true)
		wantClean(t, x.what+", and calm", calm, true)
	}
}

// thrownLine is a step that a line tells.
func thrownLine(d *dice, n impl.Net) impl.Step {
	for {
		x := thrownStep(d, n)
		if d.below(2) == 0 {
			x = thrownHurry(d, n)
		}
		if lineFor(x) != "" {
			return x
		}
	}
}

// thrownPlay is a play of so many steps from the net of a line, which must be
// right: the lines of its text, and what it comes to.
func thrownPlay(d *dice, line string, size int) ([]string, impl.Net) {
	n, _ := impl.ReadNet(line)
	lines := []string{line}
	for range size {
		x := thrownLine(d, n)
		lines, n = append(lines, lineFor(x)), impl.Do(n, x)
	}
	return lines, n
}

func thrownNetLine(d *dice, sizes ...int) string {
	splits := [][]string{nil, {"c"}, {"c", "f"}, {"b", "d", "f"}}[d.below(4)]
	return netLine(1+d.below(3), sizes[d.below(len(sizes))], splits...)
}

// lookAt counts what came to be in a play, that a test's plays may be told from
// such in which nothing happens.
func lookAt(ways map[string]int, lines []string, n impl.Net) {
	for _, line := range lines {
		ways[strings.Fields(line)[0]]++
	}
	for _, r := range n.Log {
		ways["outcome "+strconv.Itoa(impl.Outcome(n.Log, r.Tx))]++
		ways["reply "+strconv.Itoa(r.Kind)+" "+strconv.Itoa(r.Code)]++
		ways["told"] += len(r.Pairs)
	}
	for _, x := range n.Order {
		ways["decided "+strconv.Itoa(x.C)]++
		ways["decided, outcome "+strconv.Itoa(impl.Outcome(n.Log, x))]++
		ways["decided in a later epoch"] += bit(x.E > 1)
	}
	ways["decided, several"] += bit(len(n.Order) > 1)
	ways["moved"] += bit(!impl.Settled(n))
	ways["data"] += len(impl.AllData(n))
}

func wantWays(t *testing.T, ways, least map[string]int) {
	t.Helper()
	for way, n := range least {
		if ways[way] < n {
			t.Errorf("only %d of %s: %v", ways[way], way, ways)
		}
	}
}

// Plays of 60 steps of hundreds of seeds, each as the run of a text.
func TestP1P2PlaysOfHundredsOfSeeds(t *testing.T) {
	ways := map[string]int{}
	for seed := range 500 {
		throw := dice(150000 + seed)
		lines, n := thrownPlay(&throw, thrownNetLine(&throw, 80, 80, 80, 81, 100, 400), 60)
		text := strings.Join(lines, "\n")
		got, line := impl.Run(text)
		if line != 0 || !sameNet(got, n) {
			t.Errorf("line %d, the run is %s\nwant %s", line, netText(got), netText(n))
		}
		if len(n.Log) == 300 {
			t.Fatalf("%d: the log is full", seed)
		}
		checkReport(t, "a thrown play", n)
		wantLegal(t, "a thrown play", n, true)
		calm := impl.Do(n, toCalm(30))
		wantLegal(t, "a thrown play, and calm", calm, true)
		wantClean(t, "a thrown play, and calm", calm, true)
		wantClean(t, "a thrown play", n, cleanOf(n))
		if t.Failed() {
			t.Fatalf("%d: %s", seed, text)
		}
		lookAt(ways, lines[1:], n)
	}
	wantWays(t, ways, map[string]int{"call": 5000, "deliver": 5000, "lose": 150, "double": 300, "tick": 250, "down": 150, "torn": 500, "up": 300, "calm": 500,
		"reply 1 0": 1000, "reply 1 1": 5, "reply 2 0": 2000, "reply 2 6": 5, "reply 3 0": 700, "reply 3 7": 50, "reply 4 0": 50, "outcome 0": 500, "outcome 1": 1000, "outcome 2": 400, "told": 300,
		"decided 0": 300, "decided 1": 100, "decided 2": 50, "decided, outcome 0": 30, "decided, outcome 1": 300, "decided in a later epoch": 50, "decided, several": 100, "moved": 200, "data": 300})
}

// Also where disks have no room one order is seen.
func TestP1PlaysOnSmallDisks(t *testing.T) {
	ways := map[string]int{}
	for seed := range 150 {
		throw := dice(151000 + seed)
		lines, n := thrownPlay(&throw, thrownNetLine(&throw, 3, 4, 5, 6, 7, 8, 10, 20), 60)
		wantLegal(t, "on a small disk", n, true)
		wantLegal(t, "on a small disk, and calm", impl.Do(n, toCalm(30)), true)
		checkSaid(t, "on a small disk", n)
		if t.Failed() {
			t.Fatalf("%d: %s", seed, strings.Join(lines, "\n"))
		}
		lookAt(ways, lines[1:], n)
	}
	wantWays(t, ways, map[string]int{"decided 0": 30, "decided, several": 10, "reply 3 7": 20, "reply 3 0": 100, "outcome 2": 100, "data": 30})
}

// What a run comes to is what each of its steps does, by the models.
func TestP14ARunIsThePlayOfItsLines(t *testing.T) {
	throw := dice(152000)
	for range 10 {
		lines, n := thrownPlay(&throw, thrownNetLine(&throw, 80, 9), 25)
		want, _ := netIn(lines[0])
		var steps []impl.Step
		for _, line := range lines[1:] {
			x, _ := stepIn(line)
			want, steps = behind(want, x), append(steps, x)
		}
		got, line := impl.Run(strings.Join(lines, "\n"))
		wantBool(t, "line 0", line == 0, true)
		wantNet(t, "a run", got, want)
		wantNet(t, "a run", got, n)
		first, _ := impl.ReadNet(lines[0])
		wantNet(t, "a run", got, impl.Play(first, steps))
	}
}

// A text run as one script or as two, wherever it is cut.
func TestP3ARunInTwoParts(t *testing.T) {
	throw := dice(153000)
	for range 12 {
		lines, n := thrownPlay(&throw, thrownNetLine(&throw, 80, 80, 7), 40)
		for cut := 1; cut <= len(lines); cut++ {
			ahead, line := impl.Run(strings.Join(lines[:cut], "\n"))
			rest, also := impl.ReadScript(strings.Join(lines[cut:], "\n"))
			wantBool(t, "line 0 of both", line == 0 && also == 0, true)
			both := impl.Play(ahead, rest)
			wantNet(t, "a run in two parts", both, n)
			if cut%8 == 0 {
				checkSaid(t, "the first part", ahead)
				checkSaid(t, "both parts", both)
			}
			if len(ahead.Log) < 300 {
				wantLegal(t, "the first part", ahead, true)
			}
		}
	}
	for _, x := range someRuns() {
		whole, _ := impl.Run(x.text)
		for cut := range len(x.text) {
			if x.text[cut] != '\n' {
				continue
			}
			ahead, _ := impl.Run(x.text[:cut])
			rest, _ := impl.ReadScript(x.text[cut:])
			wantNet(t, x.what, impl.Play(ahead, rest), whole)
			wantLegal(t, x.what, ahead, true)
		}
	}
}

// A letter that is doubled, and the double lost, changes nothing; one that is lost
// is that one alone.
func TestP3ARunWithLettersDoubledAndLost(t *testing.T) {
	throw := dice(154000)
	lost := 0
	for range 8 {
		lines, n := thrownPlay(&throw, thrownNetLine(&throw, 80), 40)
		for cut := 1; cut <= len(lines); cut++ {
			ahead, _ := impl.Run(strings.Join(lines[:cut], "\n"))
			size := len(ahead.Letters)
			if size == 0 || size == 200 {
				continue
			}
			place := throw.below(size)
			both := []string{lineFor(toDouble(place)), lineFor(toLose(size))}
			got, line := impl.Run(strings.Join(slices.Concat(lines[:cut], both, lines[cut:]), "\n"))
			wantBool(t, "line 0", line == 0, true)
			wantNet(t, "doubled, and the double lost", got, n)
			got, _ = impl.Run(strings.Join(append(slices.Clone(lines[:cut]), lineFor(toLose(place))), "\n"))
			ahead.Letters = slices.Delete(ahead.Letters, place, place+1)
			wantNet(t, "lost", got, ahead)
			lost++
		}
	}
	if lost < 80 {
		t.Errorf("only %d letters", lost)
	}
}

func TestP14TheFirstLineThatSaysSomethingIsTheNets(t *testing.T) {
	fresh, _ := impl.NetNew([]string{"c"}, 1, 9)
	ticked := impl.Do(fresh, toTick())
	begun := impl.Do(ticked, toCall(0, toBegin()))
	net := netLine(1, 9, "c")
	want := func(n impl.Net, texts ...string) {
		t.Helper()
		for _, text := range texts {
			wantWhole(t, text, 0)
			got, _ := impl.Run(text)
			wantNet(t, clip(text), got, n)
		}
	}
	want(fresh, net, net+"\n", "\n"+net, "\n\n\n"+net+"\n\n\n", "# x\n"+net, "#\n\n#"+net+"\n"+net+"\n#", net+"\n#tick\n#", "#\xff\x80\n"+net, "#é\n"+net+"\n#\xc3", "#\r\n"+net, "#net 2 9\n"+net+"\n#net 2 9")
	want(ticked, net+"\ntick", net+"\ntick\n", "\n"+net+"\n\ntick", "#\n"+net+"\n#\n\ntick\n#\n")
	want(begun, net+"\ntick\ncall 0 begin", "\n#\n"+net+"\n\n#\ntick\n#stop\n\ncall 0 begin\n\n#", "#"+strings.Repeat("\n", 50)+net+strings.Repeat("\n#\n", 50)+"tick"+strings.Repeat("\n", 50)+"call 0 begin\n"+strings.Repeat("\n", 50))
}

func TestP15TextsWithoutALineThatSaysSomething(t *testing.T) {
	for text, line := range map[string]int{"": 1, "\n": 2, "\n\n": 3, "#": 2, "#\n": 2, "#\n\n": 3, "# x\n# y": 3, "\n# x\n": 3, "# x\n\n#": 4, "#net 1 9": 2, "\n\n\n\n\n\n": 7, "#\xff": 2, "#\n#\n#\n#\n#": 6} {
		wantWhole(t, text, line)
	}
}

func TestP15LinesOfRunsThatAreNotRight(t *testing.T) {
	net := netLine(2, 9, "c")
	for text, line := range map[string]int{
		// Ahead of the net's, or in its place.
		"stop": 1, "tick": 1, "tick\n" + net: 1, "\n#\ntick\n" + net: 3, "stop\n" + net + "\nstop": 1, " " + net: 1, net + " ": 1, net + "\r\ntick": 1, "\t\n" + net: 1, " #\n" + net: 1, " \n" + net: 1, "\xef\xbb\xbf" + net: 1, "\x00\n" + net: 1, "\xff\n" + net: 1, "\n\r\n" + net: 2,
		"net": 1, "net 2\nnet 2 9": 1, "NET 2 9": 1, "call 0 begin": 1, "-\n": 1,
		// A net that is refused.
		"net 0 9": 1, "net 4 9\ntick": 1, "#\nnet 1 2\nstop": 2, "\n\nnet 1 401": 3, "net 1 9 \"d\" \"c\"\n" + net: 1, "#\nnet 1 9 \"\"\n": 2, "net 1 9 \"a\" \"b\" \"c\" \"d\"": 1, "net 1 0\n\n\n": 1,
		// A net twice.
		net + "\n" + net: 2, net + "\nnet 1 9": 2, net + "\ntick\n\n" + net + "\ntick": 4, "#\n\n" + net + "\n#\n" + net: 5, net + "\nnet": 2,
		// Behind the net's.
		net + "\nstop": 2, net + "\ntick\nstop": 3, "\n" + net + "\nstop\nstop": 3, "#\n" + net + "\n\n#\ntick\n\nstop\ntick": 7, net + "\n tick": 2, net + "\ntick \n": 2, net + "\ntick\r": 2, net + "\ndeliver 01": 2, net + "\n\n\xff": 3, net + "\ntick\ncall 0 get a": 3, net + "\ncall 0 put \"abcdefghi\" \"1\"": 2, net + "\ntick\n\x00": 3,
		net + "\ntick\ntick\ntorn 0": 4, net + "\nup -1": 2, net + "\ncalm 1099511627776\n": 2,
	} {
		wantWhole(t, text, line)
	}
	throw := dice(155000)
	for range 300 {
		text, _ := thrownScript(&throw, throw.below(25))
		lines := strings.Split(text, "\n")
		at := slices.IndexFunc(lines, isSaying)
		if at < 0 {
			continue
		}
		lines = slices.Insert(lines, at, netLine(1, 3))
		bad := throw.below(len(lines)-at) + at
		lines[bad] = []string{"stop", " tick", "tick ", "deliver 01", "net 1 9x", "net 0 9", "é", "\xff"}[throw.below(8)]
		for later := bad + 1; later < len(lines); later += 2 {
			lines[later] = "stop"
		}
		wantWhole(t, strings.Join(lines, "\n"), bad+1)
	}
}

// Texts that differ from a right one by a byte.
func TestP15NearlyRightRuns(t *testing.T) {
	right := func(t *testing.T, s string) bool {
		t.Helper()
		_, line := checkWhole(t, s)
		return line == 0
	}
	checkMany(t, nearTexts("#\nnet 1 3\n\ntick\n"), right, 60, 1000)
	checkMany(t, nearTexts("net 2 9 \"c\"\ncall 0 begin\n#\ntick"), right, 200, 1500)
	throw := dice(156000)
	var l []string
	for range 1500 {
		var b strings.Builder
		for range throw.below(4) {
			b.WriteString(thrownRemark(&throw) + "\n")
		}
		for range throw.below(6) {
			b.WriteString([]string{"net 1 3\n", "net 1 3", "tick\n", "deliver 0\n", "\n", "#", "stop\n"}[throw.below(100)*throw.below(7)/100])
		}
		l = append(l, b.String())
	}
	checkMany(t, l, right, 200, 500)
}

func TestP15RunsOfMaxTextBytes(t *testing.T) {
	fill := func(text string, size int) string { return text + strings.Repeat("x", size-len(text)) }
	net := netLine(1, 3)
	for _, text := range []string{net + "\n#", net + "\ntick\n# ", "#\n" + net + "\n\ntick\n#", net + "\ncall 0 begin\n#\xff"} {
		wantWhole(t, fill(text, 7999), 0)
		wantWhole(t, fill(text, 8000), 0)
		wantWhole(t, fill(text, 8001), 1)
		wantWhole(t, fill(text, 9000), 1)
	}
	// Without the net's line: it is looked for behind the size.
	wantWhole(t, fill("#", 8000), 2)
	wantWhole(t, fill("#", 8001), 1)
	wantWhole(t, fill("\n\n#", 8000), 4)
	wantWhole(t, fill("\n\n#", 8001), 1)
	wantWhole(t, strings.Repeat("\n", 8000), 8001)
	wantWhole(t, strings.Repeat("\n", 8001), 1)
	wantWhole(t, strings.Repeat("#\n", 4000), 4001)
	wantWhole(t, strings.Repeat("\n", 8000-len(net))+net, 0)
	wantWhole(t, strings.Repeat("\n", 8001-len(net))+net, 1)
	// What would be told of a shorter text isn't of one that is too long.
	wantWhole(t, fill("#\nstop\n#", 8000), 2)
	wantWhole(t, fill("#\nstop\n#", 8001), 1)
	wantWhole(t, fill("#\n"+net+"\nstop\n#", 8000), 3)
	wantWhole(t, fill("#\n"+net+"\nstop\n#", 8001), 1)
	// With the net's line the text is too long, without it it wouldn't be.
	wantWhole(t, fill("\n"+net+"\n#", 8000+len(net)), 1)
	wantWhole(t, "\n\n"+net+"\n"+strings.Repeat("#\n", 3993)+"stop", 3997)
	wantWhole(t, "\n\n"+net+"\n"+strings.Repeat("#\n", 3993)+"stop\n", 1)
	wantWhole(t, "\n\n"+net+"\n"+strings.Repeat("#\n", 3993)+"tick", 0)
	for _, s := range []string{"\n", "#", "net 1 3\n", "tick\n", "\x00", "\xff", " "} {
		wantWhole(t, strings.Repeat(s, 1<<20), 1)
	}
	torn := net + "\ntorn 0 1" + strings.Repeat(" 7", 3992)
	wantWhole(t, torn, 0)
	wantWhole(t, torn+" 7", 1)
	wantWhole(t, torn[:8000-2]+" ", 2)
}

func TestP15RunsOfMaxScriptSteps(t *testing.T) {
	net := netLine(1, 3)
	steps := strings.Repeat("lose 0\n", 300)
	fresh, _ := impl.ReadNet(net)
	for _, text := range []string{net + "\n" + steps, strings.TrimSuffix(net+"\n"+steps, "\n"), "#\n\n" + net + "\n#\n" + steps + "\n#", net + strings.Repeat("\n\n#x\nlose 0", 300)} {
		wantWhole(t, text, 0)
		got, _ := impl.Run(text)
		wantNet(t, "300 steps that do nothing", got, fresh)
	}
	wantWhole(t, net+"\n"+steps+"lose 0", 302)
	wantWhole(t, net+"\n"+steps+"lose 0\ntick\n", 302)
	wantWhole(t, net+"\n"+steps+"stop", 302)
	wantWhole(t, net+"\n"+steps+"#\n\n"+net, 304)
	wantWhole(t, "\n#\n"+net+"\n\n"+steps+"\nlose 0\nstop", 306)
	wantWhole(t, net+strings.Repeat("\n\n#\nlose 0", 301), 904)
	wantWhole(t, net+"\nstop\n"+steps+"lose 0", 2)
	wantWhole(t, steps+net, 1)
	wantWhole(t, net+"\n"+strings.Repeat("tick\n", 1500), 302)
	// A step each of which does something.
	text := net + "\n" + strings.Repeat("call 0 abort\n", 300)
	n, line := checkWhole(t, text)
	wantBool(t, "300 replies", line == 0 && len(n.Log) == 300, true)
	wantReport(t, "300 replies", n, strings.Repeat("- abort 1\n", 300)+"order\n")
	wantLegal(t, "300 replies", n, true)
	wantClean(t, "300 replies", n, true)
}

// withLog is a net with another log and another order.
func withLog(n impl.Net, log []impl.Reply, order ...impl.Tx) impl.Net {
	n.Log, n.Order = log, order
	return n
}

func TestP15ReportOfNetsThatNoPlayMakes(t *testing.T) {
	x := impl.Tx{C: 0, E: 1, N: 2}
	none := impl.Net{}
	wantReport(t, "nothing", none, "order\n")
	wantReport(t, "lists without elements", impl.Net{Log: []impl.Reply{}, Order: []impl.Tx{}}, "order\n")
	wantReport(t, "a reply of no kind", withLog(none, []impl.Reply{{}}), "- - 0\norder\n")
	wantReport(t, "a Code without a text", withLog(none, []impl.Reply{replyOf(x, 2, -1), replyAsk(x, askGet("a"), -1, pair("a", "1"))}), "0.1.2 ask \n0.1.2 ask  \"a\"=\"1\"\norder\n")
	wantReport(t, "names that aren't right", withLog(none, nil, impl.Tx{}), "order \n")
	wantReport(t, "names that aren't right among others", withLog(none, nil, x, impl.Tx{C: 9, E: 1, N: 1}, x, impl.Tx{}, impl.Tx{C: 1, E: 1000, N: 1}, impl.Tx{C: 7, E: 999, N: 999}), "order 0.1.2  0.1.2   7.999.999\n")
	wantReport(t, "one twice", withLog(none, []impl.Reply{replyOf(x, 3, 0), replyOf(x, 3, 0)}, x, x), "0.1.2 commit 0\n0.1.2 commit 0\norder 0.1.2 0.1.2\n")
	wantReport(t, "texts of bytes", withLog(none, []impl.Reply{replyAsk(x, askGet("a"), 0, pair("\n", "\xff"), pair("", "="))}), "0.1.2 ask 0 \"%0A\"=\"%FF\" \"\"=\"=\"\norder\n")
	wantReport(t, "a text that is too long", withLog(none, []impl.Reply{replyAsk(x, askGet("a"), 0, pair(strings.Repeat("a", 4097), "1"))}), "0.1.2 ask 0 =\"1\"\norder\n")
	// There are no data where the net isn't right, but all else.
	n := withLog(restingNet(), []impl.Reply{replyOf(x, 1, 0)}, x)
	data := strings.Repeat("\"a\"=\"1\"\n\"b\"=\"2\"\n\"c\"=\"3\"\n\"d\"=\"4\"\n", 3)
	wantReport(t, "at rest", n, "0.1.2 begin 0\norder 0.1.2\n"+data)
	wantReport(t, "without a log", withLog(n, nil, x), "order 0.1.2\n"+data)
	wantReport(t, "without an order", withLog(n, n.Log), "0.1.2 begin 0\norder\n"+data)
	for i := range 6 {
		wantReport(t, "one that is down", impl.Do(n, toDown(i)), "0.1.2 begin 0\norder 0.1.2\n"+data)
	}
	n.Desks = nil
	wantReport(t, "without desks", n, "0.1.2 begin 0\norder 0.1.2\n")
	n = restingNet()
	n.Houses[0], n.Houses[2] = houseOf(0, homeShard(pair("d\x00 ", "%"))), houseOf(2, homeShard(pair("e", "no client's"), pair("da", "")))
	wantReport(t, "odd data", n, "order\n\"%00%20\"=\"%25\"\n\"a\"=\"1\"\n\"b\"=\"2\"\n\"c\"=\"3\"\n\"d\"=\"4\"\n\"a\"=\"\"\n")
	n.Houses[1] = houseOf(1, homeShard())
	wantReport(t, "a house without data", n, "order\n\"%00%20\"=\"%25\"\n\"a\"=\"\"\n")
}

func TestP15WhatIsSaidOfEachNet(t *testing.T) {
	for what, n := range otherNets() {
		checkSaid(t, what, n)
		wantLegal(t, what+" without a log", withLog(n, nil), true)
		wantClean(t, what+" without a log", withLog(n, nil), false)
	}
	for what, n := range brokenNets() {
		checkSaid(t, what, n)
		if len(n.Log) < 300 {
			n = withLog(n, nil)
		}
		wantLegal(t, what+" without an order", withLog(n, n.Log), false)
		wantClean(t, what+" without an order", withLog(n, n.Log), false)
	}
	throw := dice(157000)
	for range 200 {
		n := thrownNet(&throw)
		log, order := thrownLog(&throw)
		checkSaid(t, "a thrown net", withLog(n, log, order...))
	}
	n := restingNet()
	for size, right := range map[int]bool{0: true, 1: true, 299: true, 300: true, 301: false, 5000: false} {
		wantLegal(t, strconv.Itoa(size)+" replies", withLog(n, slices.Repeat([]impl.Reply{replyOf(dx(1), 1, 0)}, size)), right)
	}
	for size, right := range map[int]bool{0: true, 1: true, 200: true, 201: false} {
		n.Letters = fillers(size)
		wantLegal(t, strconv.Itoa(size)+" letters", n, right)
	}
}

// toldNames are the transactions of toldNet: the first two were decided for, the
// third asked nothing, the fourth was given up, and of the last nobody knows.
func toldNames() (put, got, idle, undone, stranger impl.Tx) {
	return nx(0, 1), nx(1, 1), nx(0, 3), nx(0, 2), nx(1, 9)
}

func toldNet(t *testing.T) impl.Net {
	t.Helper()
	n, line := impl.Run("net 2 60 \"c\"\ncall 0 begin\ncall 0 put \"a\" \"1\"\ncalm 1\ncall 0 commit\ncalm 1\ncall 1 begin\ncall 1 get \"a\"\ncalm 1\ncall 1 put \"d\" \"4\"\ncalm 1\ncall 1 commit\ncalm 1\n" +
		"call 0 begin\ncall 0 put \"b\" \"2\"\ncalm 1\ncall 0 abort\ncall 0 begin\ncall 0 commit\ncall 1 commit\ncalm 1\n")
	wantReport(t, "told", n, "0.1.1 begin 0\n0.1.1 ask 0\n0.1.1 commit 0\n1.1.1 begin 0\n1.1.1 ask 0 \"a\"=\"1\"\n1.1.1 ask 0\n1.1.1 commit 0\n0.1.2 begin 0\n0.1.2 ask 0\n0.1.2 abort 0\n0.1.3 begin 0\n0.1.3 commit 0\n1.1.1 commit 1\norder 0.1.1 1.1.1\n\"a\"=\"1\"\n\"d\"=\"4\"\n")
	if line != 0 {
		t.Fatalf("line %d", line)
	}
	return n
}

func TestP15LegalAsksForTheOrder(t *testing.T) {
	n := toldNet(t)
	put, got, idle, undone, stranger := toldNames()
	want := func(what string, right bool, order ...impl.Tx) {
		t.Helper()
		wantLegal(t, what, withLog(n, n.Log, order...), right)
	}
	want("as it is", true, put, got)
	want("turned", false, got, put)
	want("none", false)
	want("one is missing", false, put)
	want("another one is missing", false, got)
	want("the first twice", false, put, put, got)
	want("the first twice, and one between", false, put, got, put)
	want("the last twice", false, put, got, got)
	want("with the one that asked nothing", true, put, got, idle)
	want("that one in the midst", true, put, idle, got)
	want("that one first", true, idle, put, got)
	want("that one twice", false, idle, put, got, idle)
	want("with one nobody knows", true, put, got, stranger)
	want("that one first", true, stranger, put, got)
	want("that one twice", false, put, stranger, got, stranger)
	want("with names that aren't right", true, put, impl.Tx{}, got, impl.Tx{C: 99}, impl.Tx{C: -1, E: 1, N: 1})
	want("one of these twice", false, put, impl.Tx{}, got, impl.Tx{})
	want("with the one that was given up", false, put, got, undone)
	want("that one in the midst", false, put, undone, got)
	want("that one first", false, undone, put, got)
	// In each case but the turned one the order itself is told.
	for _, order := range [][]impl.Tx{nil, {put}, {put, put, got}, {put, got, put}, {put, got, undone}, {stranger, put, stranger, got}} {
		_, ok := impl.Serial(n.Log, order)
		wantBool(t, "Serial of an order that isn't legal", ok, true)
	}
}

func TestP15LegalAsksForOutcomes(t *testing.T) {
	n := toldNet(t)
	put, got, _, _, stranger := toldNames()
	for _, kind := range []int{-1, 0, 1, 2, 3, 4, 5} {
		for code := -1; code < 11; code++ {
			log := append(slices.Clone(n.Log), replyOf(stranger, kind, code))
			log[len(log)-1].Ask = askGet("c")
			no := kind == 4 && code == 0 || (kind == 2 || kind == 3) && code > 1
			what := "one of the order was told " + strconv.Itoa(kind) + " " + strconv.Itoa(code)
			wantLegal(t, what, withLog(n, log, put, got, stranger), !no)
			wantLegal(t, what+", and isn't in it", withLog(n, log, put, got), true)
			// Whoever was told committed isn't undone by what comes besides.
			log[len(log)-1].Tx = put
			wantLegal(t, what+", that was told committed", withLog(n, log, put, got), true)
		}
	}
	for i := range n.Log {
		log := slices.Delete(slices.Clone(n.Log), i, i+1)
		// The second one was told what the first one put.
		wantLegal(t, "without reply "+strconv.Itoa(i), withLog(n, log, put, got), i != 1)
	}
	for code := range 10 {
		log := slices.Clone(n.Log)
		log[2].Code = code
		wantLegal(t, "the commit has the code "+strconv.Itoa(code), withLog(n, log, put, got), code < 2)
	}
}

func TestP15LegalAsksForWhatWasTold(t *testing.T) {
	n := toldNet(t)
	put, got, _, _, stranger := toldNames()
	for what, pairs := range map[string][]impl.Pair{"nothing": nil, "another value": {pair("a", "2")}, "another key": {pair("b", "1")}, "one more": {pair("a", "1"), pair("d", "4")}} {
		log := slices.Clone(n.Log)
		log[4].Pairs = pairs
		wantLegal(t, "told "+what, withLog(n, log, put, got), false)
		log[4].Code = 1
		wantLegal(t, "not told "+what, withLog(n, log, put, got), true)
		log[4].Code, log[4].Tx = 0, stranger
		wantLegal(t, "another was told "+what, withLog(n, log, put, got), true)
		wantLegal(t, "another in the order was told "+what, withLog(n, log, put, got, stranger), false)
	}
	log := slices.Clone(n.Log)
	log[1].Pairs = []impl.Pair{pair("a", "1")}
	wantLegal(t, "a put tells nothing", withLog(n, log, put, got), false)
	for _, a := range wrongAsks()[:20] {
		log = append(slices.Clone(n.Log), replyAsk(stranger, a, 0))
		wantLegal(t, "an ask that isn't right", withLog(n, log, put, got, stranger), false)
		wantLegal(t, "an ask that isn't right of one that isn't in the order", withLog(n, log, put, got), true)
	}
}

func TestP15LegalAsksForCommits(t *testing.T) {
	n := toldNet(t)
	put, got, _, undone, stranger := toldNames()
	want := func(what string, right bool, more ...impl.Reply) {
		t.Helper()
		wantLegal(t, what, withLog(n, append(slices.Clone(n.Log), more...), put, got), right)
		wantLegal(t, what+", told ahead", withLog(n, append(slices.Clone(more), n.Log...), put, got), right)
	}
	yes, ask := replyOf(stranger, 3, 0), replyAsk(stranger, askPut("z", "9"), 0)
	want("committed without asks", true, yes)
	want("twice", true, yes, yes)
	want("committed behind an ask", false, ask, yes)
	want("an ask behind the commit", false, yes, ask)
	want("two asks", false, ask, ask, yes)
	want("an ask alone", true, ask)
	want("an ask of another", true, yes, replyAsk(undone, askPut("z", "9"), 0))
	want("an ask that wasn't done", true, replyAsk(stranger, askPut("z", "9"), 1), replyAsk(stranger, askPut("z", "9"), 6), yes)
	want("also committed", false, replyOf(stranger, 3, 7), ask, yes)
	want("begun", true, replyOf(stranger, 1, 0), yes)
	for code := 1; code < 10; code++ {
		want("a commit with a code", true, ask, replyOf(stranger, 3, code))
	}
	for _, kind := range []int{-1, 0, 1, 2, 4, 5} {
		want("another kind", true, ask, impl.Reply{Kind: kind, Tx: stranger, Ask: askPut("z", "9")})
	}
	want("the one that was given up", false, replyOf(undone, 3, 0))
	want("no name", true, replyOf(impl.Tx{}, 3, 0))
	want("no name that asked", false, replyOf(impl.Tx{}, 3, 0), replyAsk(impl.Tx{}, askPut("z", "9"), 0))
	wantLegal(t, "in the order", withLog(n, append(slices.Clone(n.Log), ask, yes), put, got, stranger), true)
	wantLegal(t, "first in the order", withLog(n, append(slices.Clone(n.Log), yes, ask), stranger, put, got), true)
}

// Logs of all kinds, behind one another right and not.
func TestP15LegalOfThrownLogs(t *testing.T) {
	throw := dice(158000)
	n, _ := impl.NetNew(nil, 1, 3)
	ways := map[string]int{}
	for range 3000 {
		log, order := thrownLog(&throw)
		for _, x := range order {
			if throw.below(4) > 0 {
				log = append(log, replyOf(x, 3, throw.below(8)/7*throw.below(9)))
			}
		}
		switch roll := throw.below(8); {
		case roll == 0:
			order = order[1:]
		case roll == 1:
			order = append(order, dx(1+throw.below(6)))
		case roll == 2:
			i, j := throw.below(len(order)), throw.below(len(order))
			order[i], order[j] = order[j], order[i]
		case roll == 3 && len(log) > 0:
			log[throw.below(len(log))].Code = throw.below(3)
		case roll == 4:
			log = append(log, replyOf(dx(1+throw.below(8)), 3, 0))
		}
		m := withLog(n, log, order...)
		wantLegal(t, repliesText(log)+allText(false, order), m, legalOf(m))
		checkReport(t, "a thrown log", m)
		_, ok := impl.Serial(log, order)
		ways["legal "+strconv.FormatBool(impl.Legal(m))+", told "+strconv.FormatBool(ok)]++
	}
	wantWays(t, ways, map[string]int{"legal true, told true": 300, "legal false, told true": 500, "legal false, told false": 200})
}

// An order may be as long as it will.
func TestP15LegalOfLongOrders(t *testing.T) {
	n, _ := impl.NetNew(nil, 1, 3)
	put, again := nx(0, 1), impl.Tx{C: 7, E: 77, N: 77}
	var order []impl.Tx
	for i := range 20000 {
		order = append(order, impl.Tx{C: 1 + i%7, E: 1 + i%991, N: 1 + i})
	}
	n.Log = []impl.Reply{replyAsk(put, askPut("a", "1"), 0), replyOf(put, 3, 0)}
	wantLegal(t, "many", withLog(n, n.Log, append(slices.Clone(order), put)...), true)
	wantLegal(t, "many, and not the one", withLog(n, n.Log, order...), false)
	wantLegal(t, "many, and one twice", withLog(n, n.Log, append(append([]impl.Tx{put, again}, order...), again)...), false)
}

// heldNet rests; a transaction, which is the order, put what it was told, and its
// three houses have what they have.
func heldNet(told []impl.Pair, held ...[]impl.Pair) impl.Net {
	n := restingNet()
	x := nx(0, 1)
	n.Log, n.Order = []impl.Reply{replyOf(x, 1, 0)}, []impl.Tx{x}
	for _, p := range told {
		n.Log = append(n.Log, replyAsk(x, askPut(p.Key, p.Val), 0))
	}
	n.Log = append(n.Log, replyOf(x, 3, 0))
	for i, l := range held {
		n.Houses[i] = houseOf(i, homeShard(dPairs(l)...))
	}
	return n
}

func TestP15CleanAsksForTheData(t *testing.T) {
	a, b, h, q := pair("a", "1"), pair("b", "2"), pair("h", "3"), pair("q", "4")
	told := []impl.Pair{q, a, h, b}
	right := func(houses ...[]impl.Pair) impl.Net {
		n := heldNet(told, houses...)
		wantLegal(t, "whatever the houses have", n, true)
		return n
	}
	first, second, third := []impl.Pair{a, b}, []impl.Pair{h}, []impl.Pair{q}
	wantClean(t, "as it is", right(first, second, third), true)
	wantClean(t, "one more", right([]impl.Pair{a, b, pair("c", "")}, second, third), false)
	wantClean(t, "one more at the end", right(first, second, []impl.Pair{q, pair("r", "5")}), false)
	wantClean(t, "one more at the beginning", right([]impl.Pair{pair("\x00", ""), a, b}, second, third), false)
	wantClean(t, "one less", right([]impl.Pair{a}, second, third), false)
	wantClean(t, "the first one less", right([]impl.Pair{b}, second, third), false)
	wantClean(t, "the last one less", right(first, second, nil), false)
	wantClean(t, "none", right(nil, nil, nil), false)
	wantClean(t, "another value", right(first, []impl.Pair{pair("h", "4")}, third), false)
	wantClean(t, "no value", right(first, []impl.Pair{pair("h", "")}, third), false)
	wantClean(t, "another key", right(first, []impl.Pair{pair("i", "3")}, third), false)
	wantClean(t, "two values turned", right([]impl.Pair{pair("a", "2"), pair("b", "1")}, second, third), false)
	wantClean(t, "a pair in two houses", right(first, second, []impl.Pair{h, q}), false)
	wantClean(t, "two houses' data turned", right(second, first, third), false)
	// It is the data that is looked at, not where it lies.
	wantClean(t, "all in one house", right([]impl.Pair{a, b, h, q}, nil, nil), true)
	wantClean(t, "all in the last house", right(nil, nil, []impl.Pair{a, b, h, q}), true)
	// Without data.
	wantClean(t, "nothing told, nothing there", heldNet(nil, nil, nil, nil), true)
	wantClean(t, "nothing told, something there", heldNet(nil, nil, second, nil), false)
	// What isn't a client's is no data.
	n := right(first, second, third)
	n.Houses[1] = houseOf(1, homeShard(pair("a", "1"), pair("dh", "3"), pair("h3", "3.5.1"), pair("z", "")))
	wantClean(t, "with what a shard keeps besides", n, true)
}

func TestP15CleanAsksForRest(t *testing.T) {
	n := toldNet(t)
	wantClean(t, "as it is", n, true)
	for machine := range 4 {
		down := impl.Do(n, toDown(machine))
		wantClean(t, "one that is down", down, false)
		wantClean(t, "one that is up again", impl.Do(down, toUp(machine)), true)
	}
	letter := cloneNet(n)
	letter.Letters = fillers(1)
	wantClean(t, "a letter", letter, false)
	wantClean(t, "no letter any more", impl.Do(letter, toLose(0)), true)
	// A transaction that only reads: its data never differ.
	steps := []impl.Step{toCall(0, toBegin()), toCall(0, toAsk(askGet("a"))), toDeliver(0), toDeliver(0), toCall(0, toCommit()), toDeliver(0), toDeliver(0), toDeliver(0), toDeliver(0)}
	for i, rest := range []bool{true, false, false, false, false, false, false, false, true} {
		n = impl.Do(n, steps[i])
		wantClean(t, "behind "+stepText(steps[i]), n, rest)
		for place := len(n.Letters) - 1; place >= 0; place-- {
			lost := impl.Do(n, toLose(place))
			wantClean(t, "its letter lost, behind "+stepText(steps[i]), lost, rest)
		}
		wantClean(t, "and calm", impl.Do(n, toCalm(30)), true)
	}
	// Each thing that rests not, alone.
	n = heldNet(nil, nil, nil, nil)
	for i := range 3 {
		n.Houses[i].Shard.Works, n.Houses[i].Shard.Born = []impl.Work{{Tx: tx(3, 1), Stamp: homeStamp + 1}}, 1
		wantClean(t, "a work", n, false)
		n.Houses[i].Shard.Works = nil
		wantClean(t, "no work", n, true)
		for phase := range 5 {
			n.Desks[i] = deskOn(i, phase)
			wantClean(t, "the phase "+phaseNames[phase], n, phase < 2)
		}
		n.Desks[i] = deskOn(i, 0)
	}
	for what, n := range brokenNets() {
		if len(n.Log) < 300 {
			wantClean(t, what, withLog(n, nil), false)
		}
	}
}

func TestP15CleanAsksForAnOrderThatIsTold(t *testing.T) {
	n := toldNet(t)
	put, got, idle, undone, stranger := toldNames()
	want := func(what string, right, legal bool, order ...impl.Tx) {
		t.Helper()
		wantClean(t, what, withLog(n, n.Log, order...), right)
		wantLegal(t, what, withLog(n, n.Log, order...), legal)
	}
	want("as it is", true, true, put, got)
	want("turned", false, false, got, put)
	want("one is missing", false, false, put)
	want("one that is undone", false, false, put, got, undone)
	want("one that asked nothing, and one nobody knows", true, true, idle, put, got, stranger)
	// Clean asks for the data alone: what an order names twice isn't its matter.
	want("twice", true, false, put, put, got, got)
	// Serial of what isn't told has no data, like a net without any.
	empty := heldNet(nil, nil, nil, nil)
	wantClean(t, "nothing there", empty, true)
	empty.Log = append(empty.Log, replyAsk(nx(0, 1), askGet("a"), 0, pair("a", "1")))
	wantBool(t, "it rests without data", impl.Settled(empty) && len(impl.AllData(empty)) == 0, true)
	wantClean(t, "nothing there, and not told so", empty, false)
	empty.Log[len(empty.Log)-1] = replyAsk(nx(0, 1), impl.Ask{}, 0)
	wantClean(t, "nothing there, and a wrong ask", empty, false)
	empty.Order = nil
	wantClean(t, "nothing there, and no order", empty, true)
}

func TestP15CleanOfThrownData(t *testing.T) {
	throw := dice(159000)
	ways := map[string]int{}
	for range 800 {
		log, order := thrownLog(&throw)
		l, _ := ranAll(log, order)
		what := "as it is"
		switch roll := throw.below(8); {
		case roll == 0:
			l, what = dataOf(dPairs(l), []impl.Edit{puts(thrownText(&throw, 2)+"x", "7")}), "a pair more"
		case len(l) == 0:
		case roll == 1:
			l, what = dataOf(dPairs(l), []impl.Edit{goes(l[throw.below(len(l))].Key)}), "a pair less"
		case roll == 2:
			l, what = dataOf(dPairs(l), []impl.Edit{puts(l[throw.below(len(l))].Key, "new")}), "another value"
		}
		i, j := throw.below(len(l)+1), throw.below(len(l)+1)
		i, j = min(i, j), max(i, j)
		n := withLog(heldNet(nil, l[:i], l[i:j], l[j:]), log, order...)
		checkSaid(t, what, n)
		ways[what+" "+strconv.FormatBool(impl.Clean(n))]++
	}
	wantWays(t, ways, map[string]int{"as it is true": 300, "a pair more false": 60, "a pair less false": 40, "another value false": 40})
}

// wholeAnswers are the answers that have lists; texts and bools have none.
func wholeAnswers(text string, n impl.Net) map[string][]any {
	ran, line := impl.Run(text)
	return map[string][]any{"Run": {ran, line}, "Report": {impl.Report(n)}, "Legal": {impl.Legal(n)}, "Clean": {impl.Clean(n)}}
}

func TestP15RunsAreNewMemory(t *testing.T) {
	for _, x := range someRuns() {
		n, _ := impl.Run(x.text)
		n = netWithRoom(n)
		told := askTwice(t, x.what, func() map[string][]any { return wholeAnswers(x.text, n) }, n)
		wantApart(t, x.what, told, n)
	}
	throw := dice(160000)
	for range 20 {
		lines, n := thrownPlay(&throw, thrownNetLine(&throw, 80, 20), 40)
		text := strings.Join(lines, "\n")
		n = netWithRoom(n)
		told := askTwice(t, "a thrown play", func() map[string][]any { return wholeAnswers(text, n) }, n)
		wantApart(t, "a thrown play", told, n)
	}
	for _, text := range []string{"", "stop", "net 1 3", "net 3 9 \"b\" \"d\" \"f\"\nstop", "\nnet 3 9 \"b\" \"d\" \"f\"\n#"} {
		askTwice(t, clip(text), func() map[string][]any { return wholeAnswers(text, impl.Net{}) })
	}
}

// What is done with a net that was told doesn't come back with the next run.
func TestP15RunsKeepNothing(t *testing.T) {
	for _, x := range someRuns() {
		n, _ := impl.Run(x.text)
		for i := range n.Splits {
			n.Splits[i] = "zz"
		}
		for i := range n.Log {
			n.Log[i].Code = 9
			for j := range n.Log[i].Pairs {
				n.Log[i].Pairs[j].Val = "zz"
			}
		}
		for i := range n.Order {
			n.Order[i].N = 999
		}
		for _, house := range n.Houses {
			for _, sheet := range slices.Concat(house.Disk.Sheets, house.Shard.Store.Disk.Sheets) {
				clear(sheet.Bytes)
			}
		}
		wantBool(t, "what was changed isn't legal", impl.Legal(n), false)
		again, _ := impl.Run(x.text)
		wantReport(t, x.what, again, x.report)
		wantLegal(t, x.what, again, true)
	}
}

// What is asked of a net leaves it as it is, right or not, also where its lists are
// one memory.
func TestP15WhatIsSaidChangesNoNet(t *testing.T) {
	ask := func(what string, n impl.Net) {
		t.Helper()
		askTwice(t, what, func() map[string][]any { return wholeAnswers("", n) }, n)
	}
	for what, n := range brokenNets() {
		if len(n.Letters)+len(n.Log)+len(n.Desks)+len(n.Houses)+len(n.Splits) <= 400 {
			ask(what, netWithRoom(n))
		}
	}
	for what, n := range otherNets() {
		ask(what, netWithRoom(n))
	}
	throw := dice(161000)
	for range 20 {
		log, order := thrownLog(&throw)
		ask("a thrown net", netWithRoom(withLog(thrownNet(&throw), log, order...)))
	}
	n := toldNet(t)
	pairs := []impl.Pair{pair("a", "1"), pair("b", "2")}
	n.Log[4].Pairs, n.Log[0].Pairs, n.Log[1].Pairs = pairs[:1], pairs, pairs[:0]
	ask("one memory", n)
	wantLegal(t, "one memory", n, true)
	wantClean(t, "one memory", n, true)
}
