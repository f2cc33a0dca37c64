package tests

import (
	"fmt"
	"regexp"
	"slices"
	"strconv"
	"strings"
	"testing"

	"loop.example/g00392/impl"
)

// numeral is what NumText must tell.
func numeral(n int) string {
	if n < 0 || n > 1<<40-1 {
		return ""
	}
	return strconv.Itoa(n)
}

// quoted is what Quote must tell.
func quoted(s string) string {
	if len(s) > 4096 {
		return ""
	}
	var b strings.Builder
	for _, c := range []byte(s) {
		if c < '!' || c > '~' || c == '"' || c == '%' {
			fmt.Fprintf(&b, "%%%02X", c)
			continue
		}
		b.WriteByte(c)
	}
	return `"` + b.String() + `"`
}

// callLine is how a right call is written.
func callLine(x impl.Call) string {
	a := x.Ask
	switch {
	case x.Kind != 2:
		return map[int]string{1: "begin", 3: "commit", 4: "abort"}[x.Kind]
	case a.Kind == 2:
		return "put " + quoted(a.Key) + " " + quoted(a.Val)
	case a.Kind == 4 && a.Back:
		return "back " + quoted(a.Range.Lo) + " " + quoted(a.Range.Hi) + " " + numeral(a.Most)
	case a.Kind == 4:
		return "scan " + quoted(a.Range.Lo) + " " + quoted(a.Range.Hi) + " " + numeral(a.Most)
	}
	return map[int]string{1: "get ", 3: "del "}[a.Kind] + quoted(a.Key)
}

// lineFor is what StepText must tell.
func lineFor(x impl.Step) string {
	words := []string{map[int]string{1: "call", 2: "deliver", 3: "lose", 4: "double", 5: "tick", 6: "down", 7: "torn", 8: "up", 9: "calm"}[x.Kind]}
	left := x
	left.Kind = 0
	if x.Kind != 5 {
		words, left.A = append(words, numeral(x.A)), 0
	}
	if x.Kind == 1 && rightCall(x.Call) {
		words, left.Call = append(words, callLine(x.Call)), impl.Call{}
	}
	if x.Kind == 7 {
		for _, n := range append([]int{x.B}, x.Keep...) {
			words = append(words, numeral(n))
		}
		left.B, left.Keep = 0, nil
	}
	if x.Kind == 1 && len(words) < 3 || slices.Contains(words, "") || !sameStep(left, impl.Step{}) {
		return ""
	}
	return strings.Join(words, " ")
}

func sameStep(a, b impl.Step) bool { return allText(false, a) == allText(false, b) }

const numeralPart = ` (0|[1-9][0-9]{0,12})`
const quotePart = ` ("(?:[!#$&-~]|%[0-9A-F]{2})*")`

var (
	shortForm = regexp.MustCompile(`^(deliver|lose|double|down|up|calm)` + numeralPart + `$`)
	tornForm  = regexp.MustCompile(`^torn` + numeralPart + `((?:` + numeralPart + `)+)$`)
	wordForm  = regexp.MustCompile(`^call` + numeralPart + ` (begin|commit|abort)$`)
	keyForm   = regexp.MustCompile(`^call` + numeralPart + ` (get|del)` + quotePart + `$`)
	putForm   = regexp.MustCompile(`^call` + numeralPart + ` put` + quotePart + quotePart + `$`)
	scanForm  = regexp.MustCompile(`^call` + numeralPart + ` (scan|back)` + quotePart + quotePart + numeralPart + `$`)
	netForm   = regexp.MustCompile(`^net` + numeralPart + numeralPart + `((?:` + quotePart + `)*)$`)
)

// numberOf is the number of a numeral of at most 13 digits, -1 of one too great.
func numberOf(s string) int {
	n, _ := strconv.Atoi(s)
	if n > 1<<40-1 {
		return -1
	}
	return n
}

// unquoted reads what is like a quote; a form that Quote doesn't write is read as
// a text that is too long for all clients.
func unquoted(s string) string {
	var b strings.Builder
	for i := 1; i < len(s)-1; i++ {
		c := s[i]
		if c == '%' {
			n, _ := strconv.ParseUint(s[i+1:i+3], 16, 8)
			c, i = byte(n), i+2
		}
		b.WriteByte(c)
	}
	if quoted(b.String()) != s {
		return longVal
	}
	return b.String()
}

// stepLike reads a line by its form, right or not.
func stepLike(s string) impl.Step {
	if m := shortForm.FindStringSubmatch(s); m != nil {
		return impl.Step{Kind: map[string]int{"deliver": 2, "lose": 3, "double": 4, "down": 6, "up": 8, "calm": 9}[m[1]], A: numberOf(m[2])}
	}
	if m := tornForm.FindStringSubmatch(s); m != nil {
		x := impl.Step{Kind: 7, A: numberOf(m[1])}
		for i, word := range strings.Fields(m[2]) {
			if i == 0 {
				x.B = numberOf(word)
				continue
			}
			x.Keep = append(x.Keep, numberOf(word))
		}
		return x
	}
	if m := wordForm.FindStringSubmatch(s); m != nil {
		return toCall(numberOf(m[1]), impl.Call{Kind: map[string]int{"begin": 1, "commit": 3, "abort": 4}[m[2]]})
	}
	if m := keyForm.FindStringSubmatch(s); m != nil {
		return toCall(numberOf(m[1]), toAsk(impl.Ask{Kind: map[string]int{"get": 1, "del": 3}[m[2]], Key: unquoted(m[3])}))
	}
	if m := putForm.FindStringSubmatch(s); m != nil {
		return toCall(numberOf(m[1]), toAsk(askPut(unquoted(m[2]), unquoted(m[3]))))
	}
	if m := scanForm.FindStringSubmatch(s); m != nil {
		return toCall(numberOf(m[1]), toAsk(askScan(unquoted(m[3]), unquoted(m[4]), numberOf(m[5]), m[2] == "back")))
	}
	if s == "tick" {
		return toTick()
	}
	return impl.Step{}
}

// stepIn is what TextStep must answer.
func stepIn(s string) (impl.Step, bool) {
	x := stepLike(s)
	number := append([]int{x.A, x.B}, x.Keep...)
	if x.Kind == 0 || slices.Contains(number, -1) || x.Kind == 1 && !rightCall(x.Call) {
		return impl.Step{}, false
	}
	return x, true
}

// scriptIn is what ReadScript must answer.
func scriptIn(text string) ([]impl.Step, int) {
	if len(text) > 8000 {
		return nil, 1
	}
	var l []impl.Step
	for i, line := range strings.Split(text, "\n") {
		if line == "" || strings.HasPrefix(line, "#") {
			continue
		}
		x, ok := stepIn(line)
		if !ok || len(l) == 300 {
			return nil, i + 1
		}
		l = append(l, x)
	}
	return l, 0
}

// netIn is what ReadNet must answer.
func netIn(line string) (impl.Net, bool) {
	m := netForm.FindStringSubmatch(line)
	if m == nil {
		return impl.Net{}, false
	}
	var splits []string
	for _, word := range strings.Fields(m[3]) {
		splits = append(splits, unquoted(word))
	}
	return freshOf(splits, numberOf(m[1]), numberOf(m[2]))
}

func netLine(desks, size int, splits ...string) string {
	line := "net " + strconv.Itoa(desks) + " " + strconv.Itoa(size)
	for _, k := range splits {
		line += " " + quoted(k)
	}
	return line
}

// replyLine is what ReplyText must tell.
func replyLine(r impl.Reply) string {
	name := "-"
	if rightName(r.Tx) {
		name = dotted(r.Tx)
	}
	kind, known := map[int]string{1: "begin", 2: "ask", 3: "commit", 4: "abort"}[r.Kind]
	if !known {
		kind = "-"
	}
	line := name + " " + kind + " " + numeral(r.Code)
	for _, p := range r.Pairs {
		line += " " + quoted(p.Key) + "=" + quoted(p.Val)
	}
	return line
}

// clip keeps what a failing test says short.
func clip(s string) string {
	if len(s) > 300 {
		return strconv.Quote(s[:300]) + " .. of " + strconv.Itoa(len(s)) + " bytes"
	}
	return strconv.Quote(s)
}

func wantLine(t *testing.T, x impl.Step, want string) {
	t.Helper()
	if got := impl.StepText(x); got != want {
		t.Errorf("StepText of %s is %s, want %s", clip(stepText(x)), clip(got), clip(want))
	}
}

func wantStep(t *testing.T, s string, want impl.Step, right bool) {
	t.Helper()
	if got, ok := impl.TextStep(s); ok != right || !sameStep(got, want) {
		t.Errorf("TextStep(%s) is %s, %v, want %s, %v", clip(s), clip(stepText(got)), ok, clip(stepText(want)), right)
	}
}

// wantWritten: a step is written so, and read so.
func wantWritten(t *testing.T, x impl.Step, line string) {
	t.Helper()
	wantLine(t, x, line)
	wantStep(t, line, x, true)
	if lineFor(x) != line {
		t.Errorf("the model of StepText of %s tells %s, not %s", clip(stepText(x)), clip(lineFor(x)), clip(line))
	}
	checkStep(t, line)
}

func wantNoLine(t *testing.T, x impl.Step) {
	t.Helper()
	wantLine(t, x, "")
	if lineFor(x) != "" {
		t.Errorf("the model tells a line of %s", clip(stepText(x)))
	}
}

func wantNoStep(t *testing.T, s string) {
	t.Helper()
	wantStep(t, s, impl.Step{}, false)
	checkStep(t, s)
}

// checkStep holds TextStep against the model, and tells whether there is a step.
func checkStep(t *testing.T, s string) bool {
	t.Helper()
	want, right := stepIn(s)
	wantStep(t, s, want, right)
	if right {
		wantLine(t, want, s)
	}
	return right
}

func wantScript(t *testing.T, text string, want []impl.Step, line int) {
	t.Helper()
	got, also := impl.ReadScript(text)
	if also != line || allText(false, got) != allText(false, want) {
		t.Errorf("ReadScript(%s) has %d steps and line %d, want %d steps and line %d: %s", clip(text), len(got), also, len(want), line, clip(allText(false, got)))
	}
}

// checkScript holds ReadScript against the model, and answers what is read.
func checkScript(t *testing.T, text string) ([]impl.Step, int) {
	t.Helper()
	want, line := scriptIn(text)
	wantScript(t, text, want, line)
	return want, line
}

// wantBad: a text that has a line that isn't right.
func wantBad(t *testing.T, text string, line int) {
	t.Helper()
	wantScript(t, text, nil, line)
	checkScript(t, text)
}

func wantSteps(t *testing.T, text string, want ...impl.Step) {
	t.Helper()
	wantScript(t, text, want, 0)
	checkScript(t, text)
}

// checkNet holds ReadNet against the model, and tells whether there is a net.
func checkNet(t *testing.T, line string) bool {
	t.Helper()
	want, right := netIn(line)
	n, ok := impl.ReadNet(line)
	wantBool(t, "ReadNet "+clip(line), ok, right)
	wantNet(t, "ReadNet "+clip(line), n, want)
	return right
}

func wantNoNetLine(t *testing.T, line string) {
	t.Helper()
	wantBool(t, "the model of ReadNet "+clip(line), checkNet(t, line), false)
}

func wantReply(t *testing.T, r impl.Reply, want string) {
	t.Helper()
	if got := impl.ReplyText(r); got != want {
		t.Errorf("ReplyText of %s is %s, want %s", clip(allText(false, r)), clip(got), clip(want))
	}
	if got := replyLine(r); got != want {
		t.Errorf("the model of ReplyText tells %s, not %s", clip(got), clip(want))
	}
}

// writtenStep is a step and its line.
type writtenStep struct {
	line string
	step impl.Step
}

// someWritten are steps of each kind and calls of each kind, with their lines.
func someWritten() []writtenStep {
	ask := func(desk int, a impl.Ask) impl.Step { return toCall(desk, toAsk(a)) }
	return []writtenStep{
		{"call 0 begin", toCall(0, toBegin())}, {"call 2 commit", toCall(2, toCommit())}, {"call 10 abort", toCall(10, toAbort())},
		{`call 0 get "a"`, ask(0, askGet("a"))}, {`call 1 get "a%20b"`, ask(1, askGet("a b"))}, {`call 1 get "%00"`, ask(1, askGet("\x00"))}, {`call 1 get "%C3%A9"`, ask(1, askGet("é"))},
		{`call 0 put "a" "1"`, ask(0, askPut("a", "1"))}, {`call 0 put "a" ""`, ask(0, askPut("a", ""))}, {`call 7 put "%25" "%22"`, ask(7, askPut("%", "\""))}, {`call 0 put "#" "~!"`, ask(0, askPut("#", "~!"))},
		{`call 0 del "abcdefgh"`, ask(0, askDel("abcdefgh"))}, {`call 0 del "%FF%7F"`, ask(0, askDel("\xff\x7f"))},
		{`call 0 scan "" "" 1`, ask(0, askScan("", "", 1, false))}, {`call 0 scan "a" "" 8`, ask(0, askScan("a", "", 8, false))}, {`call 0 scan "" "b" 8`, ask(0, askScan("", "b", 8, false))},
		{`call 3 scan "a%00" "ab" 2`, ask(3, askScan("a\x00", "ab", 2, false))}, {`call 0 scan "abcdefghi" "abcdefghj" 2`, ask(0, askScan("abcdefghi", "abcdefghj", 2, false))},
		{`call 0 back "" "" 1`, ask(0, askScan("", "", 1, true))}, {`call 0 back "a" "" 8`, ask(0, askScan("a", "", 8, true))}, {`call 0 back "%0A" "%20" 5`, ask(0, askScan("\n", " ", 5, true))},
		{"deliver 0", toDeliver(0)}, {"deliver 199", toDeliver(199)}, {"lose 1", toLose(1)}, {"lose 1099511627775", toLose(impl.MaxNum)}, {"double 20", toDouble(20)}, {"tick", toTick()},
		{"down 3", toDown(3)}, {"up 3", toUp(3)}, {"up 0", toUp(0)}, {"calm 30", toCalm(30)}, {"calm 0", toCalm(0)},
		{"torn 0 0", toTear(0, 0)}, {"torn 1 2 512", toTear(1, 2, 512)}, {"torn 1 2 512 0", toTear(1, 2, 512, 0)}, {"torn 0 9 0 0 0 1099511627775 511 7", toTear(0, 9, 0, 0, 0, impl.MaxNum, 511, 7)},
	}
}

func someLines() []string {
	var l []string
	for _, x := range someWritten() {
		l = append(l, x.line)
	}
	return l
}

func TestP14StepsAreReadAsWritten(t *testing.T) {
	for _, x := range someWritten() {
		wantWritten(t, x.step, x.line)
	}
}

func TestP14EachCallIsReadAsWritten(t *testing.T) {
	var calls []impl.Call
	for _, a := range rightAsks() {
		calls = append(calls, toAsk(a))
	}
	numbers := someNumbers()
	for i, x := range append(calls, someCalls()...) {
		step := toCall(numbers[i%len(numbers)], x)
		wantWritten(t, step, lineFor(step))
	}
	// Each byte that a key may have, and that a value may have.
	for c := range 256 {
		s := string([]byte{byte(c)})
		for _, a := range []impl.Ask{askGet(s), askDel("a" + s), askPut(s+"b", s), askScan(s, "", 1, false), askScan("", s+s, 8, true)} {
			step := toCall(0, toAsk(a))
			wantWritten(t, step, lineFor(step))
		}
	}
}

func TestP14EachNumberIsReadAsWritten(t *testing.T) {
	all := toTear(3, 4, someNumbers()...)
	wantWritten(t, all, lineFor(all))
	for i, n := range someNumbers() {
		for kind := 1; kind < 10; kind++ {
			x := impl.Step{Kind: kind, A: n}
			switch kind {
			case 1:
				x.Call = someCalls()[i%7]
			case 5:
				x.A = 0
			case 7:
				x.B = someNumbers()[len(someNumbers())-1-i]
			}
			wantWritten(t, x, lineFor(x))
		}
		wantWritten(t, toTear(0, n), "torn 0 "+strconv.Itoa(n))
		wantWritten(t, toTear(0, 1, n), "torn 0 1 "+strconv.Itoa(n))
		wantWritten(t, toTear(0, 1, 5, n, n), "torn 0 1 5 "+strconv.Itoa(n)+" "+strconv.Itoa(n))
	}
}

func TestP14AsManyNumbersAsThereAre(t *testing.T) {
	for _, size := range []int{0, 1, 2, 3, 100, 4000, 200000} {
		x := toTear(size, 1, upFrom(0, size)...)
		line := "torn " + strconv.Itoa(size) + " 1"
		if size > 0 {
			line += " " + strings.Trim(fmt.Sprint(upFrom(0, size)), "[]")
		}
		wantWritten(t, x, line)
		wantNoStep(t, line+" ")
		wantNoStep(t, line+" x")
		wantNoStep(t, line+" 00")
		wantNoLine(t, toTear(size, 1, append(upFrom(0, size), -1)...))
		wantNoLine(t, toTear(size, 1, append([]int{impl.MaxNum + 1}, upFrom(0, size)...)...))
	}
}

const nearBytes = " \t\n\r\x00\"%#'-+.=_0159abegklnprtuzAFGTZ\x7f\x80\xa0\xc4\xff"

// nearTexts differ from a text by a byte that is gone, is another one or stands
// there besides, by a place where it ends or begins, or by two bytes that changed
// places.
func nearTexts(s string) []string {
	l := []string{strings.ToUpper(s), s + s, s + " " + s, s + "\n" + s, "\xef\xbb\xbf" + s}
	for at := range len(s) + 1 {
		for _, c := range []byte(nearBytes) {
			l = append(l, s[:at]+string([]byte{c})+s[at:])
			if at < len(s) {
				l = append(l, s[:at]+string([]byte{c})+s[at+1:])
			}
		}
		l = append(l, s[:at], s[at:])
		if at < len(s) {
			l = append(l, s[:at]+s[at+1:])
		}
		if at+2 <= len(s) {
			l = append(l, s[:at]+s[at+1:at+2]+s[at:at+1]+s[at+2:])
		}
	}
	return l
}

// checkMany holds what is read of each text against the model; of both kinds, right
// ones and others, there must be so many.
func checkMany(t *testing.T, l []string, check func(t *testing.T, s string) bool, right, wrong int) {
	t.Helper()
	told := 0
	for _, s := range l {
		told += bit(check(t, s))
	}
	if told < right || len(l)-told < wrong {
		t.Errorf("only %d right ones and %d wrong ones", told, len(l)-told)
	}
}

func TestP14NearlyRightLines(t *testing.T) {
	var l []string
	for _, line := range someLines() {
		l = append(l, nearTexts(line)...)
	}
	checkMany(t, l, checkStep, 2000, 30000)
}

// oddWords: words of lines, and what is nearly such a word.
func oddWords() []string {
	return []string{"call", "deliver", "lose", "double", "tick", "down", "torn", "up", "calm", "net", "begin", "get", "put", "del", "scan", "back", "commit", "abort", "ask", "-", "stop", "Call", "calls", "cal",
		"0", "1", "2", "8", "9", "10", "00", "01", "-0", "-1", "+1", "1.", "1e1", "0x1", "1_0", "٣", "１", "1099511627775", "1099511627776", "9223372036854775807", "18446744073709551617", strings.Repeat("9", 40),
		`""`, `"a"`, `"b"`, `"%20"`, `"%41"`, `"%2f"`, `"%2F"`, `"%0"`, `"%"`, `"a`, `a"`, `a`, `"`, `"""`, `'a'`, `"\n"`, `"é"`, `"%C3%A9"`, `"abcdefgh"`, `"abcdefghi"`, `"abcdefghij"`, `"%00"`,
		"", "\t", "\n", "#", "\x00", "\xa0", "é", "\xff"}
}

// aroundWords: a line with one word less, or with another word in the place of
// each, ahead of it or behind all.
func aroundWords(line string) []string {
	words := strings.Split(line, " ")
	var l []string
	add := func(parts ...[]string) { l = append(l, strings.Join(slices.Concat(parts...), " ")) }
	for at := range len(words) + 1 {
		for _, odd := range oddWords() {
			add(words[:at], []string{odd}, words[at:])
			if at < len(words) {
				add(words[:at], []string{odd}, words[at+1:])
			}
		}
		if at < len(words) {
			add(words[:at], words[at+1:])
			add(words[:at], words[at:at+1], words[at:])
		}
		add(words[at:], words[:at])
	}
	return append(l, strings.ReplaceAll(line, " ", "  "), strings.ReplaceAll(line, " ", "\t"), strings.ReplaceAll(line, " ", ""), line+" #", "# "+line, "#"+line)
}

func TestP14LinesOfOtherWords(t *testing.T) {
	var l []string
	for _, line := range someLines() {
		l = append(l, aroundWords(line)...)
	}
	checkMany(t, l, checkStep, 500, 12000)
}

func TestP14ThrownWords(t *testing.T) {
	throw := dice(1401)
	odd := append(oddWords(), "0", "1", "2", "8", `"a"`, `"b"`, `""`, "begin", "get", "put", "del", "scan", "back", "up", "torn")
	var l []string
	for range 40000 {
		words := strings.Split(lineFor(thrownWritten(&throw)), " ")
		for range 1 + throw.below(3) {
			at := throw.below(len(words) + 1)
			// In the place of a word, or between two.
			words = slices.Replace(words, at, min(at+throw.below(2), len(words)), odd[throw.below(len(odd))])
		}
		l = append(l, strings.Join(words, " "))
	}
	checkMany(t, l, checkStep, 500, 20000)
}

// thrownWritten is a step that has a line.
func thrownWritten(d *dice) impl.Step {
	n := func() int {
		if d.below(3) == 0 {
			return someNumbers()[d.below(len(someNumbers()))]
		}
		return d.below(30)
	}
	x := impl.Step{Kind: 1 + d.below(9)}
	switch x.Kind {
	case 1:
		x.A, x.Call = n(), thrownCall(d)
	case 5:
	case 7:
		x.A, x.B = n(), n()
		for range d.below(6) {
			x.Keep = append(x.Keep, n())
		}
	default:
		x.A = n()
	}
	return x
}

func thrownRemark(d *dice) string {
	return []string{"", "", "#", "# tick", "#é\xff\x80", "##", "#\ttick\r"}[d.below(7)]
}

// thrownScript is a text with its steps; it says nothing in some of its lines.
func thrownScript(d *dice, size int) (string, []impl.Step) {
	var lines []string
	var steps []impl.Step
	for range size {
		for d.below(3) == 0 {
			lines = append(lines, thrownRemark(d))
		}
		x := thrownWritten(d)
		lines, steps = append(lines, lineFor(x)), append(steps, x)
	}
	text := strings.Join(lines, "\n")
	if d.below(2) == 0 {
		text += "\n" + thrownRemark(d)
	}
	return text, steps
}

func TestP14TheLinesOfAScriptGiveItsSteps(t *testing.T) {
	throw := dice(1402)
	for range 600 {
		text, steps := thrownScript(&throw, throw.below(40))
		if len(text) > 8000 {
			t.Fatal("the script is too long")
		}
		wantSteps(t, text, steps...)
		var again []string
		for _, x := range steps {
			again = append(again, impl.StepText(x))
		}
		wantSteps(t, strings.Join(again, "\n"), steps...)
	}
}

// A text read in two parts tells the same; the lines of the second one are counted
// on from those of the first.
func TestP14AScriptInTwoParts(t *testing.T) {
	throw := dice(1403)
	bad := 0
	for range 400 {
		first, a := thrownScript(&throw, throw.below(20))
		second, _ := thrownScript(&throw, throw.below(20))
		if throw.below(2) == 0 {
			second = second + "\n" + oddWords()[throw.below(len(oddWords()))] + "\ntick"
		}
		b, line := checkScript(t, second)
		if line > 0 {
			bad++
			wantBad(t, first+"\n"+second, strings.Count(first, "\n")+1+line)
			continue
		}
		wantSteps(t, first+"\n"+second, slices.Concat(a, b)...)
	}
	if bad < 100 || bad > 300 {
		t.Errorf("%d bad ones", bad)
	}
}

func TestP14TheFirstLineThatIsNotRightIsTold(t *testing.T) {
	throw := dice(1404)
	for range 300 {
		text, _ := thrownScript(&throw, 1+throw.below(20))
		lines := strings.Split(text, "\n")
		at := throw.below(len(lines))
		s := aroundWords(someLines()[throw.below(len(someLines()))])
		lines[at] = s[throw.below(len(s))]
		checkScript(t, strings.Join(lines, "\n"))
		lines[at] = []string{"stop", " tick", "tick ", "tick\r", "tick 1", "deliver", "deliver 01", "torn 1", "call 0 get a", "net 1 80", " #", "\t", "\x00", "é", "0"}[throw.below(15)]
		for later := at + 1; later < len(lines); later += 2 {
			lines[later] = "stop"
		}
		wantBad(t, strings.Join(lines, "\n"), at+1)
	}
}

func TestP14ScriptsEndedOrNot(t *testing.T) {
	a, b := toTick(), toCalm(2)
	for _, text := range []string{"", "\n", "\n\n\n", "#", "#\n", "# x", "#x\n\n#", "\n#\n", "#stop", "#\xff", "#é", "#Ċstop"} {
		wantSteps(t, text)
	}
	for _, text := range []string{"tick\ncalm 2", "tick\ncalm 2\n", "\ntick\ncalm 2", "\n\ntick\n\n\ncalm 2\n\n", "# x\ntick\n#\n#calm 3\ncalm 2\n#", "#\xff\x80\ntick\n#Ċ\ncalm 2\n# ", "tick\n##\ncalm 2"} {
		wantSteps(t, text, a, b)
	}
	wantSteps(t, "tick", a)
	wantSteps(t, "tick\n", a)
	wantSteps(t, "tick\ntick", a, a)
	wantBad(t, "stop", 1)
	wantBad(t, "stop\n", 1)
	wantBad(t, "\nstop", 2)
	wantBad(t, "tick\n\nstop\ntick\n", 3)
	wantBad(t, "tick\nstop\nstop", 2)
	wantBad(t, "# x\n\n#\ntick\nstop", 5)
	wantBad(t, "tick\r\ntick", 1)
	wantBad(t, "tick\ntick\r", 2)
	wantBad(t, "tick # x", 1)
	wantBad(t, "tick\n ", 2)
	wantBad(t, " #", 1)
	wantBad(t, "tick\rtick", 1)
	wantBad(t, "tick\x00\n", 1)
	wantBad(t, "tick\n\xff", 2)
	wantBad(t, "tickĊtick", 1)
	wantBad(t, "tick\u2028tick", 1)
}

func TestP14NetsAreReadAsWritten(t *testing.T) {
	for _, desks := range []int{1, 2, 3} {
		for _, splits := range [][]string{nil, {"c"}, {"c", "f"}, {"b", "d", "f"}, {"\x00", " ", "%"}, {"\"", topUser}, {longUser}, {"é"}} {
			for _, size := range []int{3, 4, 80, 400} {
				line := netLine(desks, size, splits...)
				wantBool(t, line, checkNet(t, line), true)
				want, _ := impl.NetNew(splits, desks, size)
				got, ok := impl.ReadNet(line)
				wantBool(t, line, ok, true)
				wantNet(t, line, got, want)
			}
		}
	}
	wantBool(t, "literally", checkNet(t, `net 2 40 "c" "d%20e"`), true)
}

func TestP14NearlyRightNets(t *testing.T) {
	for _, line := range []string{"net 1 80", `net 2 40 "c"`, `net 3 9 "b" "d%20" "f"`} {
		checkMany(t, append(nearTexts(line), aroundWords(line)...), checkNet, 30, 1200)
	}
}

func TestP15ScriptLimits(t *testing.T) {
	if impl.MaxScript != 300 || impl.MaxText != 8000 {
		t.Errorf("MaxScript is %d, MaxText %d", impl.MaxScript, impl.MaxText)
	}
}

func TestP15NumbersThatHaveNoText(t *testing.T) {
	for _, n := range noNumbers() {
		for kind := 1; kind < 10; kind++ {
			x := impl.Step{Kind: kind, A: n}
			if kind == 1 {
				x.Call = toBegin()
			}
			wantNoLine(t, x)
		}
		for _, x := range []impl.Step{toTear(0, n), toTear(0, n, 1), toTear(0, 0, n), toTear(0, 0, 1, n), toTear(0, 0, n, 1), toTear(n, n, n)} {
			wantNoLine(t, x)
		}
	}
}

func TestP15StepsOfNoKind(t *testing.T) {
	for _, kind := range append(farEnds(), 0, 10, 11, -9, 100) {
		for _, x := range []impl.Step{{Kind: kind}, {Kind: kind, A: 1}, {Kind: kind, Call: toBegin()}, {Kind: kind, A: 1, B: 2, Keep: []int{3}}} {
			wantNoLine(t, x)
		}
	}
	wantNoLine(t, impl.Step{})
}

// oddFields set one field of a step each that is zero in a line that doesn't tell it.
func oddFields() map[string]func(x *impl.Step) {
	l := map[string]func(x *impl.Step){
		"Keep of none": func(x *impl.Step) { x.Keep = append(x.Keep, 0) }, "Keep": func(x *impl.Step) { x.Keep = append(x.Keep, 512, 1) },
		"Kind of the call": func(x *impl.Step) { x.Call.Kind++ }, "no Kind of the call": func(x *impl.Step) { x.Call.Kind = -1 - x.Call.Kind },
		"Kind of the ask": func(x *impl.Step) { x.Call.Ask.Kind++ }, "no Kind of the ask": func(x *impl.Step) { x.Call.Ask.Kind = -1 - x.Call.Ask.Kind },
		"Key": func(x *impl.Step) { x.Call.Ask.Key += "k" }, "Val": func(x *impl.Step) { x.Call.Ask.Val += "v" }, "Lo": func(x *impl.Step) { x.Call.Ask.Range.Lo += "a" }, "Hi": func(x *impl.Step) { x.Call.Ask.Range.Hi += "z" },
		"Most": func(x *impl.Step) { x.Call.Ask.Most++ }, "no Most": func(x *impl.Step) { x.Call.Ask.Most = -1 - x.Call.Ask.Most }, "Back": func(x *impl.Step) { x.Call.Ask.Back = !x.Call.Ask.Back },
	}
	for _, n := range []int{1, -1, 5, impl.MaxNum, impl.MaxNum + 1, 1 << 32} {
		l["A more "+strconv.Itoa(n)] = func(x *impl.Step) { x.A += n }
		l["B more "+strconv.Itoa(n)] = func(x *impl.Step) { x.B += n }
	}
	return l
}

func TestP15FieldsThatAreNotWritten(t *testing.T) {
	refused, told := 0, 0
	for what, set := range oddFields() {
		for _, w := range someWritten() {
			x := w.step
			x.Keep = slices.Clone(x.Keep)
			set(&x)
			want := lineFor(x)
			wantLine(t, x, want)
			if want == "" {
				refused++
				continue
			}
			told++
			wantBool(t, what+" changes the line "+w.line, want != w.line, true)
		}
	}
	if refused < 500 || told < 100 {
		t.Errorf("%d are refused, %d have a line", refused, told)
	}
	// One by one, where nothing else is wrong.
	for _, x := range []impl.Step{{Kind: 5, A: 1}, {Kind: 5, A: -1}, {Kind: 5, B: 1}, {Kind: 5, Keep: []int{0}}, {Kind: 5, Call: toBegin()}} {
		wantNoLine(t, x)
	}
	full := impl.Ask{Kind: 1, Key: "k", Val: "v", Range: impl.Range{Lo: "a", Hi: "b"}, Most: 1, Back: true}
	for _, kind := range []int{2, 3, 4, 6, 8, 9} {
		for _, x := range []impl.Step{{B: 1}, {B: -1}, {Keep: []int{0}}, {Call: toBegin()}, {Call: toAsk(askGet("a"))}, {Call: impl.Call{Ask: full}}, {Call: impl.Call{Ask: impl.Ask{Key: "k"}}},
			{Call: impl.Call{Ask: impl.Ask{Back: true}}}, {Call: impl.Call{Ask: impl.Ask{Range: impl.Range{Hi: "b"}}}}, {Call: impl.Call{Kind: -1}}} {
			x.Kind, x.A = kind, 1
			wantNoLine(t, x)
			wantNoLine(t, impl.Step{Kind: 7, A: 1, B: 2, Keep: []int{3}, Call: impl.Call{Kind: x.Call.Kind, Ask: full}})
		}
	}
	for _, x := range someCalls() {
		wantNoLine(t, impl.Step{Kind: 1, B: 1, Call: x})
		wantNoLine(t, impl.Step{Kind: 1, B: -1, Call: x})
		wantNoLine(t, impl.Step{Kind: 1, Keep: []int{0}, Call: x})
		wantNoLine(t, impl.Step{Kind: 7, Call: x})
		wantNoLine(t, impl.Step{Kind: 5, Call: x})
	}
}

// A list without elements is none.
func TestP15NoKeep(t *testing.T) {
	for _, w := range someWritten() {
		if len(w.step.Keep) == 0 {
			w.step.Keep = []int{}
			wantLine(t, w.step, w.line)
		}
	}
}

func TestP15CallsThatAreNotRight(t *testing.T) {
	for _, x := range wrongCalls() {
		wantNoLine(t, toCall(0, x))
		wantNoLine(t, toCall(3, x))
	}
	wantNoLine(t, impl.Step{Kind: 1})
	long := strings.Repeat("k", 5000)
	for _, a := range []impl.Ask{askGet(long), askPut("k", long), askDel(long), askScan(long, "", 1, false), askScan("", long, 1, true)} {
		wantNoLine(t, toCall(0, toAsk(a)))
	}
}

func TestP15LinesThatAreNoStep(t *testing.T) {
	for _, s := range []string{"", " ", "\n", "#", "# tick", "stop", "call", "call 0", "call 0 ", "call begin", "call 0 ask", "call 0 begin now", "call 0 get", "call 0 get a", `call 0 get ""`, `call 0 get "a" "b"`, `call 0 put "a"`, `call 0 put "a" "b" "c"`,
		`call 0 put "" "b"`, `call 0 del`, `call 0 del ""`, `call 0 scan "" ""`, `call 0 scan "" "" 0`, `call 0 scan "" "" 9`, `call 0 scan "" "" 08`, `call 0 scan "" "" -1`, `call 0 scan "b" "a" 1`, `call 0 scan "a" "a" 1`, `call 0 scan "a" 1`, `call 0 scan 1`,
		`call 0 back "" "" 9`, `call 0 back "b" "a" 1`, `call 0 back "" "" 1 1`, `call 0 get "abcdefghi"`, `call 0 put "a" "abcdefghijklmnopqrstu"`, `call 0 scan "abcdefghij" "" 1`, `call 0 get "%61"`, `call 0 get "%0a"`, `call 0 get "%0"`, `call 0 get "a b"`,
		`call 0 get "é"`, "call 0 get \"\xff\"", "call 0 get \"\t\"", "deliver", "deliver ", "deliver 01", "deliver 00", "deliver -1", "deliver +1", "deliver 1 ", "deliver 1 2", " deliver 1", "deliver  1", "deliver\t1", "deliver 1099511627776", "deliver 10995116277750",
		"deliver 99999999999999999999", "deliver 18446744073709551616", "deliver x", "deliver 1x", `deliver "1"`, "deliver1", "Deliver 1", "tick 1", "tick ", " tick", "tick 0", "tick\n", "ticks", "tic", "torn", "torn 1", "torn 1 ", "torn 1 2 ", "torn 1 2 3 ", "torn 1 2 x",
		"torn 1 x", "torn 1 2 -1", "torn 1 2  3", "torn 1 2 1099511627776", "calm", "up", "down", "lose", "double", "up up", "call call call", "net 1 80", "- - 0", "0.1.2 begin 0", "1", "-", `""`, "deliver ٣", "tick\u00a0"} {
		wantNoStep(t, s)
	}
	for _, x := range someWritten() {
		for _, s := range []string{" " + x.line, x.line + " ", x.line + "\n", "\n" + x.line, x.line + "\t", "\t" + x.line, x.line + "\r", x.line + "\x00", x.line + "\x80"} {
			wantNoStep(t, s)
		}
	}
}

func TestP15LongLines(t *testing.T) {
	many := 1 << 20
	for _, s := range []string{strings.Repeat(" ", many), strings.Repeat("a", many), strings.Repeat("0", many), `call 0 get "` + strings.Repeat("a", many) + `"`, `call 0 get "` + strings.Repeat("%00", many) + `"`, "deliver " + strings.Repeat("1", many), "deliver" + strings.Repeat(" 1", many),
		`call 0 get "` + strings.Repeat("a", 4096) + `"`, `call 0 get "` + strings.Repeat("a", 4097) + `"`, "torn" + strings.Repeat(" 1", 30000) + " ", strings.Repeat("\n", many), strings.Repeat("\xff", many)} {
		wantNoStep(t, s)
		wantNoNetLine(t, s)
		wantBad(t, s, 1)
	}
	wantNoNetLine(t, "net 1 80"+strings.Repeat(` "a"`, many))
	wantNoNetLine(t, "net 1 80 "+strings.Repeat(" ", many))
}

func TestP15TextsOfMaxTextBytes(t *testing.T) {
	remark := "#" + strings.Repeat("x", 7999)
	wantSteps(t, remark)
	wantBad(t, remark+"x", 1)
	wantBad(t, remark+"\n", 1)
	wantSteps(t, strings.Repeat("\n", 8000))
	wantBad(t, strings.Repeat("\n", 8001), 1)
	wantSteps(t, strings.Repeat("\n", 7996)+"tick", toTick())
	wantBad(t, strings.Repeat("\n", 7997)+"tick", 1)
	wantSteps(t, "tick\n#"+strings.Repeat("x", 7994), toTick())
	wantBad(t, "tick\n#"+strings.Repeat("x", 7995), 1)
	wantBad(t, "tick\n#"+strings.Repeat("x", 7988)+"\nstop", 3)
	wantBad(t, "tick\n#"+strings.Repeat("x", 7990)+"\nstop", 1)
	// One step alone.
	torn := "torn 0 1" + strings.Repeat(" 7", 3996)
	wantSteps(t, torn, toTear(0, 1, slices.Repeat([]int{7}, 3996)...))
	wantBad(t, torn+" 7", 1)
	wantBad(t, torn+"\n", 1)
	wantSteps(t, torn[:7998]+"\n", toTear(0, 1, slices.Repeat([]int{7}, 3995)...))
}

func TestP15TextsOfMaxScriptSteps(t *testing.T) {
	many := slices.Repeat([]impl.Step{toTick()}, 300)
	ticks := strings.Repeat("tick\n", 300)
	wantSteps(t, ticks, many...)
	wantSteps(t, strings.TrimSuffix(ticks, "\n"), many...)
	wantSteps(t, ticks+"\n\n# x\n", many...)
	wantSteps(t, "#\n\n"+ticks+"#", many...)
	wantBad(t, ticks+"tick", 301)
	wantBad(t, ticks+"tick\n", 301)
	wantBad(t, ticks+"tick\ntick\n", 301)
	wantBad(t, ticks+"stop", 301)
	wantBad(t, ticks+"\n# x\n\ncalm 1\nstop", 304)
	wantBad(t, "# x\n"+ticks+"#\ntick", 303)
	wantBad(t, "tick\nstop\n"+ticks, 2)
	wantSteps(t, strings.Repeat("# tick\ntick\n\n", 300), many...)
	wantBad(t, strings.Repeat("# tick\ntick\n\n", 301), 902)
	wantSteps(t, strings.Repeat("tick\n", 299)+"calm 1", append(slices.Clone(many[:299]), toCalm(1))...)
	wantSteps(t, strings.Repeat("tick\n", 299), many[:299]...)
	// As many lines as there may be.
	wantBad(t, strings.Repeat("up 1\n", 1600), 301)
	wantBad(t, strings.Repeat("#\n", 3990)+"stop", 3991)
}

func TestP15ThrownTexts(t *testing.T) {
	throw := dice(1405)
	right := 0
	for range 3000 {
		var b strings.Builder
		for range throw.below(30) {
			switch throw.below(8) {
			case 0:
				b.WriteByte(nearBytes[throw.below(len(nearBytes))])
			case 1:
				b.WriteString("\n" + thrownRemark(&throw))
			default:
				b.WriteString("\n" + lineFor(thrownWritten(&throw)))
			}
		}
		if _, line := checkScript(t, b.String()); line == 0 {
			right++
		}
	}
	if right < 500 || right > 2500 {
		t.Errorf("%d right ones", right)
	}
	for range 20000 {
		var b strings.Builder
		for range throw.below(12) {
			b.WriteByte(nearBytes[throw.below(len(nearBytes))])
		}
		checkStep(t, b.String())
		checkScript(t, b.String())
		checkNet(t, b.String())
	}
}

func TestP15LinesThatAreNoNet(t *testing.T) {
	for _, s := range []string{"", "net", "net ", "net 1", "net 1 ", "net 1 80 ", "net  1 80", "net 1  80", " net 1 80", "net 1 80\n", "net 1 80\r", "Net 1 80", "nets 1 80", "# net 1 80", "net 01 80", "net 1 080", "net +1 80", "net -1 80", "net 1 -80", "net x 80", "net 1 x", `net "c"`,
		`net 1 "c"`, "net 1 80 c", `net 1 80 "c`, `net 1 80 c"`, `net 1 80 "c" `, `net 1 80  "c"`, `net 1 80 "c"  "d"`, `net 1 80 "c""d"`, `net 1 80 "%63"`, `net 1 80 "c d"`, `net 1 80 "é"`, "net 1 80 \"c\"\t\"d\"", `net 1 80 "c" 3`, `net 1 80 3 "c"`, "tick", "net\t1 80", "net 1 80 #",
		"net 1099511627776 80", "net 1 1099511627776", "net 18446744073709551617 80", "net 1 18446744073709551696"} {
		wantNoNetLine(t, s)
	}
	// What NetNew refuses.
	for _, s := range []string{"net 0 80", "net 4 80", "net 1099511627775 80", "net 1 0", "net 1 1", "net 1 2", "net 1 401", "net 1 1099511627775", `net 1 80 ""`, `net 1 80 "c" ""`, `net 1 80 "c" "c"`, `net 1 80 "d" "c"`, `net 1 80 "abcdefghi"`, `net 1 80 "a" "abcdefghi"`, `net 1 80 "a" "b" "c" "d"`,
		"net 4294967297 80", "net 1 4294967376", netLine(1, 80, strings.Repeat("a", 4096)), netLine(1, 80) + ` "` + strings.Repeat("a", 4097) + `"`} {
		wantNoNetLine(t, s)
	}
	for _, splits := range wrongSplits() {
		wantNoNetLine(t, netLine(2, 80, splits...))
	}
}

func TestP15ReplyText(t *testing.T) {
	x := impl.Tx{C: 0, E: 1, N: 2}
	wantReply(t, impl.Reply{}, "- - 0")
	wantReply(t, impl.Reply{Code: 3}, "- - 3")
	wantReply(t, replyOf(x, 1, 0), "0.1.2 begin 0")
	wantReply(t, replyOf(x, 2, 9), "0.1.2 ask 9")
	wantReply(t, replyOf(x, 3, 7), "0.1.2 commit 7")
	wantReply(t, replyOf(x, 4, 1), "0.1.2 abort 1")
	wantReply(t, replyOf(impl.Tx{C: 7, E: 999, N: 999}, 3, 0), "7.999.999 commit 0")
	wantReply(t, replyOf(impl.Tx{}, 1, 9), "- begin 9")
	wantReply(t, replyAsk(x, askGet("a"), 0, pair("a", "")), `0.1.2 ask 0 "a"=""`)
	wantReply(t, replyAsk(x, askGet("a"), 0, pair("a b", "1"), pair("=", "%=")), `0.1.2 ask 0 "a%20b"="1" "="="%25="`)
	wantReply(t, impl.Reply{Code: -1}, "- - ")
	wantReply(t, impl.Reply{Code: -1, Pairs: []impl.Pair{pair("a", "1")}}, `- -  "a"="1"`)
	wantReply(t, impl.Reply{Pairs: []impl.Pair{{}}}, `- - 0 ""=""`)
	wantReply(t, impl.Reply{Pairs: []impl.Pair{}}, "- - 0")
	// Quote of a text that is too long is the empty one.
	long := strings.Repeat("a", 4097)
	wantReply(t, impl.Reply{Pairs: []impl.Pair{pair(long, "1"), pair("b", long), pair(long, long)}}, `- - 0 ="1" "b"= =`)
	wantReply(t, impl.Reply{Pairs: []impl.Pair{pair(long[1:], "1")}}, `- - 0 "`+long[1:]+`"="1"`)
}

func TestP15ReplyTextOfEachPart(t *testing.T) {
	x := dx(1)
	for _, kind := range append(wrongKinds(), 1, 2, 3, 4) {
		wantReply(t, replyOf(x, kind, 0), replyLine(replyOf(x, kind, 0)))
		wantReply(t, replyOf(impl.Tx{}, kind, 9), replyLine(replyOf(impl.Tx{}, kind, 9)))
	}
	for _, code := range slices.Concat(noNumbers(), someNumbers(), otherCodes()) {
		wantReply(t, replyOf(x, 2, code), replyLine(replyOf(x, 2, code)))
	}
	names := append(manyNames(9), impl.Tx{}, impl.Tx{C: 8, E: 1, N: 1}, impl.Tx{C: -1, E: 1, N: 1}, impl.Tx{C: 1, N: 1}, impl.Tx{C: 1, E: 1}, impl.Tx{C: 1, E: 1000, N: 1}, impl.Tx{C: 1, E: 1, N: 1000}, impl.Tx{C: 1, E: -1, N: 1}, impl.Tx{C: 1 << 32, E: 1, N: 1})
	for _, name := range append(names, otherNames(x)...) {
		for kind := range 6 {
			wantReply(t, replyOf(name, kind, 1), replyLine(replyOf(name, kind, 1)))
		}
	}
	// What was asked isn't told.
	for _, a := range append(rightAsks()[:40], wrongAsks()...) {
		wantReply(t, replyAsk(x, a, 0), dotted(x)+" ask 0")
	}
	for _, s := range someTexts() {
		r := replyAsk(x, askGet("a"), 0, pair(s, "1"), pair("a", s), pair(s, s))
		wantReply(t, r, replyLine(r))
	}
	for _, size := range []int{0, 1, 2, 8, 9, 300, 2500} {
		r := replyAsk(x, askGet("a"), 0, numberedPairs(size)...)
		wantReply(t, r, replyLine(r))
	}
	throw := dice(1406)
	for range 500 {
		r := impl.Reply{Kind: throw.below(6), Tx: impl.Tx{C: throw.below(9), E: throw.below(3), N: throw.below(3)}, Ask: thrownWord(&throw), Code: throw.below(12) - 1, Pairs: thrownUserPairs(&throw, throw.below(5))}
		wantReply(t, r, replyLine(r))
	}
}

// scriptGiven is what the functions are given that has lists, with room behind them.
type scriptGiven struct {
	Steps   []impl.Step
	Replies []impl.Reply
}

func scriptWithRoom(steps []impl.Step, replies []impl.Reply) scriptGiven {
	steps, replies = slices.Clone(steps), slices.Clone(replies)
	for i, x := range steps {
		steps[i].Keep = marked(x.Keep, -7)
	}
	for i, r := range replies {
		replies[i].Pairs = marked(r.Pairs, pair("mark", ""))
	}
	return scriptGiven{marked(steps, impl.Step{Kind: -7}), marked(replies, impl.Reply{Kind: -7})}
}

func scriptAnswers(g scriptGiven, text, line string) map[string][]any {
	read, at := impl.ReadScript(text)
	n, ok := impl.ReadNet(line)
	all := map[string][]any{"ReadScript": {read, at}, "ReadNet": {n, ok}}
	for i, x := range g.Steps {
		s := impl.StepText(x)
		again, ok := impl.TextStep(s)
		all["StepText "+strconv.Itoa(i)] = []any{s}
		all["TextStep "+strconv.Itoa(i)] = []any{again, ok}
	}
	for i, r := range g.Replies {
		all["ReplyText "+strconv.Itoa(i)] = []any{impl.ReplyText(r)}
	}
	return all
}

func checkScriptMemory(t *testing.T, what string, g scriptGiven, text, line string) {
	t.Helper()
	told := askTwice(t, what, func() map[string][]any { return scriptAnswers(g, text, line) }, g)
	wantApart(t, what, told, g)
}

func TestP15ScriptsAreNewMemory(t *testing.T) {
	throw := dice(1407)
	var steps []impl.Step
	for _, x := range someWritten() {
		steps = append(steps, x.step)
	}
	replies := []impl.Reply{replyOf(dx(1), 1, 0), replyAsk(dx(1), askGet("a"), 0, userPairs(5)...), replyAsk(impl.Tx{}, impl.Ask{}, -1, pair("a", "1"))}
	wrong := []impl.Step{toTear(0, 1, 5, -1), {Kind: 5, Keep: []int{1, 2}}, {Kind: 2, Keep: []int{3}}, {Kind: 7, B: -1, Keep: []int{1}}, {Kind: 12, Keep: []int{1}}, {Kind: 7, Keep: []int{1}, Call: toBegin()}}
	checkScriptMemory(t, "steps", scriptWithRoom(steps, replies), strings.Join(someLines(), "\n"), netLine(3, 80, "b", "d", "f"))
	checkScriptMemory(t, "wrong ones", scriptWithRoom(wrong, nil), strings.Join(someLines(), "\n")+"\nstop", netLine(3, 80, "b", "a"))
	checkScriptMemory(t, "one word alike", scriptWithRoom(nil, replies), "torn 1 2 3 4\ntorn 1 2 3 4\ntorn 1 2 3 4", netLine(1, 80))
	for range 100 {
		text, steps := thrownScript(&throw, throw.below(30))
		checkScriptMemory(t, "a thrown script", scriptWithRoom(steps, nil), text, netLine(1+throw.below(3), 3+throw.below(90), "c"))
	}
}

// What is read of a text is changed without changing what is read of it again.
func TestP15ScriptsOfOneMemory(t *testing.T) {
	keep := []int{1, 2, 3, 4}
	a, b := toTear(0, 1, keep...), toTear(0, 1, keep[1:3]...)
	wantBool(t, "their Keeps are one memory", sharesMemory(a, b), true)
	text := impl.StepText(a) + "\n" + impl.StepText(b)
	wantSteps(t, text, a, b)
	read, _ := impl.ReadScript(text)
	wantBool(t, "those that are read aren't", sharesMemory(read, a, keep[1:1:1]), false)
	for i := range read {
		for j := range read[i].Keep {
			read[i].Keep[j] = -1
		}
	}
	wantSteps(t, text, a, b)
	wantBool(t, "they stay", slices.Equal(keep, []int{1, 2, 3, 4}), true)
}
