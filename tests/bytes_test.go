package tests

import (
	"bytes"
	"math"
	"strconv"
	"strings"
	"testing"

	"loop.example/g00392/impl"
)

// someNumbers: the ends of each length in base 128, and numbers beside them.
func someNumbers() []int {
	l := []int{0, 1, 2, 9, 10, 300, 65535, 123456789, 987654321012}
	for unit := 128; unit <= impl.MaxNum; unit *= 128 {
		l = append(l, unit-1, unit, unit+1, 2*unit-1, 2*unit)
	}
	for bit := 1; bit < impl.MaxNum; bit *= 2 {
		l = append(l, bit-1, bit, bit+1)
	}
	return append(l, impl.MaxNum-128, impl.MaxNum-1, impl.MaxNum)
}

func noNumbers() []int {
	return []int{-1, -2, -128, -impl.MaxNum, impl.MaxNum + 1, impl.MaxNum + 2, 2*impl.MaxNum + 1, 1 << 42,
		math.MaxInt32 * 1000, math.MaxInt64 - 1, math.MaxInt64, math.MinInt64, math.MinInt64 + 1}
}

func everyByte() string {
	b := make([]byte, 256)
	for i := range b {
		b[i] = byte(i)
	}
	return string(b)
}

func someTexts() []string {
	return []string{"", "a", "ab", "\x00", "\x00\x00", "\x80\x00", "a b%\"", "%41", "\"\"", "é", "\xff\xfe", "0", "07",
		everyByte(), strings.Repeat("x", 127), strings.Repeat("x", 128), strings.Repeat("%", 2000), strings.Repeat("q", impl.MaxBytes-2)}
}

// varOf writes the digits by shifts, apart from the program's way.
func varOf(n int) []byte {
	var b []byte
	for {
		low := byte(n & 127)
		n >>= 7
		if n == 0 {
			return append(b, low)
		}
		b = append(b, low|128)
	}
}

func wantBytes(t *testing.T, what string, got []byte, ok bool, want []byte) {
	t.Helper()
	if !ok || !bytes.Equal(got, want) {
		t.Errorf("%s: got %q %v, want %q true", what, got, ok, want)
	}
}

func wantNoBytes(t *testing.T, what string, got []byte, ok bool) {
	t.Helper()
	if ok || len(got) != 0 {
		t.Errorf("%s: got %d bytes and %v, want nothing and false", what, len(got), ok)
	}
}

func wantVar(t *testing.T, b []byte, at, want, behind int) {
	t.Helper()
	if n, end := impl.GetVar(b, at); n != want || end != behind {
		t.Errorf("GetVar(%q, %d) is %d, %d, want %d, %d", b, at, n, end, want, behind)
	}
}

func wantText(t *testing.T, b []byte, at int, want string, behind int) {
	t.Helper()
	if s, end := impl.GetText(b, at); s != want || end != behind {
		t.Errorf("GetText(%q, %d) is %q, %d, want %q, %d", b, at, s, end, want, behind)
	}
}

func wantUnquote(t *testing.T, s, want string, right bool) {
	t.Helper()
	if got, ok := impl.Unquote(s); got != want || ok != right {
		t.Errorf("Unquote(%q) is %q, %v, want %q, %v", s, got, ok, want, right)
	}
}

func wantTextNum(t *testing.T, s string, want int, right bool) {
	t.Helper()
	if n, ok := impl.TextNum(s); n != want || ok != right {
		t.Errorf("TextNum(%q) is %d, %v, want %d, %v", s, n, ok, want, right)
	}
}

func TestP12NumbersAreReadAsWritten(t *testing.T) {
	var all []byte
	var places []int
	for _, n := range someNumbers() {
		places = append(places, len(all))
		b, ok := impl.PutVar(all, n)
		wantBytes(t, "PutVar of "+strconv.Itoa(n), b, ok, append(bytes.Clone(all), varOf(n)...))
		all = b
	}
	places = append(places, len(all))
	for i, n := range someNumbers() {
		wantVar(t, all, places[i], n, places[i+1])
	}
}

func TestP12TextsAreReadAsWritten(t *testing.T) {
	for _, first := range someTexts() {
		for _, second := range []string{"", "z", "\x00", everyByte()} {
			b, ok := impl.PutText(nil, first)
			if !ok {
				t.Fatalf("PutText of %d bytes says false", len(first))
			}
			end := len(b)
			if b, ok = impl.PutText(b, second); !ok {
				// The longest of them leaves no room behind it.
				continue
			}
			wantText(t, b, 0, first, end)
			wantText(t, b, end, second, len(b))
		}
	}
}

func TestP12NumbersAndTextsStandBehindOneAnother(t *testing.T) {
	b, _ := impl.PutVar([]byte("head"), 128)
	b, _ = impl.PutText(b, "")
	b, _ = impl.PutText(b, "key")
	b, ok := impl.PutVar(b, 0)
	wantBytes(t, "all", b, ok, []byte("head\x80\x01\x00\x03key\x00"))
	wantVar(t, b, 4, 128, 6)
	wantText(t, b, 6, "", 7)
	wantText(t, b, 7, "key", 11)
	wantVar(t, b, 11, 0, 12)
	wantVar(t, b, 12, 0, -1)
}

func TestP12QuotesAreReadAsWritten(t *testing.T) {
	for _, s := range append(someTexts(), strings.Repeat("\x00", impl.MaxBytes), strings.Repeat("m", impl.MaxBytes)) {
		wantUnquote(t, impl.Quote(s), s, true)
	}
	for c := range 256 {
		s := string([]byte{byte(c)})
		wantUnquote(t, impl.Quote(s), s, true)
		wantUnquote(t, impl.Quote("a"+s+s+"b"), "a"+s+s+"b", true)
	}
}

func TestP12DecimalTextsAreReadAsWritten(t *testing.T) {
	for _, n := range someNumbers() {
		s := impl.NumText(n)
		if s != strconv.FormatInt(int64(n), 10) {
			t.Errorf("NumText(%d) is %q", n, s)
		}
		wantTextNum(t, s, n, true)
	}
}

func TestP15PutVar(t *testing.T) {
	b, ok := impl.PutVar(nil, 0)
	wantBytes(t, "zero", b, ok, []byte{0})
	b, ok = impl.PutVar([]byte{}, 127)
	wantBytes(t, "one digit", b, ok, []byte{127})
	b, ok = impl.PutVar([]byte{7, 0}, 128)
	wantBytes(t, "two digits", b, ok, []byte{7, 0, 128, 1})
	b, ok = impl.PutVar(nil, impl.MaxNum)
	wantBytes(t, "the greatest", b, ok, []byte{255, 255, 255, 255, 255, 31})
	for _, n := range noNumbers() {
		b, ok = impl.PutVar([]byte{1}, n)
		wantNoBytes(t, "PutVar of "+strconv.Itoa(n), b, ok)
	}
}

func TestP15PutVarKeepsToMaxBytes(t *testing.T) {
	for _, n := range []int{0, 127, 128, 16384, impl.MaxNum} {
		size := len(varOf(n))
		full := bytes.Repeat([]byte{3}, impl.MaxBytes-size)
		b, ok := impl.PutVar(full, n)
		wantBytes(t, "just full", b, ok, append(bytes.Clone(full), varOf(n)...))
		b, ok = impl.PutVar(append(full, 3), n)
		wantNoBytes(t, "one byte more", b, ok)
	}
	b, ok := impl.PutVar(make([]byte, impl.MaxBytes+1), 0)
	wantNoBytes(t, "too many already", b, ok)
	b, ok = impl.PutVar(make([]byte, 3*impl.MaxBytes), 0)
	wantNoBytes(t, "far too many already", b, ok)
}

func TestP15GetVarReadsOneFormAlone(t *testing.T) {
	none := []string{"", "\x80", "\xc8", "\xff\xff", "\x80\x00", "\x81\x00", "\xff\x80\x00", "\x80\x80\x80\x80\x80\x00",
		"\xff\xff\xff\xff\xff\x20", "\x80\x80\x80\x80\x80\x20", "\xff\xff\xff\xff\xff\x7f",
		"\x80\x80\x80\x80\x80\x80\x01", "\x80\x80\x80\x80\x80\x80\x00", "\xff\xff\xff\xff\xff\x9f\x00"}
	for _, s := range none {
		wantVar(t, []byte(s), 0, 0, -1)
		wantVar(t, []byte("\x05"+s), 1, 0, -1)
	}
	wantVar(t, bytes.Repeat([]byte{255}, 1000), 0, 0, -1)
	wantVar(t, bytes.Repeat([]byte{128}, 1000), 3, 0, -1)
	wantVar(t, []byte{255, 255, 255, 255, 255, 31}, 0, impl.MaxNum, 6)
	wantVar(t, []byte{128, 128, 128, 128, 128, 1}, 0, 1<<35, 6)
	wantVar(t, []byte{0, 0}, 0, 0, 1)
	wantVar(t, []byte{0, 0}, 1, 0, 2)
}

// Every two bytes, and every three telling ones: what is read is what PutVar
// writes, and what isn't read begins with nothing that it writes.
func TestP15GetVarIsPutVarBackwards(t *testing.T) {
	telling := []byte{0, 1, 2, 31, 32, 127, 128, 129, 159, 160, 200, 255}
	for i := range 65536 {
		checkVarOf(t, []byte{byte(i), byte(i >> 8)})
	}
	for _, x := range telling {
		for _, y := range telling {
			for _, z := range telling {
				checkVarOf(t, []byte{x, y, z})
				checkVarOf(t, []byte{255, 128, 255, x, y, z})
				checkVarOf(t, []byte{255, 128, 255, 128, x, y, z})
			}
		}
	}
}

func checkVarOf(t *testing.T, b []byte) {
	t.Helper()
	n, end := impl.GetVar(b, 0)
	if end == -1 {
		if m, is := numberAhead(b); n != 0 || is {
			t.Errorf("GetVar(%v) is %d, -1, but %d stands there", b, n, m)
		}
		return
	}
	if want, ok := impl.PutVar(nil, n); !ok || end != len(want) || !bytes.Equal(b[:end], want) {
		t.Errorf("GetVar(%v) is %d, %d, but PutVar writes %v", b, n, end, want)
	}
}

// numberAhead works a number out by shifts and holds its digits against b.
func numberAhead(b []byte) (int, bool) {
	n := 0
	for i, c := range b {
		n |= int(c&127) << (7 * i)
		if c < 128 {
			return n, n <= impl.MaxNum && bytes.Equal(varOf(n), b[:i+1])
		}
	}
	return 0, false
}

func wrongPlaces(size int) []int {
	return []int{-1, -2, -size, size, size + 1, 2*size + 100, math.MaxInt64, math.MaxInt64 - 1, math.MinInt64, math.MinInt64 + 1}
}

func TestP15PlacesOutsideTheBytes(t *testing.T) {
	for _, b := range [][]byte{nil, {}, {5}, {1, 2, 3}, {0, 0, 0, 0}, bytes.Repeat([]byte{1}, 5000)} {
		for _, at := range wrongPlaces(len(b)) {
			if at >= 0 && at < len(b) {
				continue
			}
			wantVar(t, b, at, 0, -1)
			wantText(t, b, at, "", -1)
		}
	}
	long := append(make([]byte, 2*impl.MaxBytes), 9)
	wantVar(t, long, 2*impl.MaxBytes, 9, 2*impl.MaxBytes+1)
	wantText(t, long, 2*impl.MaxBytes-1, "", 2*impl.MaxBytes)
}

func TestP15PutText(t *testing.T) {
	b, ok := impl.PutText(nil, "")
	wantBytes(t, "empty", b, ok, []byte{0})
	b, ok = impl.PutText([]byte{8}, "a\x00b")
	wantBytes(t, "behind a byte", b, ok, []byte("\x08\x03a\x00b"))
	long := strings.Repeat("y", 300)
	b, ok = impl.PutText(nil, long)
	wantBytes(t, "a length of two digits", b, ok, []byte("\xac\x02"+long))
}

func TestP15PutTextKeepsToMaxBytes(t *testing.T) {
	full := strings.Repeat("f", impl.MaxBytes-2)
	b, ok := impl.PutText(nil, full)
	wantBytes(t, "just full", b, ok, append(varOf(len(full)), full...))
	for _, s := range []string{full + "f", full + "ff", full + "fff", strings.Repeat("f", 10*impl.MaxBytes)} {
		b, ok = impl.PutText(nil, s)
		wantNoBytes(t, "too long a text", b, ok)
	}
	b, ok = impl.PutText([]byte{1}, full)
	wantNoBytes(t, "no room for the last byte", b, ok)
	b, ok = impl.PutText(make([]byte, impl.MaxBytes-1), "")
	wantBytes(t, "the empty text as the last byte", b, ok, make([]byte, impl.MaxBytes))
	b, ok = impl.PutText(make([]byte, impl.MaxBytes), "")
	wantNoBytes(t, "no room for the empty text", b, ok)
	b, ok = impl.PutText(make([]byte, impl.MaxBytes+7), "")
	wantNoBytes(t, "too many already", b, ok)
	b, ok = impl.PutText(make([]byte, impl.MaxBytes-1), "a")
	wantNoBytes(t, "room for the length alone", b, ok)
}

func TestP15GetText(t *testing.T) {
	b := []byte("\x03abc")
	wantText(t, b, 0, "abc", 4)
	for size := range len(b) {
		wantText(t, b[:size], 0, "", -1)
	}
	wantText(t, append(b, 'd'), 0, "abc", 4)
	wantText(t, []byte{0}, 0, "", 1)
	wantText(t, []byte("\x80\x00abc"), 0, "", -1)
	wantText(t, []byte("\x83\x00abc"), 0, "", -1)
	wantText(t, []byte("\xff\xff\xff\xff\xff\x1fabc"), 0, "", -1)
	wantText(t, []byte("\xff\xff\xff\xff\xff\x20abc"), 0, "", -1)
	wantText(t, []byte("\x83"), 0, "", -1)
	// Only putting is held to MaxBytes; what stands there is read.
	long := strings.Repeat("l", impl.MaxBytes+5)
	wantText(t, append(varOf(len(long)), long...), 0, long, len(long)+2)
}

func TestP15Fill(t *testing.T) {
	b, ok := impl.Fill([]byte{1, 2}, 5)
	wantBytes(t, "filled", b, ok, []byte{1, 2, 0, 0, 0})
	b, ok = impl.Fill([]byte{1, 2}, 2)
	wantBytes(t, "as many as are there", b, ok, []byte{1, 2})
	b, ok = impl.Fill([]byte{1, 2}, 1)
	wantNoBytes(t, "fewer than are there", b, ok)
	b, ok = impl.Fill([]byte{1, 2}, 0)
	wantNoBytes(t, "none, with bytes there", b, ok)
	b, ok = impl.Fill(nil, 0)
	wantBytes(t, "none of none", b, ok, nil)
	b, ok = impl.Fill(nil, impl.MaxBytes)
	wantBytes(t, "the greatest size", b, ok, make([]byte, impl.MaxBytes))
	full := bytes.Repeat([]byte{6}, impl.MaxBytes)
	b, ok = impl.Fill(full, impl.MaxBytes)
	wantBytes(t, "full already", b, ok, full)
	b, ok = impl.Fill(append(full, 6), impl.MaxBytes)
	wantNoBytes(t, "more than full", b, ok)
	b, ok = impl.Fill(append(full, 6), impl.MaxBytes+1)
	wantNoBytes(t, "more than full, and such a size", b, ok)
	for _, size := range []int{-1, -5, impl.MaxBytes + 1, 2 * impl.MaxBytes, math.MaxInt64, math.MinInt64, math.MinInt64 + 1} {
		for _, from := range [][]byte{nil, {1}, full} {
			b, ok = impl.Fill(from, size)
			wantNoBytes(t, "size "+strconv.Itoa(size), b, ok)
		}
	}
}

func TestP15QuoteOfEachByte(t *testing.T) {
	const digits = "0123456789ABCDEF"
	for c := range 256 {
		want := "\"%" + digits[c>>4:c>>4+1] + digits[c&15:c&15+1] + "\""
		if c > 32 && c < 127 && c != 34 && c != 37 {
			want = "\"" + string(rune(c)) + "\""
		}
		if got := impl.Quote(string([]byte{byte(c)})); got != want {
			t.Errorf("Quote of byte %d is %q, want %q", c, got, want)
		}
	}
}

func TestP15Quote(t *testing.T) {
	for _, x := range [][2]string{{"", "\"\""}, {"abc", "\"abc\""}, {"a b", "\"a%20b\""}, {"\"%", "\"%22%25\""}, {"\xc3\xa9", "\"%C3%A9\""}, {"!~", "\"!~\""}} {
		if got := impl.Quote(x[0]); got != x[1] {
			t.Errorf("Quote(%q) is %q, want %q", x[0], got, x[1])
		}
	}
	blanks := strings.Repeat(" ", impl.MaxBytes)
	if got := impl.Quote(blanks); got != "\""+strings.Repeat("%20", impl.MaxBytes)+"\"" {
		t.Errorf("Quote of MaxBytes blanks has %d bytes", len(got))
	}
	for _, s := range []string{blanks + " ", strings.Repeat("a", impl.MaxBytes+1), strings.Repeat("a", 5*impl.MaxBytes)} {
		if got := impl.Quote(s); got != "" {
			t.Errorf("Quote of %d bytes isn't empty", len(s))
		}
	}
}

func TestP15UnquoteReadsOneFormAlone(t *testing.T) {
	none := []string{"", "\"", "a", "%", "ab", "abc\"", "\"abc", "abc", "\"a b\"", "\"a\"b\"", "\"\"\"", "\"a\" ", " \"a\"",
		"\"%\"", "\"%2\"", "\"%20", "\"%2g\"", "\"%G0\"", "\"%c3\"", "\"%C3%a9\"", "\"%0a\"", "\"%41\"", "\"%7E\"", "\"%21\"",
		"\"%%25\"", "\"%+1\"", "\"% 1\"", "\"\x00\"", "\"\x7f\"", "\"é\"", "\"\xff\"", "\"%2%20\"", "\"a%\"", "\"%25%\"", "\" 20\"", "\"\"20\"", "\"\x0020\"", "\"\xff20a\"", "'a'", "\"\n\""}
	for _, s := range none {
		wantUnquote(t, s, "", false)
	}
	for _, x := range [][2]string{{"\"\"", ""}, {"\"a\"", "a"}, {"\"%20\"", " "}, {"\"%22%25\"", "\"%"}, {"\"%00%FF%0A\"", "\x00\xff\n"}, {"\"%2541\"", "%41"}} {
		wantUnquote(t, x[0], x[1], true)
	}
}

func TestP15UnquoteKeepsToMaxBytes(t *testing.T) {
	for _, part := range [][2]string{{"a", "a"}, {"%20", " "}} {
		text := strings.Repeat(part[1], impl.MaxBytes)
		wantUnquote(t, "\""+strings.Repeat(part[0], impl.MaxBytes)+"\"", text, true)
		for _, more := range []int{1, 2, impl.MaxBytes, 3 * impl.MaxBytes} {
			if got, ok := impl.Unquote("\"" + strings.Repeat(part[0], impl.MaxBytes+more) + "\""); ok || got != "" {
				t.Errorf("Unquote of %d bytes quoted is %d bytes, %v", impl.MaxBytes+more, len(got), ok)
			}
		}
	}
}

// Each byte alone, and each two behind a '%': just what Quote writes is read.
func TestP15UnquoteIsQuoteBackwards(t *testing.T) {
	written := map[string]string{}
	for c := range 256 {
		s := string([]byte{byte(c)})
		written[impl.Quote(s)] = s
	}
	for c := range 256 {
		for d := range 256 {
			s := "\"%" + string([]byte{byte(c), byte(d)}) + "\""
			want, is := written[s]
			wantUnquote(t, s, want, is)
		}
		s := "\"" + string([]byte{byte(c)}) + "\""
		want, is := written[s]
		wantUnquote(t, s, want, is)
	}
}

func TestP15NumText(t *testing.T) {
	if impl.NumText(0) != "0" || impl.NumText(70) != "70" || impl.NumText(impl.MaxNum) != "1099511627775" {
		t.Error("NumText of a number")
	}
	for _, n := range noNumbers() {
		if s := impl.NumText(n); s != "" {
			t.Errorf("NumText(%d) is %q", n, s)
		}
	}
}

func TestP15TextNumReadsOneFormAlone(t *testing.T) {
	none := []string{"", "-", "+", "-0", "+0", "-1", "+1", "00", "01", "07", "0000", "0x1", "0b1", "1_000", "1e3", "1.0", " 1", "1 ", "1\n",
		"a", "1a", "٣", "\x00", "1\x00", "1099511627776", "1099511627777", "2199023255552", "10995116277750", "01099511627775",
		"9223372036854775807", "9223372036854775808", "18446744073709551616", "18446744073709551617", "-9223372036854775808",
		"340282366920938463463374607431768211456", strings.Repeat("9", 5000), strings.Repeat("0", 5000), "0" + strings.Repeat("0", 20) + "5"}
	for _, s := range none {
		wantTextNum(t, s, 0, false)
	}
	wantTextNum(t, "0", 0, true)
	wantTextNum(t, "9", 9, true)
	wantTextNum(t, "10", 10, true)
	wantTextNum(t, "1099511627774", impl.MaxNum-1, true)
	wantTextNum(t, "1099511627775", impl.MaxNum, true)
}

// roomy has room behind its bytes, so that an append into an argument shows.
func roomy() []byte {
	return append(make([]byte, 0, 64), "some bytes"...)
}

func checkOwnMemory(t *testing.T, what string, call func(b []byte) ([]byte, bool)) {
	t.Helper()
	b := roomy()
	clear(b[len(b):cap(b)])
	before := bytes.Clone(b[:cap(b)])
	first, ok := call(b)
	second, also := call(b)
	if !ok || !also || !bytes.Equal(first, second) {
		t.Errorf("%s: two calls answer %q %v and %q %v", what, first, ok, second, also)
	}
	if !bytes.Equal(b[:cap(b)], before) {
		t.Errorf("%s: the argument is changed", what)
	}
	kept := bytes.Clone(second)
	for i := range first[:cap(first)] {
		first[:cap(first)][i] ^= 255
	}
	if !bytes.Equal(b[:cap(b)], before) {
		t.Errorf("%s: the answer shares memory with the argument", what)
	}
	if !bytes.Equal(second, kept) {
		t.Errorf("%s: two answers share memory", what)
	}
}

func TestP15AnswersAreNewMemory(t *testing.T) {
	checkOwnMemory(t, "PutVar", func(b []byte) ([]byte, bool) { return impl.PutVar(b, 77777) })
	checkOwnMemory(t, "PutText", func(b []byte) ([]byte, bool) { return impl.PutText(b, "text") })
	checkOwnMemory(t, "PutText of the empty text", func(b []byte) ([]byte, bool) { return impl.PutText(b, "") })
	checkOwnMemory(t, "Fill", func(b []byte) ([]byte, bool) { return impl.Fill(b, 20) })
	checkOwnMemory(t, "Fill to what is there", func(b []byte) ([]byte, bool) { return impl.Fill(b, len(b)) })
}

func TestP15RefusalsAndReadsChangeNothing(t *testing.T) {
	b := append(roomy(), "\x03abc\x80\x01"...)
	before := bytes.Clone(b[:cap(b)])
	impl.PutVar(b, -1)
	impl.PutVar(b, impl.MaxNum+1)
	impl.PutText(b, strings.Repeat("a", impl.MaxBytes))
	impl.Fill(b, 1)
	impl.Fill(b, -1)
	impl.GetVar(b, 14)
	s, _ := impl.GetText(b, 10)
	if !bytes.Equal(b[:cap(b)], before) {
		t.Error("an argument is changed")
	}
	b[11] = 'z'
	if s != "abc" {
		t.Errorf("a text that was got is %q behind a change of the bytes", s)
	}
}
