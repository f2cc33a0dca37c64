package impl

import (
	"errors"
	"strconv"
	"strings"
)

const MaxBytes = 4096
const MaxNum = 1099511627775

// A quote makes three bytes of one at most, and has a mark at each end.
const maxQuote = 3*MaxBytes + 2

const hexDigits = "0123456789ABCDEF"

var errNoNumber = errors.New("bytes: not a number")
var errTooLong = errors.New("bytes: too many bytes")
var errNoSize = errors.New("bytes: not a size")
var errNoQuote = errors.New("bytes: not a quote")

// writer gathers at most so many bytes. Its first error stops it, so that
// whoever writes asks just once, behind the last part.
type writer struct {
	bytes []byte
	most  int
	err   error
}

// newWriter begins with a copy of b: what is written behind it must not come
// into the memory of an argument.
func newWriter(b []byte, most int) *writer {
	w := &writer{most: most}
	w.add(b)
	return w
}

func (w *writer) fail(err error) {
	if w.err == nil {
		w.err = err
	}
}

func (w *writer) add(b []byte) {
	if len(b) > w.most-len(w.bytes) {
		w.fail(errTooLong)
	}
	if w.err == nil {
		w.bytes = append(w.bytes, b...)
	}
}

func (w *writer) addByte(c byte) {
	w.add([]byte{c})
}

func (w *writer) number(n int) {
	if !isNumber(n) {
		w.fail(errNoNumber)
		return
	}
	for n >= 128 {
		w.addByte(byte(n%128 + 128))
		n /= 128
	}
	w.addByte(byte(n))
}

func (w *writer) text(s string) {
	w.number(len(s))
	w.add([]byte(s))
}

func (w *writer) fill(size int) {
	if size < len(w.bytes) || size > w.most {
		w.fail(errNoSize)
	}
	if w.err == nil {
		w.add(make([]byte, size-len(w.bytes)))
	}
}

func (w *writer) quoted(c byte) {
	if isPlain(c) {
		w.addByte(c)
		return
	}
	w.add([]byte{'%', hexDigits[c/16], hexDigits[c%16]})
}

// unquoted writes the byte whose quoted form begins s, and tells the length of
// that form.
func (w *writer) unquoted(s string) int {
	if isPlain(s[0]) {
		w.addByte(s[0])
		return 1
	}
	if s[0] != '%' || len(s) < 3 {
		w.fail(errNoQuote)
		return len(s)
	}
	high := strings.IndexByte(hexDigits, s[1])
	low := strings.IndexByte(hexDigits, s[2])
	// A plain byte in digits is none of Quote's forms: one form alone is read.
	if high < 0 || low < 0 || isPlain(byte(high*16+low)) {
		w.fail(errNoQuote)
		return len(s)
	}
	w.addByte(byte(high*16 + low))
	return 3
}

func (w *writer) told() ([]byte, bool) {
	if w.err != nil {
		return nil, false
	}
	return w.bytes, true
}

func isNumber(n int) bool {
	return n >= 0 && n <= MaxNum
}

// isPlain: whether a byte stands for itself within a quote.
func isPlain(c byte) bool {
	return c >= 33 && c <= 126 && c != '"' && c != '%'
}

func PutVar(b []byte, n int) ([]byte, bool) {
	w := newWriter(b, MaxBytes)
	w.number(n)
	return w.told()
}

func GetVar(b []byte, at int) (int, int) {
	if at < 0 {
		return 0, -1
	}
	n, unit := 0, 1
	// No number has a digit whose unit is above MaxNum; that bounds n as well.
	for at < len(b) && unit <= MaxNum {
		digit := int(b[at])
		at++
		if digit >= 128 {
			n += (digit - 128) * unit
			unit *= 128
			continue
		}
		n += digit * unit
		if n > MaxNum || digit == 0 && unit > 1 {
			return 0, -1
		}
		return n, at
	}
	return 0, -1
}

func PutText(b []byte, s string) ([]byte, bool) {
	w := newWriter(b, MaxBytes)
	w.text(s)
	return w.told()
}

func GetText(b []byte, at int) (string, int) {
	size, from := GetVar(b, at)
	if from < 0 || size > len(b)-from {
		return "", -1
	}
	return string(b[from : from+size]), from + size
}

func Fill(b []byte, size int) ([]byte, bool) {
	w := newWriter(b, MaxBytes)
	w.fill(size)
	return w.told()
}

func Quote(s string) string {
	if len(s) > MaxBytes {
		return ""
	}
	w := newWriter(nil, maxQuote)
	w.addByte('"')
	for i := range len(s) {
		w.quoted(s[i])
	}
	w.addByte('"')
	b, _ := w.told()
	return string(b)
}

func Unquote(s string) (string, bool) {
	last := len(s) - 1
	if last < 1 || s[0] != '"' || s[last] != '"' {
		return "", false
	}
	w := newWriter(nil, MaxBytes)
	for at := 1; at < last && w.err == nil; {
		at += w.unquoted(s[at:last])
	}
	b, ok := w.told()
	return string(b), ok
}

func NumText(n int) string {
	if !isNumber(n) {
		return ""
	}
	return strconv.Itoa(n)
}

func TextNum(s string) (int, bool) {
	n, err := strconv.Atoi(s)
	// Atoi reads signs and zeros in front too; NumText writes one form alone.
	if err != nil || NumText(n) != s {
		return 0, false
	}
	return n, true
}
