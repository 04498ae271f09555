package ops

import (
	"strings"
	"testing"
	"unsafe"

	"understudy/api"
)

// answer is what a call returns.
type answer struct {
	value api.Value
	name  string
}

func TestResultsDependOnArgumentsAlone(t *testing.T) {
	type call struct {
		op   string
		a, b api.Value
	}
	list := append(right(), invalid()...)
	var calls []call
	for _, op := range append(operators(), "in", "", "==") {
		for i, a := range list {
			calls = append(calls, call{op, a, list[i*7%len(list)]}, call{op, a, list[i*11%len(list)]})
		}
	}
	perform := func(c call) (out [2]answer) {
		out[0].value, out[0].name = Binary(c.op, c.a, c.b)
		out[1].value, out[1].name = Minus(c.a)
		return out
	}
	var results [][2]answer
	for _, c := range calls {
		results = append(results, perform(c))
	}
	for i := len(calls) - 1; i >= 0; i-- {
		c := calls[i]
		if perform(c) != results[i] {
			t.Errorf("P1602: %s: not the results of the call before", told(c.op, c.a, c.b))
		}
	}
}

// sharing reports whether a and b have bytes in the same memory.
func sharing(a, b string) bool {
	if a == "" || b == "" {
		return false
	}
	from, at := uintptr(unsafe.Pointer(unsafe.StringData(a))), uintptr(unsafe.Pointer(unsafe.StringData(b)))
	return from < at+uintptr(len(b)) && at < from+uintptr(len(a))
}

func TestResultsAreNewlyAllocated(t *testing.T) {
	list := []api.Value{txt(""), txt("a"), txt(high), txt(low), txt(smiling), txt(strings.Repeat("a", maxUnits)), num(5), num(-12), null(), undefined(), yes()}
	for _, a := range list {
		for _, b := range list {
			first, _ := Binary("+", a, b)
			second, _ := Binary("+", a, b)
			if sharing(first.Str, a.Str) || sharing(first.Str, b.Str) || sharing(first.Str, second.Str) {
				t.Errorf("P1602: the result of %s shares memory", told("+", a, b))
			}
		}
	}
}

// The bytes of a string made of a list may change after the call.
func TestArgumentsAreNotKept(t *testing.T) {
	bytes := []byte("ab")
	a := txt(unsafe.String(&bytes[0], len(bytes)))
	joined, _ := Binary("+", a, txt(""))
	if string(bytes) != "ab" {
		t.Errorf("P1602: the argument has become %q", bytes)
	}
	gives(t, "<", a, txt("b"), yes())
	bytes[0] = 'z'
	if joined != txt("ab") {
		t.Errorf("P1602: the result has become %q", joined.Str)
	}
	gives(t, "<", a, txt("b"), no())
}
