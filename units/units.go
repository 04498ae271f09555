// Package units converts between strings and 16-bit code units.
package units

import (
	"strings"
	"unicode/utf8"
)

const (
	highMin = 0xD800
	lowMin  = 0xDC00
	lowMax  = 0xDFFF
	// supplementary is the least code point that takes two units.
	supplementary = 0x10000
	// replacement is the encoding of the code point that a range over a string
	// also gives for bytes that it cannot decode.
	replacement = "\uFFFD"
	// surrogateBytes is the length of the encoding of a single surrogate.
	surrogateBytes = 3
)

// Of returns the code units of s, or none if s is not valid.
func Of(s string) []uint16 {
	list := make([]uint16, 0, len(s))
	if !points(s, func(p rune) { list = appendUnits(list, p) }) {
		return nil
	}
	return list
}

// Text returns the valid string that has the code units u.
func Text(u []uint16) string {
	var b strings.Builder
	b.Grow(len(u))
	for i := 0; i < len(u); i++ {
		p := rune(u[i])
		if isHigh(p) && i+1 < len(u) && isLow(rune(u[i+1])) {
			i++
			p = paired(p, rune(u[i]))
		}
		writePoint(&b, p)
	}
	return b.String()
}

// Right reports whether s is valid.
func Right(s string) bool {
	return points(s, func(rune) {})
}

// Len returns the number of code units of s, or 0 if s is not valid.
func Len(s string) int {
	n := 0
	if !points(s, func(p rune) { n += width(p) }) {
		return 0
	}
	return n
}

// Join returns the string whose code units are those of a followed by those of
// b, or an empty string if one of the two is not valid.
func Join(a, b string) string {
	if !Right(a) || !Right(b) {
		return ""
	}
	var out strings.Builder
	out.Grow(len(a) + len(b))
	high, endsHigh := lastSurrogate(a)
	low, startsLow := firstSurrogate(b)
	// Two halves that meet at the seam have to become one code point.
	if endsHigh && startsLow && isHigh(high) && isLow(low) {
		out.WriteString(a[:len(a)-surrogateBytes])
		writePoint(&out, paired(high, low))
		b = b[surrogateBytes:]
	} else {
		out.WriteString(a)
	}
	out.WriteString(b)
	return out.String()
}

// points visits the code points of s, single surrogates among them, up to the
// first fault, and reports whether there is none.
func points(s string, visit func(p rune)) bool {
	skipTo, afterHigh := 0, false
	for i, p := range s {
		// A range steps through a surrogate's encoding byte by byte.
		if i < skipTo {
			continue
		}
		if p == utf8.RuneError && !strings.HasPrefix(s[i:], replacement) {
			single, ok := firstSurrogate(s[i:])
			if !ok || afterHigh && isLow(single) {
				return false
			}
			p, skipTo = single, i+surrogateBytes
		}
		afterHigh = isHigh(p)
		visit(p)
	}
	return true
}

// firstSurrogate returns the single surrogate that s begins with, if it does.
func firstSurrogate(s string) (rune, bool) {
	if len(s) < surrogateBytes || s[0] != 0xED || s[1]&0xE0 != 0xA0 || s[2]&0xC0 != 0x80 {
		return 0, false
	}
	return 0xD000 | rune(s[1]&0x3F)<<6 | rune(s[2]&0x3F), true
}

// lastSurrogate returns the single surrogate that the valid string s ends with,
// if it does.
func lastSurrogate(s string) (rune, bool) {
	if len(s) < surrogateBytes {
		return 0, false
	}
	return firstSurrogate(s[len(s)-surrogateBytes:])
}

// writePoint encodes p, which the library would replace if it is a surrogate.
func writePoint(b *strings.Builder, p rune) {
	if !isHigh(p) && !isLow(p) {
		b.WriteRune(p)
		return
	}
	b.WriteByte(0xED)
	b.WriteByte(0x80 | byte(p>>6&0x3F))
	b.WriteByte(0x80 | byte(p&0x3F))
}

func appendUnits(list []uint16, p rune) []uint16 {
	if p < supplementary {
		return append(list, uint16(p))
	}
	rest := p - supplementary
	return append(list, uint16(highMin+rest>>10), uint16(lowMin+rest&0x3FF))
}

func width(p rune) int {
	if p < supplementary {
		return 1
	}
	return 2
}

func paired(high, low rune) rune {
	return supplementary + (high-highMin)<<10 + (low - lowMin)
}

func isHigh(p rune) bool { return highMin <= p && p < lowMin }

func isLow(p rune) bool { return lowMin <= p && p <= lowMax }
