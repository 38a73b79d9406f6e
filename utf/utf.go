// Package utf is layer 1, strict UTF-8: see shared/doc/01-utf.md.
package utf

import "blindfold/api"

// Scalar reports whether r has an encoding.
func Scalar(r rune) bool {
	surrogate := 0xd800 <= r && r <= 0xdfff
	return 0 <= r && r <= api.MaxRune && !surrogate
}

// Encode returns the encoding of r, or the empty string if r is not a scalar.
func Encode(r rune) string {
	if !Scalar(r) {
		return ""
	}
	var b [4]byte
	n := size(r)
	// The last byte takes the lowest bits, so the bytes are filled from the
	// last to the first; each case leaves the higher bits to the next one.
	switch n {
	case 4:
		b[3] = trail(r)
		r >>= 6
		fallthrough
	case 3:
		b[2] = trail(r)
		r >>= 6
		fallthrough
	case 2:
		b[1] = trail(r)
		r >>= 6
		fallthrough
	default:
		b[0] = mark(n) + byte(r)
	}
	return string(b[:n])
}

// size returns the length of the encoding of the scalar r.
func size(r rune) int {
	switch {
	case r < 0x80:
		return 1
	case r < 0x800:
		return 2
	case r < 0x10000:
		return 3
	}
	return 4
}

// mark returns what the first byte of an encoding of n bytes adds to the
// highest bits of its scalar.
func mark(n int) byte {
	switch n {
	case 2:
		return 0xc0
	case 3:
		return 0xe0
	case 4:
		return 0xf0
	}
	return 0
}

// trail returns the byte that holds the lowest six bits of r.
func trail(r rune) byte {
	return 0x80 + byte(r&0x3f)
}

// Decode returns the scalar encoded at index at, the length of its encoding,
// and true. Where b is not well-formed it returns 0, the length of the
// incomplete prefix, and false; outside b it returns 0, 0 and false.
func Decode(b string, at int) (r rune, n int, ok bool) {
	if at < 0 || at >= len(b) {
		return 0, 0, false
	}
	rest := b[at:]
	long, lo, hi := lead(rest[0])
	if long == 0 {
		return 0, 1, false
	}
	r = rune(rest[0] - mark(long))
	for n = 1; n < long; n++ {
		if n == len(rest) || rest[n] < lo || rest[n] > hi {
			return 0, n, false
		}
		r = r<<6 + rune(rest[n]-0x80)
		lo, hi = 0x80, 0xbf
	}
	return r, long, true
}

// lead returns the length of the encodings that begin with the byte c, and the
// bounds of their second byte; the length 0 if there are none. The bounds are
// narrower than 80 to bf (hexadecimal) where the rest would encode surrogates,
// runes that are too great, or scalars that have a shorter encoding: checking
// them at the second byte is what ends the incomplete prefix at the first one.
func lead(c byte) (long int, lo, hi byte) {
	switch {
	case c < 0x80:
		return 1, 0, 0
	case c < 0xc2:
		return 0, 0, 0
	case c < 0xe0:
		return 2, 0x80, 0xbf
	case c == 0xe0:
		return 3, 0xa0, 0xbf
	case c == 0xed:
		return 3, 0x80, 0x9f
	case c < 0xf0:
		return 3, 0x80, 0xbf
	case c == 0xf0:
		return 4, 0x90, 0xbf
	case c < 0xf4:
		return 4, 0x80, 0xbf
	case c == 0xf4:
		return 4, 0x80, 0x8f
	}
	return 0, 0, 0
}

// Bad returns the first index at which b, decoded from the beginning, is not
// well-formed; len(b) if there is none.
func Bad(b string) int {
	at := 0
	for at < len(b) {
		_, n, ok := Decode(b, at)
		if !ok {
			break
		}
		at += n
	}
	return at
}

// Valid reports whether b is well-formed from its beginning to its end.
func Valid(b string) bool {
	return Bad(b) == len(b)
}

// Count returns the number of scalars and incomplete prefixes of b.
func Count(b string) int {
	count := 0
	for at := 0; at < len(b); count++ {
		_, n, _ := Decode(b, at)
		at += n
	}
	return count
}

// Runes returns the scalars before the first index at which b is not
// well-formed, and that index.
func Runes(b string) ([]rune, int) {
	bad := Bad(b)
	var l []rune
	for at := 0; at < bad; {
		r, n, _ := Decode(b, at)
		l = append(l, r)
		at += n
	}
	return l, bad
}
