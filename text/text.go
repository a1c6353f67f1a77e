// Package text is layer 2: see shared/doc/02-text.md.
package text

import (
	"strings"

	"spinney/api"
	"spinney/value"
)

// Print is a value's printed form.
func Print(v api.Value) (string, api.Errno) {
	if e := value.Check(v); e != api.OK {
		return "", e
	}
	var b strings.Builder
	printValue(&b, v)
	return b.String(), api.OK
}

// Read is a text's value, or what is wrong first, and where.
func Read(s string) (api.Value, api.Errno, int) {
	if f := checkSource(s); f.code != api.OK {
		return api.Value{}, f.code, f.at
	}
	r := reader{scanner: scanner{source: s}}
	v, f := r.only()
	if f.code != api.OK {
		return api.Value{}, f.code, f.at
	}
	return v, api.OK, 0
}

// Quote is a text in quotes.
func Quote(s string) (string, api.Errno) {
	if e := value.Check(api.Value{Kind: api.VStr, Text: s}); e != api.OK {
		return "", e
	}
	var b strings.Builder
	printText(&b, s)
	return b.String(), api.OK
}

// Words are the pieces of a text.
func Words(s string) ([]string, api.Errno, int) {
	if f := checkSource(s); f.code != api.OK {
		return nil, f.code, f.at
	}
	var out []string
	scan := scanner{source: s}
	for t := scan.next(); t.what != nil; t = scan.next() {
		if f, ok := t.what.(fault); ok {
			return nil, f.code, f.at
		}
		out = append(out, strings.Clone(s[t.at:scan.at]))
	}
	return out, api.OK, 0
}

// Runes is how many letters a text has.
func Runes(s string) (int, api.Errno) {
	if wrongByte(s) >= 0 {
		return 0, api.ErrUtf
	}
	n := 0
	for range s {
		n++
	}
	return n, api.OK
}
