package text

import (
	"strconv"
	"strings"

	"spinney/api"
	"spinney/value"
)

// reader makes values of pieces; forms is how many have begun.
type reader struct {
	scanner
	forms int
}

// only reads the one form that a text must hold.
func (r *reader) only() (api.Value, fault) {
	t, f := r.kept(0)
	if f.code != api.OK {
		return api.Value{}, f
	}
	v, f := r.form(t, 0)
	if f.code != api.OK {
		return api.Value{}, f
	}
	t, f = r.kept(0)
	if f.code != api.OK {
		return api.Value{}, f
	}
	if t.what != nil {
		return api.Value{}, fault{code: api.ErrMore, at: t.at}
	}
	return v, fault{}
}

// kept is the next piece behind the forms that are left out. They are counted, not nested, since a text may hold tens of thousands of #_ in a row.
func (r *reader) kept(level int) (token, fault) {
	leave := 0
	for {
		t := r.next()
		if m, ok := t.what.(mark); ok && m == "#_" {
			leave++
			continue
		}
		if leave == 0 {
			return t, fault{}
		}
		if _, f := r.form(t, level); f.code != api.OK {
			return token{}, f
		}
		leave--
	}
}

// form reads the form that begins with the piece t and stands within level lists, sets and maps.
func (r *reader) form(t token, level int) (api.Value, fault) {
	if t.what == nil {
		return api.Value{}, fault{code: api.ErrEnd, at: t.at}
	}
	if isClosing(t) {
		return api.Value{}, fault{code: api.ErrWord, at: t.at}
	}
	if level > api.MaxDeep {
		return api.Value{}, fault{code: api.ErrDeep, at: t.at}
	}
	if r.forms == api.MaxParts {
		return api.Value{}, fault{code: api.ErrMany, at: t.at}
	}
	r.forms++
	if f, ok := t.what.(fault); ok {
		return api.Value{}, f
	}
	if q, ok := t.what.(quoted); ok {
		return textValue(string(q), t.at)
	}
	if w, ok := t.what.(word); ok {
		return wordValue(string(w), t.at)
	}
	return r.collection(t, level)
}

func isClosing(t token) bool {
	m, ok := t.what.(mark)
	return ok && (m == ")" || m == "]" || m == "}")
}

// collection reads the list, set or map that begins with the mark t.
func (r *reader) collection(t token, level int) (api.Value, fault) {
	m, ok := t.what.(mark)
	if !ok || m == "#" {
		return api.Value{}, fault{code: api.ErrWord, at: t.at}
	}
	shut := closing(m)
	var items []api.Value
	for {
		u, f := r.kept(level + 1)
		if f.code != api.OK {
			return api.Value{}, f
		}
		if end, ok := u.what.(mark); ok && end == shut {
			return collected(m, items, t.at, u.at)
		}
		v, f := r.form(u, level+1)
		if f.code != api.OK {
			return api.Value{}, f
		}
		items = append(items, v)
	}
}

func closing(open mark) mark {
	switch open {
	case "(":
		return ")"
	case "[":
		return "]"
	}
	return "}"
}

// collected is the value of items between a mark at from and its closing bracket at end.
func collected(open mark, items []api.Value, from, end int) (api.Value, fault) {
	switch open {
	case "#{":
		return setValue(items, from)
	case "{":
		return mapValue(items, from, end)
	}
	v, e := value.List(items)
	return v, fault{code: e, at: from}
}

func setValue(items []api.Value, from int) (api.Value, fault) {
	v, e := value.Set(items)
	if e == api.OK && len(v.Items) < len(items) {
		return api.Value{}, fault{code: api.ErrTwice, at: from}
	}
	return v, fault{code: e, at: from}
}

func mapValue(items []api.Value, from, end int) (api.Value, fault) {
	if len(items)%2 != 0 {
		return api.Value{}, fault{code: api.ErrOdd, at: end}
	}
	var pairs []api.Pair
	for i := 0; i < len(items); i += 2 {
		pairs = append(pairs, api.Pair{Key: items[i], Val: items[i+1]})
	}
	v, e := value.Map(pairs)
	if e == api.OK && len(v.Items) < len(items) {
		return api.Value{}, fault{code: api.ErrTwice, at: from}
	}
	return v, fault{code: e, at: from}
}

func textValue(s string, at int) (api.Value, fault) {
	if len(s) > api.MaxText {
		return api.Value{}, fault{code: api.ErrLong, at: at}
	}
	return api.Value{Kind: api.VStr, Text: s}, fault{}
}

func wordValue(w string, at int) (api.Value, fault) {
	switch w {
	case "nil":
		return api.Value{}, fault{}
	case "false":
		return api.Value{Kind: api.VBool}, fault{}
	case "true":
		return api.Value{Kind: api.VBool, Num: 1}, fault{}
	}
	digits := withoutSign(w)
	if !allDigits(digits) {
		return api.Value{}, fault{code: api.ErrWord, at: at}
	}
	n, err := strconv.ParseInt(w, 10, 64)
	if err != nil || len(digits) > 1 && digits[0] == '0' {
		return api.Value{}, fault{code: api.ErrNumber, at: at}
	}
	return api.Value{Kind: api.VInt, Num: n}, fault{}
}

func withoutSign(w string) string {
	if strings.HasPrefix(w, "+") || strings.HasPrefix(w, "-") {
		return w[1:]
	}
	return w
}

// allDigits tells whether s has digits alone, and at least one.
func allDigits(s string) bool {
	for _, r := range s {
		if r < '0' || r > '9' {
			return false
		}
	}
	return s != ""
}
