package value

import (
	"strings"
	"unicode/utf8"

	"spinney/api"
)

// rightParts tells whether each part of a value that fits is right.
func rightParts(v api.Value) bool {
	for _, item := range v.Items {
		if !rightParts(item) {
			return false
		}
	}
	return v.Kind >= api.VNil && v.Kind <= api.VMap && rightNum(v) && rightText(v) && rightItems(v)
}

func rightNum(v api.Value) bool {
	switch v.Kind {
	case api.VInt:
		return true
	case api.VBool:
		return v.Num == 0 || v.Num == 1
	}
	return v.Num == 0
}

func rightText(v api.Value) bool {
	if v.Kind != api.VStr {
		return v.Text == ""
	}
	return len(v.Text) <= api.MaxText && isUTF8(v.Text)
}

func rightItems(v api.Value) bool {
	switch v.Kind {
	case api.VList:
		return true
	case api.VSet:
		return rising(v.Items, 1)
	case api.VMap:
		return len(v.Items)%2 == 0 && rising(v.Items, 2)
	}
	return len(v.Items) == 0
}

// rising tells whether of every step-th item each is greater than the one ahead.
func rising(l []api.Value, step int) bool {
	for i := step; i < len(l); i += step {
		if Compare(l[i-step], l[i]) >= 0 {
			return false
		}
	}
	return true
}

// isUTF8 looks twice at the replacement letter: a range tells it for a wrong byte, but a text may also hold it.
func isUTF8(s string) bool {
	for i, r := range s {
		if r == utf8.RuneError && !strings.HasPrefix(s[i:], "\uFFFD") {
			return false
		}
	}
	return true
}

func countParts(v api.Value) int {
	n := 1
	for _, item := range v.Items {
		n += countParts(item)
	}
	return n
}

func depth(v api.Value) int {
	deepest := 0
	for _, item := range v.Items {
		deepest = max(deepest, depth(item)+1)
	}
	return deepest
}
