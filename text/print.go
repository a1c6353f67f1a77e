package text

import (
	"strconv"
	"strings"

	"spinney/api"
)

// printValue writes a right value's printed form.
func printValue(b *strings.Builder, v api.Value) {
	switch v.Kind {
	case api.VNil:
		b.WriteString("nil")
	case api.VBool:
		b.WriteString(strconv.FormatBool(v.Num == 1))
	case api.VInt:
		b.WriteString(strconv.FormatInt(v.Num, 10))
	case api.VStr:
		printText(b, v.Text)
	case api.VList:
		printItems(b, "[", v.Items, "]")
	case api.VSet:
		printItems(b, "#{", v.Items, "}")
	case api.VMap:
		printItems(b, "{", v.Items, "}")
	}
}

func printItems(b *strings.Builder, open string, items []api.Value, shut string) {
	b.WriteString(open)
	for i, item := range items {
		if i > 0 {
			b.WriteByte(' ')
		}
		printValue(b, item)
	}
	b.WriteString(shut)
}

func printText(b *strings.Builder, s string) {
	b.WriteByte('"')
	for _, r := range s {
		printLetter(b, r)
	}
	b.WriteByte('"')
}

func printLetter(b *strings.Builder, r rune) {
	switch {
	case r == '"':
		b.WriteString(`\"`)
	case r == '\\':
		b.WriteString(`\\`)
	case r == '\n':
		b.WriteString(`\n`)
	case r == '\t':
		b.WriteString(`\t`)
	case r == '\r':
		b.WriteString(`\r`)
	case r < ' ' || r == 127:
		b.WriteString(`\u00`)
		if r < 16 {
			b.WriteByte('0')
		}
		b.WriteString(strconv.FormatInt(int64(r), 16))
	default:
		b.WriteRune(r)
	}
}
