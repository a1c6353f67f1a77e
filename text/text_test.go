package text_test

import (
	"fmt"
	"reflect"
	"slices"
	"strconv"
	"strings"
	"testing"
	"unsafe"

	"spinney/api"
	"spinney/sample"
	"spinney/text"
	"spinney/value"
)

func num(n int64) api.Value             { return api.Value{Kind: api.VInt, Num: n} }
func str(s string) api.Value            { return api.Value{Kind: api.VStr, Text: s} }
func list(items ...api.Value) api.Value { return api.Value{Kind: api.VList, Items: items} }
func set(items ...api.Value) api.Value  { return api.Value{Kind: api.VSet, Items: items} }
func dict(items ...api.Value) api.Value { return api.Value{Kind: api.VMap, Items: items} }

// nested is what is inside within n pairs of brackets.
func nested(n int, open, inside, shut string) string {
	return strings.Repeat(open, n) + inside + strings.Repeat(shut, n)
}

// forms are n numbers, each with a blank ahead: the k-th number's first byte has a place of its own.
func forms(n int) string {
	var b strings.Builder
	for i := range n {
		b.WriteString(" " + strconv.Itoa(i))
	}
	return b.String()
}

func TestPrint(t *testing.T) {
	for _, c := range []struct {
		v    api.Value
		want string
	}{
		{api.Value{}, "nil"}, {api.Value{Kind: api.VBool, Num: 1}, "true"}, {api.Value{Kind: api.VBool}, "false"},
		{num(0), "0"}, {num(7), "7"}, {num(-7), "-7"}, {num(1<<63 - 1), "9223372036854775807"}, {num(-1 << 63), "-9223372036854775808"},
		{str(""), `""`}, {str("a b"), `"a b"`},
		{list(), "[]"}, {api.Value{Kind: api.VList, Items: []api.Value{}}, "[]"}, {set(), "#{}"}, {dict(), "{}"},
		{list(num(2), num(1)), "[2 1]"}, {set(num(1), num(2), num(3)), "#{1 2 3}"}, {dict(num(1), num(3), num(2), num(4)), "{1 3 2 4}"},
		{dict(str("a"), list(set(num(-1)), dict())), `{"a" [#{-1} {}]}`},
	} {
		if s, e := text.Print(c.v); e != api.OK || s != c.want {
			t.Errorf("Print(%v): %q, %v", c.v, s, e)
		}
	}
}

func TestPrintWrong(t *testing.T) {
	deep := api.Value{}
	for range api.MaxDeep + 1 {
		deep = list(deep)
	}
	for _, v := range []api.Value{{Kind: 7}, {Kind: -1}, {Num: 1}, str("\xff"), set(num(2), num(1)), dict(num(1)), list(list(api.Value{Kind: api.VBool, Num: 2})), deep, list(make([]api.Value, api.MaxParts)...)} {
		if s, e := text.Print(v); e != api.ErrValue || s != "" {
			t.Errorf("Print(%s): %q, %v", short(v), s, e)
		}
	}
}

func TestQuote(t *testing.T) {
	for _, c := range []struct{ in, want string }{
		{"", `""`}, {"a", `"a"`}, {`"\`, `"\"\\"`}, {"\n\t\r", `"\n\t\r"`}, {"\x00\x01\x08\x0b\x0c\x0e\x0f\x10\x1f", `"\u0000\u0001\u0008\u000b\u000c\u000e\u000f\u0010\u001f"`},
		{" \x7e\x7f\u0080", "\" ~\\u007f\u0080\""}, {"é€𝄞\uFFFD\u2028", "\"é€𝄞\uFFFD\u2028\""}, {"/'", `"/'"`},
		{strings.Repeat("\x7f", api.MaxText), `"` + strings.Repeat(`\u007f`, api.MaxText) + `"`},
	} {
		if s, e := text.Quote(c.in); e != api.OK || s != c.want {
			t.Errorf("Quote(%q): %q, %v", c.in, s, e)
		}
		if s, e := text.Print(str(c.in)); e != api.OK || s != c.want {
			t.Errorf("Print of %q: %q, %v", c.in, s, e)
		}
	}
	for _, in := range []string{"\xff", "a\xc0\x80", "\xed\xa0\x80", strings.Repeat("a", api.MaxText+1), strings.Repeat("é", api.MaxText/2) + "a"} {
		if s, e := text.Quote(in); e != api.ErrValue || s != "" {
			t.Errorf("Quote(%q): %q, %v", in, s, e)
		}
	}
}

func TestRead(t *testing.T) {
	yes, no := api.Value{Kind: api.VBool, Num: 1}, api.Value{Kind: api.VBool}
	for _, c := range []struct {
		in   string
		want api.Value
	}{
		{"nil", api.Value{}}, {"true", yes}, {"false", no}, {"nil;", api.Value{}}, {"nil;a\xc3\xa9 ]", api.Value{}}, {" \t\n\r,nil, \r\n\t", api.Value{}}, {"; \" ( \n1", num(1)},
		{"0", num(0)}, {"-0", num(0)}, {"+0", num(0)}, {"+7", num(7)}, {"-7", num(-7)}, {"1234567890", num(1234567890)},
		{"9223372036854775807", num(1<<63 - 1)}, {"+9223372036854775807", num(1<<63 - 1)}, {"-9223372036854775808", num(-1 << 63)},
		{`""`, str("")}, {`"a b;,(#{"`, str("a b;,(#{")}, {`"\u0041"`, str("A")}, {`"\"\\\n\t\r"`, str("\"\\\n\t\r")}, {"\"a\nb\x00\x7f\"", str("a\nb\x00\x7f")},
		{`"\u00e9\u00E9\u20aC\uD7ff\ue000\uffff\u0000"`, str("éé€\uD7FF\uE000\uFFFF\x00")}, {`"\u00411"`, str("A1")}, {`"\uA0AF\uafa0\u0FF0"`, str("\uA0AF\uAFA0\u0FF0")}, {`"\\"`, str(`\`)}, {`"\\u0041"`, str(`\u0041`)}, {"\"é𝄞\uFFFD\"", str("é𝄞\uFFFD")},
		{`"` + strings.Repeat(`\u0041`, api.MaxText) + `"`, str(strings.Repeat("A", api.MaxText))}, {`"` + strings.Repeat("é", api.MaxText/2) + `"`, str(strings.Repeat("é", api.MaxText/2))},
		{"()", list()}, {"[]", list()}, {"#{}", set()}, {"{}", dict()}, {"[ , ]", list()}, {"#{;}\n}", set()}, {"{#_ 1}", dict()},
		{"(1 2)", list(num(1), num(2))}, {"[1(2)[3]]", list(num(1), list(num(2)), list(num(3)))}, {`[1"a"2"b""c"]`, list(num(1), str("a"), num(2), str("b"), str("c"))}, {"[1,2;3\n4]", list(num(1), num(2), num(4))},
		{"#{3 1 2}", set(num(1), num(2), num(3))}, {"{2 4, 1 3}", dict(num(1), num(3), num(2), num(4))}, {"{1 5 2 5}", dict(num(1), num(5), num(2), num(5))}, {"#{[1] #{1} {1 1}}", set(list(num(1)), set(num(1)), dict(num(1), num(1)))},
		{"(1 #_ 2 3)", list(num(1), num(3))}, {"(1 #_2 3)", list(num(1), num(3))}, {"#_ #_ 1 2 true", yes}, {"#_#_ 1 #_ 2 3 true", yes}, {"true #_ 1 #_ [2 #_ 3]", yes}, {"#_;a\n1 true", yes}, {"#_ \"]\" true", yes}, {"{#_ 1 2 #_ 3 4 #_ 5}", dict(num(2), num(4))},
		{"#_ #{1 2} #{1 #_ 1}", set(num(1))},
	} {
		v, e, at := text.Read(c.in)
		if e != api.OK || at != 0 || !reflect.DeepEqual(v, c.want) && !(len(c.want.Items) == 0 && value.Equal(v, c.want)) {
			t.Errorf("Read(%.80q): %v, %v, %d", c.in, v, e, at)
		}
	}
}

// fault is a text that is wrong, in what, and where.
type fault struct {
	in string
	e  api.Errno
	at int
}

func checkFaults(t *testing.T, faults []fault) {
	t.Helper()
	for _, c := range faults {
		v, e, at := text.Read(c.in)
		if e != c.e || at != c.at || !reflect.DeepEqual(v, api.Value{}) {
			t.Errorf("Read(%.80q): %s, %v, %d; wanted %v, %d", c.in, short(v), e, at, c.e, c.at)
		}
	}
}

func TestReadWholeText(t *testing.T) {
	most := "1" + strings.Repeat(" ", api.MaxSource-1)
	if v, e, at := text.Read(most); e != api.OK || at != 0 || v.Num != 1 {
		t.Errorf("Read of MaxSource bytes: %v, %v, %d", v, e, at)
	}
	checkFaults(t, []fault{
		{most + " ", api.ErrLong, 0}, {strings.Repeat("\xff", api.MaxSource+1), api.ErrLong, 0}, {strings.Repeat(")", api.MaxSource+1), api.ErrLong, 0},
		{"\xff", api.ErrUtf, 0}, {"a\xff", api.ErrUtf, 1}, {") \"\\x 1 1 ;\x80", api.ErrUtf, 11}, {"1 é\xc3", api.ErrUtf, 4}, {"\xe2\x82", api.ErrUtf, 0}, {"1\xe2\x82 ", api.ErrUtf, 1},
		{"\"\xed\xa0\x80\"", api.ErrUtf, 1}, {"\"\xc0\x80\"", api.ErrUtf, 1}, {"\xf4\x90\x80\x80", api.ErrUtf, 0}, {"\uFFFD\xff", api.ErrUtf, 3},
		{strings.Repeat(" ", api.MaxSource-1) + "\xff", api.ErrUtf, api.MaxSource - 1},
	})
}

func TestReadEnd(t *testing.T) {
	checkFaults(t, []fault{
		{"", api.ErrEnd, 0}, {"  ", api.ErrEnd, 2}, {";a", api.ErrEnd, 2}, {"[1 2", api.ErrEnd, 4}, {"[1 2 ", api.ErrEnd, 5}, {"(", api.ErrEnd, 1}, {"#{", api.ErrEnd, 2}, {"{1 2", api.ErrEnd, 4}, {"{1", api.ErrEnd, 2}, {"#{1 1", api.ErrEnd, 5},
		{"#_", api.ErrEnd, 2}, {"#_ 1", api.ErrEnd, 4}, {"#_ #_ 1", api.ErrEnd, 7}, {"1 #_", api.ErrEnd, 4}, {"1 #_ #_ 2 ", api.ErrEnd, 10}, {"[#_", api.ErrEnd, 3}, {"[1 ;]", api.ErrEnd, 5},
		{`"`, api.ErrEnd, 1}, {`"abc`, api.ErrEnd, 4}, {`"\`, api.ErrEnd, 2}, {`"\"`, api.ErrEnd, 3}, {`"\u`, api.ErrEnd, 3}, {`"\u0`, api.ErrEnd, 4}, {`"\u004`, api.ErrEnd, 6}, {`"\u0041`, api.ErrEnd, 7}, {`"\ud80`, api.ErrEnd, 6}, {`["a`, api.ErrEnd, 3},
		{`"` + strings.Repeat("a", api.MaxText+1), api.ErrEnd, api.MaxText + 2}, {strings.Repeat("#_", api.MaxSource/2), api.ErrEnd, api.MaxSource}, {strings.Repeat("[", api.MaxDeep+1), api.ErrEnd, api.MaxDeep + 1},
	})
}

func TestReadWordsAndNumbers(t *testing.T) {
	checkFaults(t, []fault{
		{"nul", api.ErrWord, 0}, {"nill", api.ErrWord, 0}, {"Nil", api.ErrWord, 0}, {"True", api.ErrWord, 0}, {"é", api.ErrWord, 0}, {"\x00", api.ErrWord, 0}, {"\f1", api.ErrWord, 0}, {"\u00a0", api.ErrWord, 0}, {"{1 [a]}", api.ErrWord, 4}, {"a ]", api.ErrWord, 0}, {"'a", api.ErrWord, 0}, {":a", api.ErrWord, 0}, {`\a`, api.ErrWord, 0},
		{"#", api.ErrWord, 0}, {"#a", api.ErrWord, 0}, {"# {}", api.ErrWord, 0}, {"##{}", api.ErrWord, 0}, {"[1 #[2]]", api.ErrWord, 3}, {"#;_\n1", api.ErrWord, 0}, {"1#_2", api.ErrWord, 0}, {"nil#{1}", api.ErrWord, 0}, {"#\"a\"", api.ErrWord, 0},
		{")", api.ErrWord, 0}, {"]", api.ErrWord, 0}, {" }", api.ErrWord, 1}, {"[)", api.ErrWord, 1}, {"(1]", api.ErrWord, 2}, {"#{1)", api.ErrWord, 3}, {"{1]", api.ErrWord, 2}, {"{1 2)", api.ErrWord, 4}, {"[1}", api.ErrWord, 2}, {"[#_]", api.ErrWord, 3}, {"#_)", api.ErrWord, 2}, {"1 #_ ]", api.ErrWord, 5}, {"#_ a 1", api.ErrWord, 3}, {"1 #_ a", api.ErrWord, 5}, {"[(]", api.ErrWord, 2},
		{"+", api.ErrWord, 0}, {"-", api.ErrWord, 0}, {"+-1", api.ErrWord, 0}, {"--1", api.ErrWord, 0}, {"1a", api.ErrWord, 0}, {"1.5", api.ErrWord, 0}, {"1_0", api.ErrWord, 0}, {"0x1", api.ErrWord, 0}, {"1-", api.ErrWord, 0}, {"1+1", api.ErrWord, 0}, {"007a", api.ErrWord, 0}, {"99999999999999999999a", api.ErrWord, 0}, {"1é", api.ErrWord, 0}, {"٣", api.ErrWord, 0}, {"-a", api.ErrWord, 0},
		{"007", api.ErrNumber, 0}, {"00", api.ErrNumber, 0}, {"-00", api.ErrNumber, 0}, {"+01", api.ErrNumber, 0}, {"-09", api.ErrNumber, 0}, {"9223372036854775808", api.ErrNumber, 0}, {"+9223372036854775808", api.ErrNumber, 0}, {"-9223372036854775809", api.ErrNumber, 0}, {"10000000000000000000", api.ErrNumber, 0}, {"18446744073709551617", api.ErrNumber, 0}, {strings.Repeat("9", 1000), api.ErrNumber, 0}, {strings.Repeat("0", 20), api.ErrNumber, 0}, {"[1 -01]", api.ErrNumber, 3},
	})
}

func TestReadTexts(t *testing.T) {
	long := strings.Repeat("a", api.MaxText+1)
	checkFaults(t, []fault{
		{`"\x"`, api.ErrEscape, 1}, {`"ab\ "`, api.ErrEscape, 3}, {`"é\N"`, api.ErrEscape, 3}, {`"\/"`, api.ErrEscape, 1}, {`"\é"`, api.ErrEscape, 1}, {"\"\\\n\"", api.ErrEscape, 1}, {`"\U0041"`, api.ErrEscape, 1}, {`"\0"`, api.ErrEscape, 1}, {`"\\\x"`, api.ErrEscape, 3},
		{`"\u12"`, api.ErrEscape, 1}, {`"\u"`, api.ErrEscape, 1}, {`"\u12g4"`, api.ErrEscape, 1}, {`"\u12é"`, api.ErrEscape, 1}, {`"\ug`, api.ErrEscape, 1}, {`"\u004g`, api.ErrEscape, 1}, {`"\u+041"`, api.ErrEscape, 1}, {`"\ud800"`, api.ErrEscape, 1}, {`"\uDFFF"`, api.ErrEscape, 1}, {`"\ud834\udd1e"`, api.ErrEscape, 1}, {`"a\udc00`, api.ErrEscape, 2},
		{`[1 "\x`, api.ErrEscape, 4}, {`"` + long + `\x"`, api.ErrEscape, api.MaxText + 2},
		{`"` + long + `"`, api.ErrLong, 0}, {` ["` + long + `" a`, api.ErrLong, 2}, {`"` + strings.Repeat("é", api.MaxText/2) + `\n"`, api.ErrLong, 0}, {`"` + strings.Repeat(`\u00e9`, api.MaxText/2+1) + `"`, api.ErrLong, 0}, {`#_ "` + long + `" 1`, api.ErrLong, 3},
	})
}

func TestReadSetsAndMaps(t *testing.T) {
	checkFaults(t, []fault{
		{"{1}", api.ErrOdd, 2}, {"{1 2 3 }", api.ErrOdd, 7}, {"{1 2 1}", api.ErrOdd, 6}, {"{1 #_ 2}", api.ErrOdd, 7}, {"[{1 2} {3}]", api.ErrOdd, 9}, {"{1 {2}}", api.ErrOdd, 5}, {"{1 1 1 1 1}", api.ErrOdd, 10},
		{"#{1 1}", api.ErrTwice, 0}, {" [#{2 1 2}]", api.ErrTwice, 2}, {"{1 2 1 3}", api.ErrTwice, 0}, {"{1 2, 1 2}", api.ErrTwice, 0}, {"#{0 -0}", api.ErrTwice, 0}, {`#{"A" "\u0041"}`, api.ErrTwice, 0}, {"#{[1] (1)}", api.ErrTwice, 0}, {"#{#{1 2} #{2 1}}", api.ErrTwice, 0}, {"{{1 2 3 4} 0 {3 4 1 2} 0}", api.ErrTwice, 0}, {"#_ #{nil nil} 1", api.ErrTwice, 3},
		{"#{1 1 a}", api.ErrWord, 6}, {"{1 2 1 3 007}", api.ErrNumber, 9}, {"#{1 1 {2}}", api.ErrOdd, 8}, {"#{1 1} a", api.ErrTwice, 0}, {"{1} 2", api.ErrOdd, 2}, {"#{#{1 1} #{2 2}}", api.ErrTwice, 2},
	})
}

func TestReadLimits(t *testing.T) {
	most := api.MaxDeep
	for _, in := range []string{nested(most, "[", "1", "]"), nested(most+1, "[", "", "]"), nested(most, "#{", "()", "}"), nested(most, "{1 ", "#_ 1 2", "}"), nested(most, "[", "#_ []", "]"),
		"[" + forms(api.MaxParts-1) + "]", "#{" + forms(api.MaxParts-1) + "}", "{" + forms(api.MaxParts-2) + "}", "[" + forms(api.MaxParts-3) + " #_ 1 #_ 2]", "#_ [" + forms(api.MaxParts-2) + "] 1", "[" + forms(api.MaxParts-2) + "] #_ 1"} {
		if v, e, at := text.Read(in); e != api.OK || at != 0 || value.Check(v) != api.OK {
			t.Errorf("Read(%.80q): %v, %d", in, e, at)
		}
	}
	full := "[" + forms(api.MaxParts-1)
	checkFaults(t, []fault{
		{nested(most+1, "[", " 1", "]"), api.ErrDeep, most + 2}, {nested(most+2, "[", "", "]"), api.ErrDeep, most + 1}, {nested(most+1, "(", "a", ")"), api.ErrDeep, most + 1}, {nested(most+1, "#{", "#a", "}"), api.ErrDeep, 2 * (most + 1)}, {nested(most+1, "{1 ", "1", "}"), api.ErrDeep, 3*most + 1}, {nested(most+1, "[", "#_ 1", "]"), api.ErrDeep, most + 4}, {nested(most+1, "[", `"\x"`, "]"), api.ErrDeep, most + 1}, {nested(most+1, "[", `"`, ""), api.ErrDeep, most + 1}, {"#_ " + nested(most+1, "[", "1", "]"), api.ErrDeep, most + 4},
		{nested(most+1, "[", ")", "]"), api.ErrWord, most + 1}, {nested(most+1, "[", "#_ ]", "]"), api.ErrWord, most + 4},
		{full + " 5]", api.ErrMany, len(full) + 1}, {full + " a]", api.ErrMany, len(full) + 1}, {full + ` "\x`, api.ErrMany, len(full) + 1}, {full + " #_ 5]", api.ErrMany, len(full) + 4}, {full + "] #_ 5", api.ErrMany, len(full) + 5}, {full + " []]", api.ErrMany, len(full) + 1}, {full + " #", api.ErrMany, len(full) + 1},
		{full + " )", api.ErrWord, len(full) + 1}, {full + " ", api.ErrEnd, len(full) + 1}, {full + " a", api.ErrMany, len(full) + 1}, {full + "] 5", api.ErrMore, len(full) + 2},
		{"#_ " + full + "] 1", api.ErrMany, len(full) + 5},
		{nested(most+1, "[", forms(api.MaxParts), "]"), api.ErrDeep, most + 2},
		{"[" + forms(api.MaxParts-most) + nested(most-1, "[", " 1", "]"), api.ErrMany, len("["+forms(api.MaxParts-most)) + most},
		// The last form is both too deep and one too many.
		{"[" + forms(api.MaxParts-1-most) + nested(most, "[", " 1", "]"), api.ErrDeep, len("["+forms(api.MaxParts-1-most)) + most + 1},
	})
}

func TestReadMore(t *testing.T) {
	checkFaults(t, []fault{
		{"1 2", api.ErrMore, 2}, {"1 #_ 2 3", api.ErrMore, 7}, {"1;\n2", api.ErrMore, 3}, {"1]", api.ErrMore, 1}, {"[] )", api.ErrMore, 3}, {"1 }", api.ErrMore, 2}, {"[1]2", api.ErrMore, 3}, {`1"a"`, api.ErrMore, 1}, {"1(", api.ErrMore, 1},
		{"1 a", api.ErrMore, 2}, {"1 007", api.ErrMore, 2}, {"1 [2", api.ErrMore, 2}, {`1 "\x"`, api.ErrMore, 2}, {`1 "`, api.ErrMore, 2}, {"1 #{1 1}", api.ErrMore, 2}, {"1 #", api.ErrMore, 2}, {"a 1", api.ErrWord, 0},
	})
}

func TestWords(t *testing.T) {
	for _, c := range []struct {
		in   string
		want []string
	}{
		{"", nil}, {" ,\t\r\n", nil}, {"; a b", nil}, {"(a \"b\")", []string{"(", "a", `"b"`, ")"}}, {"a;b\nc", []string{"a", "c"}}, {"a,b", []string{"a", "b"}},
		{"#{1 #_ 2}", []string{"#{", "1", "#_", "2", "}"}}, {"#_a", []string{"#_", "a"}}, {"# a", []string{"#", "a"}}, {"#a", []string{"#", "a"}}, {"##{", []string{"#", "#{"}}, {"#", []string{"#"}}, {"a#b#{", []string{"a#b#", "{"}}, {"#[", []string{"#", "["}}, {"1#_2", []string{"1#_2"}},
		{")]}({[", []string{")", "]", "}", "(", "{", "["}}, {"1 2 007 nul é+-\\x", []string{"1", "2", "007", "nul", "é+-\\x"}}, {`"a\"b\u0041" "c""d"e`, []string{`"a\"b\u0041"`, `"c"`, `"d"`, "e"}}, {"\";\n, (\"", []string{"\";\n, (\""}},
		{nested(api.MaxDeep+1, "[", "a", ""), append(slices.Repeat([]string{"["}, api.MaxDeep+1), "a")}, {`"` + strings.Repeat("a", api.MaxText+1) + `"`, []string{`"` + strings.Repeat("a", api.MaxText+1) + `"`}},
		{strings.Repeat("a ", api.MaxSource/2), slices.Repeat([]string{"a"}, api.MaxSource/2)},
	} {
		if l, e, at := text.Words(c.in); e != api.OK || at != 0 || !slices.Equal(l, c.want) {
			t.Errorf("Words(%.80q): %.80q, %v, %d", c.in, l, e, at)
		}
	}
	for _, c := range []fault{
		{strings.Repeat("\xff", api.MaxSource+1), api.ErrLong, 0}, {strings.Repeat(" ", api.MaxSource+1), api.ErrLong, 0}, {"é\xff \"", api.ErrUtf, 2}, {"1 \"\\x\" ;\xc3", api.ErrUtf, 8},
		{`a "b`, api.ErrEnd, 4}, {`"\`, api.ErrEnd, 2}, {`"\u004`, api.ErrEnd, 6}, {`a "\x" "`, api.ErrEscape, 3}, {`"\ud800"`, api.ErrEscape, 1}, {`"\u12"`, api.ErrEscape, 1}, {`) "b\ "`, api.ErrEscape, 4},
	} {
		if l, e, at := text.Words(c.in); e != c.e || at != c.at || l != nil {
			t.Errorf("Words(%.80q): %.80q, %v, %d", c.in, l, e, at)
		}
	}
}

func TestRunes(t *testing.T) {
	for _, c := range []struct {
		in   string
		want int
	}{{"", 0}, {"abc", 3}, {"é𝄞", 2}, {"\uFFFD\x00", 2}, {"e\u0301", 2}, {strings.Repeat("é", 2*api.MaxSource), 2 * api.MaxSource}} {
		if n, e := text.Runes(c.in); e != api.OK || n != c.want {
			t.Errorf("Runes(%.80q): %d, %v", c.in, n, e)
		}
	}
	for _, in := range []string{"\xff", "a\x80", "é\xc3", "\xed\xa0\x80", "\xc0\x80", "\xf4\x90\x80\x80", "\uFFFD\xbd", strings.Repeat("a", api.MaxSource) + "\xff"} {
		if n, e := text.Runes(in); e != api.ErrUtf || n != 0 {
			t.Errorf("Runes(%.80q): %d, %v", in, n, e)
		}
	}
}

func TestThereAndBack(t *testing.T) {
	s := sample.New(1)
	byForm := map[string]api.Value{}
	for range 5000 {
		v := s.Value(s.Below(6))
		printed, e := text.Print(v)
		if e != api.OK {
			t.Fatalf("Print(%v): %v", v, e)
		}
		back, e, at := text.Read(printed)
		if e != api.OK || at != 0 || !value.Equal(back, v) || value.Check(back) != api.OK {
			t.Errorf("Read(%q): %v, %v, %d", printed, back, e, at)
		}
		if other, ok := byForm[printed]; ok && !value.Equal(other, v) {
			t.Errorf("%q is printed of %v and of %v", printed, other, v)
		}
		byForm[printed] = v
	}
}

func TestThereAndBackAtTheLimits(t *testing.T) {
	deep := str(strings.Repeat("\x01", api.MaxText))
	for range api.MaxDeep {
		deep = list(deep)
	}
	var many []api.Value
	for i := range int64(api.MaxParts - 1) {
		many = append(many, num(i-1<<62))
	}
	for _, v := range []api.Value{deep, list(many...), set(many...), dict(many[1:]...), num(-1 << 63), num(1<<63 - 1)} {
		printed, e := text.Print(v)
		if back, f, at := text.Read(printed); e != api.OK || f != api.OK || at != 0 || !value.Equal(back, v) {
			t.Errorf("Read(%.80q): %v, %v, %d", printed, e, f, at)
		}
	}
	// A printed form may be longer than what is read.
	long := list(slices.Repeat([]api.Value{str(strings.Repeat("a", api.MaxText))}, api.MaxParts-1)...)
	printed, e := text.Print(long)
	if _, f, at := text.Read(printed); e != api.OK || f != api.ErrLong || at != 0 {
		t.Errorf("of %d bytes: %v, %v, %d", len(printed), e, f, at)
	}
}

// TestAnySmallText goes through all texts of a few pieces: what is read is right and read again as it was printed; where something is wrong, it is said where.
func TestAnySmallText(t *testing.T) {
	pieces := []string{"1", " ", "#", "_", "{", "}", "[", ")", "\"", "\\", ";", "\n", "-", "u"}
	var walk func(s string, left int)
	walk = func(s string, left int) {
		v, e, at := text.Read(s)
		if at < 0 || at > len(s) || e == api.OK && at != 0 || e != api.OK && !reflect.DeepEqual(v, api.Value{}) {
			t.Errorf("Read(%q): %v, %v, %d", s, v, e, at)
		}
		if e == api.OK {
			printed, f := text.Print(v)
			back, g, _ := text.Read(printed)
			if f != api.OK || g != api.OK || !value.Equal(back, v) {
				t.Errorf("Read(%q) is printed %q", s, printed)
			}
		}
		if words, f, _ := text.Words(s); e == api.OK && (f != api.OK || len(words) == 0) {
			t.Errorf("Words(%q): %q, %v", s, words, f)
		}
		for _, p := range pieces {
			if left > 0 {
				walk(s+p, left-1)
			}
		}
	}
	walk("", 5)
}

// TestBlanksSayNothing puts blanks, remarks and forms that are left out between all pieces, and turns square brackets into round ones.
func TestBlanksSayNothing(t *testing.T) {
	s := sample.New(2)
	between := []string{" ", ",", "\t", "\r\n", ";a \" ]\n", " #_ 1 ", ",#_[2 #_ 3]", " #_ #_ nil \"a\"", "\n#_#{1 2}"}
	for range 2000 {
		v := s.Value(4)
		printed, _ := text.Print(v)
		words, e, _ := text.Words(printed)
		if e != api.OK {
			t.Fatalf("Words(%q): %v", printed, e)
		}
		var b strings.Builder
		for _, w := range words {
			b.WriteString(between[s.Below(len(between))])
			b.WriteString(round(w))
		}
		b.WriteString(between[s.Below(len(between))])
		if back, e, at := text.Read(b.String()); e != api.OK || at != 0 || !value.Equal(back, v) {
			t.Fatalf("Read(%q): %v, %v, %d, wanted %v", b.String(), back, e, at, v)
		}
	}
}

// round is a piece, a square bracket as a round one.
func round(w string) string {
	switch w {
	case "[":
		return "("
	case "]":
		return ")"
	}
	return w
}

func TestAnyOrderOfItems(t *testing.T) {
	for _, c := range []struct{ a, b string }{{"#{1 \"a\" [2]}", "#{[2] 1 \"a\"}"}, {"{1 2 3 4 5 6}", "{5 6 1 2 3 4}"}} {
		v, e, _ := text.Read(c.a)
		w, f, _ := text.Read(c.b)
		if e != api.OK || f != api.OK || !value.Equal(v, w) {
			t.Errorf("%q and %q", c.a, c.b)
		}
	}
}

func TestPrintLeavesItsArgument(t *testing.T) {
	room := []api.Value{num(1), list(str("a")), num(7), num(8)}
	v := list(room[:2]...)
	v.Items = room[:2]
	want := []api.Value{num(1), list(str("a")), num(7), num(8)}
	if s, e := text.Print(v); e != api.OK || s != `[1 ["a"]]` || !reflect.DeepEqual(room, want) {
		t.Errorf("Print: %q, %v, and its argument: %v", s, e, room)
	}
}

func TestReadSharesNothing(t *testing.T) {
	in := `[[1 [2]] [1 [2]] #{[1] [2]} {1 [2] 3 [2]}]`
	first, _, _ := text.Read(in)
	again, _, _ := text.Read(in)
	spoil(again.Items)
	want, _ := text.Print(first)
	if want != in {
		t.Errorf("answers share memory: %q", want)
	}
	spoil(first.Items[0].Items)
	if s, e := text.Print(first.Items[1]); e != api.OK || s != "[1 [2]]" {
		t.Errorf("lists of one answer share memory: %q", s)
	}
	words, _, _ := text.Words("a b c")
	source := "a \"b\" [c"
	pieces, _, _ := text.Words(source)
	for _, p := range pieces {
		if within(p, source) {
			t.Errorf("the piece %q is the argument's memory", p)
		}
	}
	words[0] = "d"
	if l, _, _ := text.Words("a b c"); !slices.Equal(l, []string{"a", "b", "c"}) {
		t.Errorf("answers share memory: %q", l)
	}
}

// within tells whether a text lies in another one's memory.
func within(s, whole string) bool {
	at, from := uintptr(unsafe.Pointer(unsafe.StringData(s))), uintptr(unsafe.Pointer(unsafe.StringData(whole)))
	return at >= from && at < from+uintptr(len(whole))
}

// spoil writes over all memory that a list reaches, its spare room too.
func spoil(l []api.Value) {
	l = l[:cap(l)]
	for i := range l {
		spoil(l[i].Items)
		l[i] = str("spoilt")
	}
}

// short is what a failing test shows of something that may be long.
func short(x any) string {
	s := fmt.Sprint(x)
	return s[:min(len(s), 80)]
}
