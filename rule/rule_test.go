package rule_test

import (
	"slices"
	"strconv"
	"strings"
	"testing"
	"unsafe"

	"spinney/api"
	"spinney/rule"
	"spinney/sample"
)

// R1
func TestRow(t *testing.T) {
	table := []string{"a", "b", "c"}
	for i, want := range table {
		if got, e := rule.Row(table, i); got != want || e != api.OK {
			t.Errorf("Row(%d): %q, %v", i, got, e)
		}
	}
	for _, i := range sample.Beyond(2) {
		if got, e := rule.Row(table, i); got != "" || e != api.ErrKind {
			t.Errorf("Row(%d): %q, %v", i, got, e)
		}
	}
	if got, e := rule.Row([]string(nil), 0); got != "" || e != api.ErrKind {
		t.Errorf("Row of no table: %q, %v", got, e)
	}
}

// R1: the length first, then the first member that is wrong.
func TestCheckAll(t *testing.T) {
	itself := func(e api.Errno) api.Errno { return e }
	long := make([]api.Errno, api.MaxLen+1)
	for _, c := range []struct {
		l    []api.Errno
		want api.Errno
	}{
		{nil, api.OK}, {[]api.Errno{}, api.OK}, {[]api.Errno{0}, api.OK}, {long[1:], api.OK}, {long, api.ErrLong},
		{[]api.Errno{0, 5, 3}, 5}, {[]api.Errno{3, 5}, 3}, {append(long[2:], 7), 7}, {append(long[1:], 7), api.ErrLong},
	} {
		if e := rule.CheckAll(c.l, itself); e != c.want {
			t.Errorf("CheckAll of %d: %v, want %v", len(c.l), e, c.want)
		}
	}
}

// R1: of each pair the key ahead of the value.
func TestCheckPairs(t *testing.T) {
	byNumber := func(v api.Value) api.Errno { return api.Errno(v.Num) }
	pair := func(k, v int64) api.Pair { return api.Pair{Key: sample.Num(k), Val: sample.Num(v)} }
	long := make([]api.Pair, api.MaxLen+1)
	for _, c := range []struct {
		l    []api.Pair
		want api.Errno
	}{
		{nil, api.OK}, {[]api.Pair{}, api.OK}, {long[1:], api.OK}, {long, api.ErrLong}, {append(long[1:], pair(7, 8)), api.ErrLong},
		{[]api.Pair{pair(0, 0), pair(5, 6), pair(7, 8)}, 5}, {[]api.Pair{pair(0, 6), pair(7, 8)}, 6}, {[]api.Pair{pair(0, 0), pair(0, 0), pair(0, 9)}, 9},
	} {
		if e := rule.CheckPairs(c.l, byNumber); e != c.want {
			t.Errorf("CheckPairs of %d: %v, want %v", len(c.l), e, c.want)
		}
	}
}

// Chapters 1 and 7: each key has the value of the last pair that has it.
func TestLastOfEach(t *testing.T) {
	byFirst := func(a, b string) int { return strings.Compare(a[:1], b[:1]) }
	for _, c := range []struct{ l, want []string }{
		{nil, nil}, {[]string{}, nil}, {[]string{"a1"}, []string{"a1"}}, {[]string{"a1", "a2", "a0"}, []string{"a0"}},
		{[]string{"c1", "a1", "b1", "a2", "c0"}, []string{"a2", "b1", "c0"}}, {[]string{"b", "a"}, []string{"a", "b"}},
	} {
		was := slices.Clone(c.l)
		if got := rule.LastOfEach(c.l, byFirst); !slices.Equal(got, c.want) || !slices.Equal(c.l, was) {
			t.Errorf("LastOfEach(%v): %v, and %v", was, got, c.l)
		}
	}
	var many []string
	for i := range 1000 {
		many = append(many, string(rune('a'+i%7))+strconv.Itoa(i))
	}
	want := []string{"a994", "b995", "c996", "d997", "e998", "f999", "g993"}
	if got := rule.LastOfEach(many, byFirst); !slices.Equal(got, want) {
		t.Errorf("LastOfEach of many: %v", got)
	}
}

// R3
func TestCopy(t *testing.T) {
	s := sample.New(1)
	for range 500 {
		v := sample.Roomy(s.Value(4))
		want := sample.Roomy(v)
		got := rule.Copy(v)
		if !sample.Same(got, want) || cap(got.Items) != len(got.Items) {
			t.Fatalf("Copy(%v): %v", want, got)
		}
		sample.Spoil(v.Items)
		if !sample.Same(got, want) {
			t.Fatalf("Copy(%v) shares memory", want)
		}
	}
	if l := rule.CopyAll([]api.Value{}); len(l) != 0 || cap(l) != 0 {
		t.Errorf("CopyAll of none: %v", l)
	}
}

// R3: lists that share memory share none in the copy.
func TestCopyParts(t *testing.T) {
	part := sample.List(sample.Num(1), sample.List(sample.Num(2)))
	l := rule.CopyAll([]api.Value{part, part})
	sample.Spoil(l[0].Items)
	if !sample.Same(l[1], part) || !sample.Same(part, sample.List(sample.Num(1), sample.List(sample.Num(2)))) {
		t.Errorf("CopyAll: %v of %v", l, part)
	}
}

func TestCopyText(t *testing.T) {
	long := strings.Repeat("a", api.MaxText)
	v := rule.Copy(sample.Str(long))
	if v.Text != long || unsafe.StringData(v.Text) == unsafe.StringData(long) {
		t.Errorf("the text is not new memory: %q", v.Text)
	}
}

// Chapter 1: at most MaxParts parts, at most MaxDeep deep; what is far beyond costs no more.
func TestFits(t *testing.T) {
	wide := sample.List(sample.Numbers(api.MaxParts)...)
	great := sample.Num(1)
	for range api.MaxDeep {
		great = sample.List(slices.Repeat([]api.Value{great}, 1000)...)
	}
	for i, c := range []struct {
		v    api.Value
		want bool
	}{
		{api.Value{}, true}, {sample.List(), true}, {sample.Bool(7), true}, {sample.Nested(api.MaxDeep, sample.Num(1)), true}, {sample.Nested(api.MaxDeep, sample.List()), true}, {sample.Nested(api.MaxDeep+1, sample.Num(1)), false}, {sample.Nested(1<<16, sample.Num(1)), false},
		{sample.List(wide.Items[1:]...), true}, {wide, false}, {sample.List(sample.List(wide.Items[:500]...), sample.Map(wide.Items[:521]...)), true}, {sample.List(sample.List(wide.Items[:500]...), sample.Map(wide.Items[:522]...)), false}, {great, false},
	} {
		if rule.Fits(c.v) != c.want {
			t.Errorf("%d: Fits: %v", i, !c.want)
		}
	}
}
