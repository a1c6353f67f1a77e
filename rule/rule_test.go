package rule_test

import (
	"math"
	"strings"
	"testing"
	"unsafe"

	"spinney/api"
	"spinney/rule"
	"spinney/sample"
)

// R1
func TestRow(t *testing.T) {
	table := []string{"a", "b", "c"}
	for i, want := range table {
		if got, e := rule.Row(table, i); got != want || e != api.OK {
			t.Errorf("Row(%d): %q, %v", i, got, e)
		}
	}
	for _, i := range []int{-1, 3, 4, 1 << 32, math.MinInt, math.MaxInt} {
		if got, e := rule.Row(table, i); got != "" || e != api.ErrKind {
			t.Errorf("Row(%d): %q, %v", i, got, e)
		}
	}
	if got, e := rule.Row([]string(nil), 0); got != "" || e != api.ErrKind {
		t.Errorf("Row of no table: %q, %v", got, e)
	}
}

// R1: the length first, then the first member that is wrong.
func TestCheckAll(t *testing.T) {
	itself := func(e api.Errno) api.Errno { return e }
	long := make([]api.Errno, api.MaxLen+1)
	for _, c := range []struct {
		l    []api.Errno
		want api.Errno
	}{
		{nil, api.OK}, {[]api.Errno{}, api.OK}, {[]api.Errno{0}, api.OK}, {long[1:], api.OK}, {long, api.ErrLong},
		{[]api.Errno{0, 5, 3}, 5}, {[]api.Errno{3, 5}, 3}, {append(long[2:], 7), 7}, {append(long[1:], 7), api.ErrLong},
	} {
		if e := rule.CheckAll(c.l, itself); e != c.want {
			t.Errorf("CheckAll of %d: %v, want %v", len(c.l), e, c.want)
		}
	}
}

// R3
func TestCopy(t *testing.T) {
	s := sample.New(1)
	for range 500 {
		v := sample.Roomy(s.Value(4))
		want := sample.Roomy(v)
		got := rule.Copy(v)
		if !sample.Same(got, want) || cap(got.Items) != len(got.Items) {
			t.Fatalf("Copy(%v): %v", want, got)
		}
		sample.Spoil(v.Items)
		if !sample.Same(got, want) {
			t.Fatalf("Copy(%v) shares memory", want)
		}
	}
	if l := rule.CopyAll([]api.Value{}); len(l) != 0 || cap(l) != 0 {
		t.Errorf("CopyAll of none: %v", l)
	}
}

// R3: lists that share memory share none in the copy.
func TestCopyParts(t *testing.T) {
	part := sample.List(sample.Num(1), sample.List(sample.Num(2)))
	l := rule.CopyAll([]api.Value{part, part})
	sample.Spoil(l[0].Items)
	if !sample.Same(l[1], part) || !sample.Same(part, sample.List(sample.Num(1), sample.List(sample.Num(2)))) {
		t.Errorf("CopyAll: %v of %v", l, part)
	}
}

func TestCopyText(t *testing.T) {
	long := strings.Repeat("a", api.MaxText)
	v := rule.Copy(sample.Str(long))
	if v.Text != long || unsafe.StringData(v.Text) == unsafe.StringData(long) {
		t.Errorf("the text is not new memory: %q", v.Text)
	}
}
