package fns

import (
	"spinney/api"
	"spinney/value"
)

// function is a row of the functions of a right value.
type function struct {
	apply func(v api.Value) api.Value
}

func functions() []function {
	return []function{
		api.FnSame:  {same},
		api.FnInc:   {inc},
		api.FnNeg:   {neg},
		api.FnSize:  {size},
		api.FnFirst: {first},
		api.FnWrap:  {wrap},
		api.FnKind:  {kind},
		api.FnHalf:  {half},
	}
}

func number(n int64) api.Value { return api.Value{Kind: api.VInt, Num: n} }

func same(v api.Value) api.Value { return v }

func inc(v api.Value) api.Value {
	if v.Kind != api.VInt {
		return v
	}
	return number(v.Num + 1)
}

func neg(v api.Value) api.Value {
	if v.Kind != api.VInt {
		return v
	}
	return number(-v.Num)
}

func half(v api.Value) api.Value {
	if v.Kind != api.VInt {
		return v
	}
	return number(v.Num / 2)
}

func size(v api.Value) api.Value {
	switch v.Kind {
	case api.VStr:
		return number(runes(v.Text))
	case api.VMap:
		return number(int64(len(v.Items) / 2))
	}
	return number(int64(len(v.Items)))
}

func runes(s string) int64 {
	var n int64
	for range s {
		n++
	}
	return n
}

func first(v api.Value) api.Value {
	switch {
	case v.Kind == api.VStr:
		return firstRune(v.Text)
	case len(v.Items) == 0:
		return api.Value{}
	case v.Kind == api.VMap:
		return api.Value{Kind: api.VList, Items: v.Items[:2]}
	}
	return v.Items[0]
}

func firstRune(s string) api.Value {
	for _, r := range s {
		return api.Value{Kind: api.VStr, Text: string(r)}
	}
	return api.Value{}
}

func wrap(v api.Value) api.Value {
	wrapped, e := value.List([]api.Value{v})
	if e != api.OK {
		return api.Value{}
	}
	return wrapped
}

func kind(v api.Value) api.Value { return number(int64(v.Kind)) }
