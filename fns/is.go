package fns

import "spinney/api"

// question is a row of the questions of a right value.
type question struct {
	holds func(v api.Value) bool
}

func questions() []question {
	return []question{
		api.IsAll:  {always},
		api.IsNone: {never},
		api.IsInt:  {isInt},
		api.IsEven: {isEven},
		api.IsPos:  {isPos},
		api.IsText: {isText},
		api.IsColl: {isColl},
		api.IsNil:  {isNil},
	}
}

func always(api.Value) bool { return true }

func never(api.Value) bool { return false }

func isInt(v api.Value) bool { return v.Kind == api.VInt }

func isEven(v api.Value) bool { return isInt(v) && v.Num%2 == 0 }

func isPos(v api.Value) bool { return isInt(v) && v.Num > 0 }

func isText(v api.Value) bool { return v.Kind == api.VStr }

func isColl(v api.Value) bool {
	return v.Kind == api.VList || v.Kind == api.VSet || v.Kind == api.VMap
}

func isNil(v api.Value) bool { return v.Kind == api.VNil }
