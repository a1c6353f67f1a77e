package lazy

import (
	"spinney/api"
	"spinney/cell"
	"spinney/rule"
	"spinney/seq"
)

// maxPlans is how many plans a plan may have in all.
const maxPlans = 64

// maker makes the seq that a plan says of those that its subs say; an error, if one of the fields that it takes is not right.
type maker func(p api.Plan, subs []*cell.Cell) (*cell.Cell, api.Errno)

// row is what is to be known of a kind of plan: which fields it names, of how many subs it is, how its seq is made.
type row struct {
	fn, n, val, list bool
	least, most      int
	build            maker
}

// kinds are the rows, in the order of the kinds' numbers.
func kinds() []row {
	return []row{
		api.PlanList:  {list: true, build: func(p api.Plan, _ []*cell.Cell) (*cell.Cell, api.Errno) { return seq.List(p.List) }},
		api.PlanIter:  {fn: true, val: true, build: func(p api.Plan, _ []*cell.Cell) (*cell.Cell, api.Errno) { return cell.Iter(p.Fn, p.Val) }},
		api.PlanMap:   {fn: true, least: 1, most: 1, build: byFunction(Map)},
		api.PlanKeep:  {fn: true, least: 1, most: 1, build: byFunction(Keep)},
		api.PlanTake:  {n: true, least: 1, most: 1, build: byNumber(Take)},
		api.PlanDrop:  {n: true, least: 1, most: 1, build: byNumber(Drop)},
		api.PlanJoin:  {most: maxCells, build: func(_ api.Plan, subs []*cell.Cell) (*cell.Cell, api.Errno) { return Join(subs) }},
		api.PlanParts: {n: true, least: 1, most: 1, build: byNumber(Parts)},
		api.PlanWhile: {fn: true, least: 1, most: 1, build: byFunction(While)},
		api.PlanTurn:  {most: maxCells, build: func(_ api.Plan, subs []*cell.Cell) (*cell.Cell, api.Errno) { return Turn(subs) }},
		api.PlanCycle: {list: true, build: func(p api.Plan, _ []*cell.Cell) (*cell.Cell, api.Errno) { return Cycle(p.List) }},
		api.PlanSteps: {fn: true, val: true, least: 1, most: 1, build: func(p api.Plan, subs []*cell.Cell) (*cell.Cell, api.Errno) { return Steps(p.Fn, p.Val, subs[0]) }},
	}
}

// byFunction makes a seq of a function, or a question, and one seq.
func byFunction(of func(fn int, c *cell.Cell) (*cell.Cell, api.Errno)) maker {
	return func(p api.Plan, subs []*cell.Cell) (*cell.Cell, api.Errno) { return of(p.Fn, subs[0]) }
}

// byNumber makes a seq of a number and one seq.
func byNumber(of func(n int, c *cell.Cell) (*cell.Cell, api.Errno)) maker {
	return func(p api.Plan, subs []*cell.Cell) (*cell.Cell, api.Errno) { return of(p.N, subs[0]) }
}

// fits tells whether a plan has as many subs as its kind asks for, and nothing in the fields that its kind does not name.
func (r row) fits(p api.Plan) bool {
	subs := len(p.Subs) >= r.least && len(p.Subs) <= r.most
	return subs && (r.fn || p.Fn == 0) && (r.n || p.N == 0) && (r.val || isZero(p.Val)) && (r.list || len(p.List) == 0)
}

// isZero tells whether nothing lies in a value: a list without an element may be nil or empty.
func isZero(v api.Value) bool {
	return v.Kind == 0 && v.Num == 0 && v.Text == "" && len(v.Items) == 0
}

// builder builds a plan with all those in it, and counts them.
type builder struct{ plans int }

// build is the seq of a plan that lies so deep in others. Whether its own fields are right is found by making it, which forces nothing.
func (b *builder) build(p api.Plan, deep int) (*cell.Cell, bool) {
	b.plans++
	if b.plans > maxPlans || deep > api.MaxDeep {
		return nil, false
	}
	r, e := rule.Row(kinds(), p.Kind)
	if e != api.OK || !r.fits(p) {
		return nil, false
	}
	var subs []*cell.Cell
	for _, sub := range p.Subs {
		c, ok := b.build(sub, deep+1)
		if !ok {
			return nil, false
		}
		subs = append(subs, c)
	}
	c, e := r.build(p, subs)
	return c, e == api.OK
}
