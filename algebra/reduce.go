package algebra

import (
	"spinney/api"
	"spinney/fns"
)

// checkReduction tells what rule R1 finds wrong first in what a reduction is given.
func checkReduction(fn int, first api.Value, l []api.Value) api.Errno {
	// Nothing is done with what Two makes of them: it looks at the function and at first, in that order.
	if _, _, e := fns.Two(fn, first, api.Value{}); e != api.OK {
		return e
	}
	return checkList(l)
}

// reduce hands on what comes of each member that is taken, in new memory. It is the one loop of Reduce and Steps, so that both stop at the same member.
func reduce(fn int, last api.Value, l []api.Value, came func(api.Value)) {
members:
	for _, member := range l {
		// All of them were found right: there is no error.
		next, stops, _ := fns.Two(fn, last, member)
		came(next)
		if stops {
			break members
		}
		last = next
	}
}
