package seq

import (
	"spinney/api"
	"spinney/cell"
)

// place is where a walk over a seq has come to: how many items it found, the cell behind them (it may be nil), the fuel that is left, or the error that ended it.
type place struct {
	n      int
	behind *cell.Cell
	left   int
	e      api.Errno
}

// walk forces cells, one behind the other, until so many items were found or one is empty, and hands on each item.
func walk(c *cell.Cell, most, fuel int, found func(api.Value)) place {
	to := place{behind: c, left: fuel}
cells:
	for to.n < most {
		first, rest, ok, left, e := cell.Force(to.behind, to.left)
		to.left, to.e = left, e
		if !ok {
			break cells
		}
		found(first)
		to.n, to.behind = to.n+1, rest
	}
	return to
}

// check is ErrArg, if a number of items or the fuel is out of its bounds.
func check(n, fuel int) api.Errno {
	if n < 0 || n > api.MaxLen || fuel < 0 || fuel > api.MaxFuel {
		return api.ErrArg
	}
	return api.OK
}
