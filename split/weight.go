package split

import (
	"spinney/api"
	"spinney/finger"
)

// Weight is the weight of a deque's items.
func Weight(d *finger.Deque) int64 { return d.Whole().Weight() }

// Find is the first place up to which the weight is above a number.
func Find(d *finger.Deque, w int64) (int, bool, api.Errno) {
	if w < 0 {
		return 0, false, api.ErrArg
	}
	if w >= Weight(d) {
		return 0, false, api.OK
	}
	return placeIn(d.Whole(), w), true, api.OK
}

// Heavy are the items ahead of that place, and the others.
func Heavy(d *finger.Deque, w int64) (*finger.Deque, *finger.Deque, api.Errno) {
	at, there, e := Find(d, w)
	if e != api.OK {
		return nil, nil, e
	}
	if !there {
		at = d.Len()
	}
	return d.Cut(at)
}

// placeIn is the first place of a part up to which the weight is above a number; that of the whole part is. What is too light as a whole is passed by, so the way goes down to one item.
func placeIn(p finger.Part, w int64) int {
	ahead := 0
	for _, below := range p.Parts() {
		if below.Weight() > w {
			return ahead + placeIn(below, w)
		}
		ahead += below.Len()
		w -= below.Weight()
	}
	return ahead
}
