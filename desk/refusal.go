package desk

import (
	"strconv"

	"spinney/api"
	"spinney/text"
)

// refusal is the line that a command tells when it gives up.
type refusal string

// attempt is what some work of a command tells; if it gives up, the line that it tells instead, which is never empty.
func attempt[T any](work func() T) (told T, refused string) {
	defer func() {
		switch gave := recover().(type) {
		case nil:
		case refusal:
			refused = string(gave)
		default:
			panic(gave)
		}
	}()
	return work(), ""
}

// giveUp ends a command with an error's number.
func giveUp(e api.Errno) { panic(refusal("error " + strconv.Itoa(int(e)))) }

// sure is what a call tells; the command gives up, if it tells an error.
func sure[T any](told T, e api.Errno) T {
	if e != api.OK {
		giveUp(e)
	}
	return told
}

// ask gives up, if a value is not as the command's row says.
func ask(is bool) {
	if !is {
		giveUp(api.ErrArg)
	}
}

// read is a command's value; the command gives up, if it can't be read.
func (c command) read() api.Value {
	v, e, place := text.Read(c.value)
	if e != api.OK {
		panic(refusal("wrong " + strconv.Itoa(int(e)) + " " + strconv.Itoa(place)))
	}
	return v
}

// record is the step of the heap that a command is.
func (c command) record() api.Record {
	r := api.Record{Op: c.row.op, Args: c.args}
	if c.row.valued {
		r.Val = c.read()
	}
	return r
}

// printed is the printed form of a right value.
func printed(v api.Value) string { return sure(text.Print(v)) }
