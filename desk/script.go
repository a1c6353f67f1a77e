package desk

import (
	"strconv"
	"strings"

	"spinney/api"
	"spinney/heap"
)

// command is a line that is one: its row, its arguments, and the text of its value.
type command struct {
	row   row
	args  []int
	value string
}

// parse are a script's commands; else what is wrong, and the number of the first line that is neither a note nor a command.
func parse(script string) ([]command, int, api.Errno) {
	if len(script) > api.MaxSource {
		return nil, 0, api.ErrLong
	}
	lines := linesOf(script)
	if len(lines) > MaxLines {
		return nil, 0, api.ErrLong
	}
	table := rows()
	var out []command
	for i, line := range lines {
		if isNote(line) {
			continue
		}
		c, ok := commandOf(line, table)
		if !ok {
			return nil, i + 1, api.ErrForm
		}
		out = append(out, c)
	}
	return out, 0, api.OK
}

// linesOf are a script's lines, without the bytes that end them. (An empty script has an empty one, which is a note.)
func linesOf(script string) []string {
	return strings.Split(strings.TrimSuffix(script, "\n"), "\n")
}

func isNote(line string) bool { return line == "" || line[0] == ';' }

// commandOf is the command that a line is, if it is one.
func commandOf(line string, table map[string]row) (command, bool) {
	name, behind := word(line)
	r, ok := table[name]
	if !ok {
		return command{}, false
	}
	c := command{row: r}
	for _, kind := range r.args {
		var arg string
		arg, behind = word(behind)
		n, ok := argument(kind, arg)
		if !ok {
			return command{}, false
		}
		c.args = append(c.args, n)
	}
	if !r.valued {
		return c, pastBlanks(behind) == ""
	}
	// One blank alone is none of the value's, since the places of what is wrong with it count from there.
	c.value = strings.TrimPrefix(behind, " ")
	return c, true
}

// pastBlanks is a text from the first byte on that is no blank.
func pastBlanks(s string) string { return strings.TrimLeft(s, " ") }

// word is a text's first word, and what is behind it, from the blank on that ends it. (A text of blanks alone has an empty one, which says nothing.)
func word(s string) (string, string) {
	s = pastBlanks(s)
	at := strings.IndexByte(s, ' ')
	if at < 0 {
		return s, ""
	}
	return s[:at], s[at:]
}

// argument is the number that a word says as an argument of a kind, if it says one.
func argument(kind rune, s string) (int, bool) {
	if kind == kindArg {
		n, ok := kinds()[s]
		return n, ok
	}
	n, err := strconv.ParseInt(s, 10, 32)
	// Written again, since a number has one form alone; the least one of 32 bits is none, since its opposite is too great.
	if err != nil || strconv.FormatInt(n, 10) != s || n == -1<<31 {
		return 0, false
	}
	return int(n), true
}

// kinds are the words that say kinds of handles.
func kinds() map[string]int {
	return map[string]int{
		"map":    heap.HMap,
		"set":    heap.HSet,
		"vec":    heap.HVec,
		"sorted": heap.HSorted,
		"sorts":  heap.HSorts,
		"deque":  heap.HDeque,
		"queue":  heap.HQueue,
		"multi":  heap.HMulti,
		"bimap":  heap.HBimap,
	}
}
