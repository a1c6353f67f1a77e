package text

import (
	"strings"
	"unicode/utf8"

	"spinney/api"
)

// blanks are the letters that part forms and say nothing; wordEnds are those that no word has.
const (
	blanks   = " \t\n\r,"
	wordEnds = blanks + ";\"()[]{}"
)

// fault is what is wrong, and where; its zero value says that nothing is.
type fault struct {
	code api.Errno
	at   int
}

// piece is a word, a quoted text, a mark or a fault; nil at the text's end.
type piece any

// word is a run of letters as it is spelt.
type word string

// quoted is a text as it reads.
type quoted string

// mark is a bracket of either side, #{ , #_ or # alone.
type mark string

// token is a piece and its first byte's place.
type token struct {
	at   int
	what piece
}

// scanner goes through a text of right letters, piece by piece. A fault is handed on as a piece, since what is wrong with a form's place in the whole is asked ahead of what is wrong in it.
type scanner struct {
	source string
	at     int
}

// checkSource tells what is asked of a whole text ahead of its forms.
func checkSource(s string) fault {
	if len(s) > api.MaxSource {
		return fault{code: api.ErrLong}
	}
	if at := wrongByte(s); at >= 0 {
		return fault{code: api.ErrUtf, at: at}
	}
	return fault{}
}

// wrongByte is the place of the first byte that begins no letter, -1 if there is none. A range tells the replacement letter for such a byte, but a text may also hold that letter.
func wrongByte(s string) int {
	for i, r := range s {
		if r == utf8.RuneError && !strings.HasPrefix(s[i:], "\uFFFD") {
			return i
		}
	}
	return -1
}

// next is the piece behind blanks and remarks.
func (s *scanner) next() token {
	s.skipBlanks()
	t := token{at: s.at}
	if s.at == len(s.source) {
		return t
	}
	switch s.source[s.at] {
	case '"':
		t.what = s.text()
	case '(', ')', '[', ']', '{', '}':
		t.what = s.mark(1)
	case '#':
		t.what = s.mark(s.hashLength())
	default:
		t.what = s.word()
	}
	return t
}

func (s *scanner) skipBlanks() {
	remark := false
	for i, r := range s.source[s.at:] {
		switch {
		case remark:
			remark = r != '\n'
		case r == ';':
			remark = true
		case !strings.ContainsRune(blanks, r):
			s.at += i
			return
		}
	}
	s.at = len(s.source)
}

func (s *scanner) mark(length int) piece {
	from := s.at
	s.at += length
	return mark(s.source[from:s.at])
}

func (s *scanner) hashLength() int {
	rest := s.source[s.at:]
	if strings.HasPrefix(rest, "#{") || strings.HasPrefix(rest, "#_") {
		return 2
	}
	return 1
}

func (s *scanner) word() piece {
	from := s.at
	for i, r := range s.source[from:] {
		if strings.ContainsRune(wordEnds, r) {
			s.at = from + i
			return word(s.source[from:s.at])
		}
	}
	s.at = len(s.source)
	return word(s.source[from:])
}

// text goes on behind the closing quote; at a fault it stays, since nothing is read behind one.
func (s *scanner) text() piece {
	var b strings.Builder
	inside := s.at + 1
	behindEscape := 0
	for i, r := range s.source[inside:] {
		if i < behindEscape {
			continue
		}
		if r == '"' {
			s.at = inside + i + 1
			return quoted(b.String())
		}
		if r == '\\' {
			letter, length, e := escape(s.source[inside+i:])
			if e == api.ErrEscape {
				return fault{code: e, at: inside + i}
			}
			if e == api.ErrEnd {
				break
			}
			r, behindEscape = letter, i+length
		}
		b.WriteRune(r)
	}
	return fault{code: api.ErrEnd, at: len(s.source)}
}

// escape is the letter that s begins with, written with a \ , and how many bytes that takes.
func escape(s string) (rune, int, api.Errno) {
	if len(s) == 1 {
		return 0, 0, api.ErrEnd
	}
	switch s[1] {
	case '"', '\\':
		return rune(s[1]), 2, api.OK
	case 'n':
		return '\n', 2, api.OK
	case 't':
		return '\t', 2, api.OK
	case 'r':
		return '\r', 2, api.OK
	case 'u':
		r, e := fourDigits(s[2:])
		return r, 6, e
	}
	return 0, 0, api.ErrEscape
}

// fourDigits is the letter whose number stands at the front of s.
func fourDigits(s string) (rune, api.Errno) {
	var letter rune
	count := 0
	for _, r := range s {
		digit := hexDigit(r)
		if digit < 0 {
			return 0, api.ErrEscape
		}
		letter = letter*16 + digit
		count++
		if count == 4 {
			break
		}
	}
	if count < 4 {
		return 0, api.ErrEnd
	}
	if !utf8.ValidRune(letter) {
		return 0, api.ErrEscape
	}
	return letter, api.OK
}

// hexDigit is what a digit counts, -1 if it is none.
func hexDigit(r rune) rune {
	switch {
	case r >= '0' && r <= '9':
		return r - '0'
	case r >= 'a' && r <= 'f':
		return r - 'a' + 10
	case r >= 'A' && r <= 'F':
		return r - 'A' + 10
	}
	return -1
}
