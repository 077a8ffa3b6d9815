package tok

import (
	"strings"

	"typecase/api"
)

// What stands at the two ends of a note that may go over lines.
const (
	noteAhead  = "/*"
	noteBehind = "*/"
)

// cutter of a text. It keeps what was looked for in vain: else a text of ends that are missing would be gone through anew at each of them.
type cutter struct {
	s string
	// noTextTo: at no place ahead of this one that is still to come does a KText begin.
	noTextTo int
	// noNoteEnd: the rest of s has no end of a note.
	noNoteEnd bool
}

// next token, which begins at this place: its kind, and its end.
func (c *cutter) next(at int) (int, int) {
	switch b := c.s[at]; {
	case isBlank(b):
		return api.KBlank, c.endOfRun(at, isBlank)
	case b == '\n':
		return api.KLine, at + 1
	case b == '#':
		return api.KNote, c.endOfLine(at)
	case inWord(b):
		return api.KWord, c.endOfRun(at, inWord)
	case isMark(b):
		return api.KMark, at + 1
	}
	if end, ok := c.endOfNote(at); ok {
		return api.KNote, end
	}
	if end, ok := c.endOfText(at); ok {
		return api.KText, end
	}
	return api.KBad, at + 1
}

// endOfRun of bytes that belong, from this place on.
func (c *cutter) endOfRun(at int, belongs func(byte) bool) int {
	for at < len(c.s) && belongs(c.s[at]) {
		at++
	}
	return at
}

// endOfLine in which this place is, its byte 10 not included.
func (c *cutter) endOfLine(at int) int {
	n := strings.IndexByte(c.s[at:], '\n')
	if n < 0 {
		return len(c.s)
	}
	return at + n
}

// endOfNote that may go over lines; false, if none begins at this place.
func (c *cutter) endOfNote(at int) (int, bool) {
	if c.noNoteEnd || !strings.HasPrefix(c.s[at:], noteAhead) {
		return 0, false
	}
	// Behind both bytes: the `*` that opens a note does not close it as well.
	from := at + len(noteAhead)
	n := strings.Index(c.s[from:], noteBehind)
	if n < 0 {
		c.noNoteEnd = true
		return 0, false
	}
	return from + n + len(noteBehind), true
}

// endOfText between quotes; false, if none begins at this place.
func (c *cutter) endOfText(at int) (int, bool) {
	if at < c.noTextTo || c.s[at] != '"' {
		return 0, false
	}
	end := at + 1
	for end < len(c.s) && c.s[end] != '\n' {
		switch {
		case c.s[end] == '"':
			return end + 1, true
		case c.s[end] == '\\' && end+1 < len(c.s) && c.s[end+1] != '\n':
			end++
		}
		end++
	}
	// Each `"` on this way was passed over, behind a `\`: going on from there is the same way, to the same end.
	c.noTextTo = end
	return 0, false
}

// isBlank: does this byte belong to blanks?
func isBlank(b byte) bool {
	return b == ' ' || b == '\t' || b == '\r'
}

// inWord: does this byte belong to words?
func inWord(b byte) bool {
	switch b {
	case '_', '-', '+', '.':
		return true
	}
	return 'a' <= b && b <= 'z' || 'A' <= b && b <= 'Z' || '0' <= b && b <= '9'
}

// isMark: is this byte a mark?
func isMark(b byte) bool {
	switch b {
	case '{', '}', '[', ']', ':', '=', ',':
		return true
	}
	return false
}
