package show

import "strings"

// indent of a line, for each list and table that it is in.
const indent = "  "

// page that is written on. It knows of lines, and of nothing that stands on them.
type page struct {
	text strings.Builder
	// within: how many lists and tables are open.
	within int
}

func (g *page) write(s string) {
	g.text.WriteString(s)
}

// endLine without beginning another one.
func (g *page) endLine() {
	g.write("\n")
}

// newLine as far in as what is open asks for.
func (g *page) newLine() {
	g.endLine()
	g.write(strings.Repeat(indent, g.within))
}
