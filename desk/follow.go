package desk

import (
	"cmp"
	"strconv"
	"strings"

	"palantype/api"
	"palantype/tally"
	"palantype/veil"
	"palantype/volume"
)

// What stands in a report, and in what is shown.
const (
	lineFeed = "\n"
	mark     = "#" // where a number of a report stands
	gap      = "*" // what is shown of a gap
)

// columns is how many pieces a column has of what is shown.
const columns = 5

// bars returns the numbers of those lines ahead of the last one that bar it.
func bars(ahead []string, last string) []int {
	// passes reports whether the last line is accepted if a session goes on from this line.
	passes := func(s session, from int) bool {
		for _, line := range ahead[from:] {
			s.do(line)
		}
		return s.do(last) == api.OK
	}
	var s session
	if passes(s, 0) {
		return nil
	}
	var list []int
	for i, line := range ahead {
		without := s // the session that leaves this line out
		if s.do(line) == api.OK && passes(without, i+1) {
			list = append(list, i)
		}
	}
	return list
}

// said returns the paragraphs that the volume, or the draft, has after the Day. A state has
// nothing that volume.Read refuses, and a draft has no errata.
func (s session) said() []volume.Paragraph {
	paragraphs, _ := volume.Read(s.looked(), s.Errata, s.Day)
	return paragraphs
}

// veiled returns the report whose words are the anchors of what is said, with an order for
// each that is hidden.
func (s session) veiled() veil.Report {
	said := s.said()
	r := veil.Report{Columns: columns}
	for _, p := range said {
		r.Words = append(r.Words, veil.Word{Text: strconv.Itoa(p.Anchor)})
	}
hides:
	for _, h := range s.Hides {
		for i, p := range said {
			if p.Anchor == h.Anchor {
				r.Orders = append(r.Orders, veil.Order{From: i, To: i + 1, Kind: h.Kind, Until: h.Until})
				continue hides
			}
		}
	}
	return r
}

// shown returns the texts of the pieces; a gap has none of its own.
func shown(pieces []veil.Piece) []string {
	var texts []string
	for _, p := range pieces {
		texts = append(texts, cmp.Or(p.Text, gap))
	}
	return texts
}

// row returns a line of a report, with the numbers where its marks are.
func row(pattern string, numbers ...int) string {
	for _, n := range numbers {
		pattern = strings.Replace(pattern, mark, strconv.Itoa(n), 1)
	}
	return pattern + lineFeed
}

// report returns the report.
func (s session) report() string {
	text := row("day # house #", s.Day, s.House) + s.ofVolume()
	if s.Moved {
		text += row("motion # papers # adopted #", len(s.Motion.Words), len(s.Motion.Papers), len(s.Choice))
	}
	if s.Open {
		text += row("open")
	}
	for _, outcome := range s.Results {
		text += row(nameOf(outcome))
	}
	for _, cite := range s.Cites {
		text += row(cite)
	}
	return text
}

// ofVolume returns what a report has of the volume, or of the draft.
func (s session) ofVolume() string {
	if !s.Bound {
		return row("draft #", len(s.said()))
	}
	text := row("volume # errata #", s.Volume.Number, len(s.Errata))
	places, _ := volume.Print(s.Volume, s.Errata) // which refuses nothing of a state
	for _, p := range places {
		text += row("# #.# #", p.Anchor, p.Column, p.Line, p.Lines)
	}
	return text
}

// nameOf returns the name of the outcome.
func nameOf(outcome uint8) string {
	return [...]string{tally.Lost: "lost", tally.Carried: "carried", tally.Void: "void"}[outcome]
}
