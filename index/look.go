package index

import (
	"maps"
	"slices"
)

// lead returns the heading to which the name leads, and whether there is one.
func lead(l []Heading, name string) (found Heading, leads bool) {
search:
	for _, h := range l {
		for other := range h.names() {
			if other == name {
				found, leads = h, true
				break search
			}
		}
	}
	return found, leads
}

// those returns the Names of the headings that fit.
func those(l []Heading, fits func(Heading) bool) []string {
	var list []string
	for _, h := range l {
		if fits(h) {
			list = append(list, h.Name)
		}
	}
	return list
}

// under returns the Names of the headings under which the column stands.
func under(l []Heading, s spot) []string {
	has := func(p Place) bool { return p.has(s) }
	return those(l, func(h Heading) bool { return slices.ContainsFunc(h.Places, has) })
}

// related returns the Names of the headings that are related to the first one in at
// most so many steps.
func related(l []Heading, first Heading, steps int) []string {
	found := map[string]bool{first.Name: true}
	for range steps {
		next := maps.Clone(found)
		for _, h := range l {
			for _, name := range h.Also {
				next[name] = next[name] || found[h.Name]
			}
		}
		found = next
	}
	return those(l, func(h Heading) bool { return found[h.Name] })
}
