package index

import (
	"maps"
	"slices"
)

// growing is a heading of the joined index. Its Places are those of the headings that
// went into it until now, in no order; so are names, and the Names in also.
type growing struct {
	Heading
	names, also [][]string
}

// join returns the joined index of the indices that have these headings.
func join(l []Heading) []Heading {
	to := belonging(l)
	heads := map[string]*growing{} // by their Names
	for _, h := range l {
		head := to[h.Name]
		if heads[head] == nil {
			heads[head] = &growing{Heading: Heading{Name: head}}
		}
		heads[head].take(h, to)
	}
	var list []Heading
	for _, head := range slices.SortedFunc(maps.Keys(heads), inOrder) {
		list = append(list, heads[head].grown())
	}
	return list
}

// belonging returns, for each name, the Name of its heading in the joined index: of the
// names that belong together, the first one that is the Name of a heading.
func belonging(l []Heading) map[string]string {
	links := map[string][]string{}
	var heads []string
	for _, h := range l {
		heads = append(heads, h.Name)
		for _, name := range h.Variants {
			links[h.Name] = append(links[h.Name], name)
			links[name] = append(links[name], h.Name)
		}
	}
	to := map[string]string{}
	var follow func(name, head string)
	follow = func(name, head string) {
		if _, done := to[name]; done {
			return
		}
		to[name] = head
		for _, other := range links[name] {
			follow(other, head)
		}
	}
	for _, head := range together(heads) {
		follow(head, head)
	}
	return to
}

// take lets the heading go into this one. In the place of each name of its Also is the
// Name of the heading to which that belongs.
func (g *growing) take(h Heading, to map[string]string) {
	var also []string
	for _, name := range h.Also {
		also = append(also, to[name])
	}
	g.names = append(g.names, slices.Collect(h.names()))
	g.also = append(g.also, also)
	g.Places = append(g.Places, h.Places...)
}

// grown returns the heading, as all have gone into it.
func (g *growing) grown() Heading {
	return Heading{g.Name, g.others(g.names...), g.others(g.also...), united(g.Places)}
}

// others returns the names of the lists, without the Name of the heading.
func (g *growing) others(lists ...[]string) []string {
	return slices.DeleteFunc(together(lists...), func(name string) bool { return name == g.Name })
}
