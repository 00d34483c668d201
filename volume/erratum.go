package volume

import (
	"cmp"
	"iter"
	"maps"
	"slices"
)

// inOrder compares errata by their Day, and then by their Number.
func inOrder(x, y Erratum) int {
	return cmp.Or(cmp.Compare(x.Day, y.Day), cmp.Compare(x.Number, y.Number))
}

// merged returns all errata of the lists in their order, each once; fits tells
// whether no two that are not the same have the same Number.
func merged(lists ...[]Erratum) (list []Erratum, fits bool) {
	kept := map[int]Erratum{} // by Number
	for _, x := range slices.Concat(lists...) {
		if other, has := kept[x.Number]; has && other != x {
			return nil, false
		}
		kept[x.Number] = x
	}
	return slices.SortedFunc(maps.Values(kept), inOrder), true
}

// issued gives the errata whose Day is not behind the day, in their order.
func issued(errata []Erratum, day int) iter.Seq[Erratum] {
	return func(yield func(Erratum) bool) {
		for _, x := range slices.SortedFunc(slices.Values(errata), inOrder) {
			if x.Day > day || !yield(x) {
				return
			}
		}
	}
}

// kind is a kind of errata: whether Text and New fit it, and what it does.
type kind struct {
	fits func(Erratum) bool
	do   func(*book, Erratum)
}

// kinds returns what each Kind is.
func kinds() [3]kind {
	return [...]kind{
		Change: {
			fits: func(x Erratum) bool { return validText(x.Text) && x.New == 0 },
			do:   (*book).change,
		},
		Remove: {
			fits: func(x Erratum) bool { return x.Text == "" && x.New == 0 },
			do:   (*book).remove,
		},
		Add: {
			fits: func(x Erratum) bool { return x.added().valid() },
			do:   (*book).add,
		},
	}
}

// added returns the paragraph that an erratum of the Kind Add adds.
func (x Erratum) added() Paragraph { return Paragraph{x.New, x.Text} }
