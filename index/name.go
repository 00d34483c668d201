package index

import (
	"cmp"
	"iter"
	"slices"
	"strings"

	"palantype/api"
)

// validName reports whether the text is a name.
func validName(text string) bool {
	return within(len(text), 1, api.MaxHeading) && all([]byte(text), mayBeInName) &&
		strings.Trim(text, " ") == text && !strings.Contains(text, "  ")
}

// mayBeInName reports whether a name may have the byte. Those that stand between the
// names of a file are not in any.
func mayBeInName(b byte) bool {
	return within(int(b), ' ', '~') && !strings.Contains(",:;=", string(b))
}

// key returns the letters of the text, small ones, and its digits.
func key(text string) string {
	var list []byte
	for _, b := range []byte(text) {
		switch n := int(b); {
		case within(n, 'A', 'Z'):
			list = append(list, b-'A'+'a')
		case within(n, 'a', 'z'), within(n, '0', '9'):
			list = append(list, b)
		}
	}
	return string(list)
}

// inOrder compares texts by their keys, and those with the same key by themselves.
func inOrder(a, b string) int {
	return cmp.Or(cmp.Compare(key(a), key(b)), cmp.Compare(a, b))
}

// sorted returns the elements of the list in the order, each once.
func sorted[T comparable](list []T, order func(a, b T) int) []T {
	return slices.Compact(slices.SortedFunc(slices.Values(list), order))
}

// rises reports whether each element comes before the next one in the order.
func rises[T any](list []T, order func(a, b T) int) bool {
	for i := 1; i < len(list); i++ {
		if order(list[i-1], list[i]) >= 0 {
			return false
		}
	}
	return true
}

// together returns the names of all the lists in their order, each once.
func together(lists ...[]string) []string {
	return sorted(slices.Concat(lists...), inOrder)
}

// names gives the names of the heading: its Name, and its Variants.
func (h Heading) names() iter.Seq[string] {
	return func(yield func(string) bool) {
		if !yield(h.Name) {
			return
		}
		for _, name := range h.Variants {
			if !yield(name) {
				return
			}
		}
	}
}
