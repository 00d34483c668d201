package volume

import (
	"slices"

	"palantype/api"
)

// within reports whether n is from lo to hi.
func within(n, lo, hi int) bool { return lo <= n && n <= hi }

// all reports whether each element of the list fits.
func all[T any](list []T, fits func(T) bool) bool {
	return !slices.ContainsFunc(list, func(x T) bool { return !fits(x) })
}

// distinct reports whether no two of the numbers are the same.
func distinct(list []int) bool {
	sorted := slices.Sorted(slices.Values(list))
	return len(slices.Compact(sorted)) == len(list)
}

// validDay reports whether there is such a day.
func validDay(day int) bool { return within(day, 0, api.MaxCalendar) }

// validAnchor reports whether a paragraph can have the anchor.
func validAnchor(anchor int) bool { return within(anchor, 1, api.MaxAnchor) }

// validText reports whether a paragraph can have the text.
func validText(text string) bool {
	return within(len(text), 1, api.MaxParagraph) &&
		all([]byte(text), func(b byte) bool { return within(int(b), 32, 126) })
}

// valid reports whether the paragraph is as it has to be.
func (p Paragraph) valid() bool { return validAnchor(p.Anchor) && validText(p.Text) }

// valid reports whether the part is as it has to be by itself.
func (p Part) valid() bool { return validDay(p.Day) && all(p.Paragraphs, Paragraph.valid) }

// fault returns the error of the volume, or OK.
func (v Volume) fault() api.Errno {
	switch {
	case !v.limited():
		return api.ErrLimit
	case !v.valid():
		return api.ErrArg
	case !distinct(v.anchors()):
		return api.ErrTwice
	}
	return api.OK
}

// limited reports whether there are not too many parts, nor paragraphs.
func (v Volume) limited() bool {
	paragraphs := 0
	for _, p := range v.Parts {
		paragraphs += len(p.Paragraphs)
	}
	return len(v.Parts) <= api.MaxParts && paragraphs <= api.MaxParagraphs
}

// valid reports whether all is as it has to be, but for anchors that are the same.
func (v Volume) valid() bool {
	return within(v.Number, 1, api.MaxVolume) && validDay(v.Bound) &&
		within(v.Height, 1, api.MaxHeight) && within(v.Width, 10, api.MaxWidth) &&
		all(v.Parts, Part.valid) && v.dated()
}

// dated reports whether the days of the parts rise, up to Bound.
func (v Volume) dated() bool {
	for i, p := range v.Parts {
		if p.Day > v.Bound || i > 0 && v.Parts[i-1].Day >= p.Day {
			return false
		}
	}
	return true
}

// anchors returns the anchors of all paragraphs.
func (v Volume) anchors() []int {
	var list []int
	for _, part := range v.Parts {
		for _, p := range part.Paragraphs {
			list = append(list, p.Anchor)
		}
	}
	return list
}

// faultOf returns the error of the errata of this valid volume, or OK.
func (v Volume) faultOf(errata []Erratum) api.Errno {
	switch {
	case len(errata) > api.MaxErrata:
		return api.ErrLimit
	case !all(errata, Erratum.valid):
		return api.ErrArg
	case v.hasTwice(errata):
		return api.ErrTwice
	case !v.hasFor(errata):
		return api.ErrNone
	}
	return api.OK
}

// valid reports whether the erratum is as it has to be, whatever the volume is. What
// its Anchor has to be depends on that.
func (x Erratum) valid() bool {
	return within(x.Number, 1, api.MaxErratum) && validDay(x.Day) &&
		int(x.Kind) < len(kinds()) && kinds()[x.Kind].fits(x)
}

// hasTwice reports whether two errata have the same Number, or two paragraphs would
// have the same anchor.
func (v Volume) hasTwice(errata []Erratum) bool {
	var numbers []int
	anchors := v.anchors()
	for _, x := range errata {
		numbers = append(numbers, x.Number)
		if x.Kind == Add {
			anchors = append(anchors, x.New)
		}
	}
	return !distinct(numbers) || !distinct(anchors)
}

// hasFor reports whether there is, for each of the errata, a paragraph with its
// Anchor by the time when it is issued.
func (v Volume) hasFor(errata []Erratum) bool {
	anchors := v.anchors()
	for x := range issued(errata, api.MaxCalendar) {
		if !slices.Contains(anchors, x.Anchor) {
			return false
		}
		if x.Kind == Add {
			anchors = append(anchors, x.New)
		}
	}
	return true
}
