package draft

import (
	"slices"

	"palantype/api"
)

// found is a rule of a style, by its index, and the number of the visible item
// at which the texts that it finds begin.
type found struct{ rule, at int }

// matches reports whether the items have the texts, and none is protected.
func (s *sheet) matches(items []Item, texts []string) bool {
	same := func(x Item, text string) bool { return x.Text == text }
	return slices.EqualFunc(items, texts, same) && !slices.ContainsFunc(items, s.protects)
}

// find returns what the rules find next, from this place of this rule on; if
// that is nothing, the first place of the rule behind the last one.
func (s *sheet) find(rules []Rule, next found) found {
	_, items := s.shown()
	for ; next.rule < len(rules); next = (found{rule: next.rule + 1}) {
		texts := rules[next.rule].Find
		for ; next.at+len(texts) <= len(items); next.at++ {
			if s.matches(items[next.at:next.at+len(texts)], texts) {
				return next
			}
		}
	}
	return next
}

// styled applies the style to the sheet, and returns the changes; they fit if
// they are not more than MaxSteps.
func styled(s *sheet, rules []Rule) (steps []Step, fits bool) {
	nothing := found{rule: len(rules)}
	for next := s.find(rules, found{}); next != nothing; next = s.find(rules, next) {
		if len(steps) == api.MaxSteps {
			return nil, false
		}
		r := rules[next.rule]
		x := Step{At: next.at, Cut: len(r.Find), Put: slices.Clone(r.Put)}
		s.change(x)
		steps = append(steps, x)
		next.at += len(r.Put)
	}
	return steps, true
}
