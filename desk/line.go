package desk

import (
	"slices"
	"strconv"
	"strings"

	"palantype/api"
)

// blank stands ahead of each number of a line, ahead of its text, and between words.
const blank = " "

// mostNumber is the greatest number of a line; the least one is as far below 0.
const mostNumber = 999999999

// within reports whether n is from lo to hi.
func within(n, lo, hi int) bool { return lo <= n && n <= hi }

// limited reports whether there are not too many lines, and none of them is too long.
func limited(lines []string) bool {
	tooLong := func(line string) bool { return len(line) > api.MaxSheetLine }
	return len(lines) <= api.MaxSheet && !slices.ContainsFunc(lines, tooLong)
}

// word tells of the lines that begin with a word how many numbers they have, whether
// they have a text, and what they do.
type word struct {
	numbers int
	text    bool
	do      func(*session, entry)
}

// entry is what a line has behind its word: as many numbers as that has, and its text.
type entry struct {
	n    [4]int
	text string
}

// words returns the words with which a line may begin.
func words() map[string]word {
	return map[string]word{
		"day":    {numbers: 1, do: (*session).goOn},
		"say":    {numbers: 1, text: true, do: (*session).say},
		"bind":   {numbers: 3, do: (*session).bind},
		"change": {numbers: 2, text: true, do: (*session).change},
		"remove": {numbers: 2, do: (*session).remove},
		"add":    {numbers: 3, text: true, do: (*session).add},
		"cite":   {numbers: 2, do: (*session).cite},
		"hide":   {numbers: 3, do: (*session).hide},
		"house":  {numbers: 1, do: (*session).seat},
		"divide": {numbers: 4, do: (*session).divide},
		"tell":   {numbers: 3, do: (*session).tell},
		"pair":   {numbers: 2, do: (*session).pair},
		"result": {do: (*session).result},
		"move":   {text: true, do: (*session).move},
		"paper":  {numbers: 4, text: true, do: (*session).paper},
		"adopt":  {numbers: 1, do: (*session).adopt},
		"order":  {numbers: 1, do: (*session).order},
	}
}

// readLine returns the word of the line, and what the line has behind it; or it refuses the
// line, if that has not the form.
func readLine(line string) (word, entry) {
	first, _, _ := strings.Cut(line, blank)
	w, known := words()[first]
	expect(known, api.ErrForm)
	// What is left behind the numbers is one more part, in which blanks do not count.
	parts := strings.SplitN(line, blank, 1+w.numbers+1)[1:]
	var x entry
	if w.text {
		expect(len(parts) == w.numbers+1, api.ErrForm)
		x.text = parts[w.numbers]
		parts = parts[:w.numbers]
	}
	expect(len(parts) == w.numbers, api.ErrForm)
	for i, digits := range parts {
		x.n[i] = number(digits)
	}
	return w, x
}

// number returns the number with these digits; or it refuses the line, if there is none.
// There is one way to write each number, so that it has to be written as the same digits.
func number(digits string) int {
	n, _ := strconv.Atoi(digits) // one that is too large for an int is too large for a line
	expect(within(n, -mostNumber, mostNumber) && strconv.Itoa(n) == digits, api.ErrForm)
	return n
}

// wordsOf returns the words of the text. Nothing but blanks stands between them.
func wordsOf(text string) []string {
	return strings.FieldsFunc(text, func(r rune) bool { return r == ' ' })
}
