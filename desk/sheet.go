package desk

import (
	"bytes"
	"iter"
	"slices"
	"strconv"

	"palantype/api"
)

// How many octal digits the length of a line has in its record, and its check.
const (
	lengthDigits = 4
	checkDigits  = 6
)

// mostLength is the greatest number of so many octal digits. All of them are 7, so that
// each digit of what a length leaves of it is 7 less that of the length.
const mostLength = 1<<(3*lengthDigits) - 1

// headBytes is how many bytes of a record stand ahead of its line.
const headBytes = 1 + lengthDigits + lengthDigits + checkDigits + 1

// check returns the check of the line.
func check(line string) int {
	n := 11
	for _, b := range []byte(line) {
		n = (29*n + int(b) + 3) % 262139
	}
	return n
}

// octal returns the last octal digits of the number, so many of them.
func octal(n, count int) []byte {
	var digits [checkDigits]byte
	for i := range digits {
		digits[checkDigits-1-i] = '0' + byte(n>>(3*i)&7)
	}
	return digits[checkDigits-count:]
}

// record returns the record of the line.
func record(line string) []byte {
	return slices.Concat(
		[]byte{'['},
		octal(len(line), lengthDigits),
		octal(mostLength-len(line), lengthDigits),
		octal(check(line), checkDigits),
		[]byte{']'},
		[]byte(line),
		[]byte{'\n'},
	)
}

// sheets returns the records of the lines, one after the other.
func sheets(lines []string) []byte {
	var b []byte
	for _, line := range lines {
		b = append(b, record(line)...)
	}
	return b
}

// records gives the lines of what can be read of the bytes, each with how many bytes its
// record has.
func records(b []byte) iter.Seq2[string, int] {
	return func(yield func(string, int) bool) {
		rest := b
		for range api.MaxSheet {
			line, found := first(rest)
			size := headBytes + len(line) + 1
			if !found || !yield(line, size) {
				return
			}
			rest = rest[size:]
		}
	}
}

// first returns the line of the record with which the bytes begin, and whether there is
// one. The line is as long as the digits say; then its record has to be the same bytes, so
// that nothing else is one.
func first(b []byte) (line string, found bool) {
	if len(b) < headBytes {
		return "", false
	}
	length, _ := strconv.ParseUint(string(b[1:1+lengthDigits]), 8, 64) // 0 for what are no digits, which no record has
	if length > api.MaxSheetLine || headBytes+int(length) > len(b) {
		return "", false
	}
	line = string(b[headBytes : headBytes+int(length)])
	return line, bytes.HasPrefix(b, record(line))
}
