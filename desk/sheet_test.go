package desk_test

import (
	"fmt"
	"math/big"
	"slices"
	"strings"
	"testing"

	"palantype/api"
	"palantype/desk"
)

// write returns the sheets of the lines.
func write(t *testing.T, lines []string) string {
	t.Helper()
	b, e := desk.Write(lines)
	if e != api.OK {
		t.Fatalf("Write of %q: %q, %v", lines, b, e)
	}
	return string(b)
}

// holdRecover holds that of the bytes these lines can be read, with so many bytes.
func holdRecover(t *testing.T, sheets string, read int, want ...string) {
	t.Helper()
	if lines, n := desk.Recover([]byte(sheets)); !slices.Equal(lines, want) || n != read {
		t.Fatalf("Recover of %q: %q, %d, not %q, %d", sheets, lines, n, want, read)
	}
}

// holdRecovered holds Recover against what the chapter defines, and returns how many
// lines can be read.
func holdRecovered(t *testing.T, sheets string) int {
	t.Helper()
	lines, read := recoveredOf(sheets)
	holdRecover(t, sheets, read, lines...)
	return len(lines)
}

// holdResume holds that Resume returns the sheets.
func holdResume(t *testing.T, sheets string, more []string, want string) {
	t.Helper()
	if b, e := desk.Resume([]byte(sheets), more); string(b) != want || e != api.OK {
		t.Fatalf("Resume of %q, %q: %q, %v, not %q", sheets, more, b, e, want)
	}
}

// holdNoResume holds that Resume refuses, and returns nothing else.
func holdNoResume(t *testing.T, sheets string, more []string) {
	t.Helper()
	if b, e := desk.Resume([]byte(sheets), more); b != nil || e != api.ErrLimit {
		t.Fatalf("Resume of %q, %q: %q, %v", sheets, more, b, e)
	}
}

// some are lines of all kinds, which sheets may have.
func some() []string {
	return []string{"a", "", "day 1", "\n", "\n\n", "[00017776000643]a\n", "[", "]", "\x00", "\xff\xfe", "é", " ", "[00007777000013]", strings.Repeat("x", 7), strings.Repeat("x", 8), strings.Repeat("\xff", 63), strings.Repeat("\n", 64), strings.Repeat(" ", 400), strings.Repeat("\xff", 400), strings.Repeat("[", 399)}
}

// P12.5: records, byte for byte.
func TestP12_5Write(t *testing.T) {
	for line, want := range map[string]string{
		"":                       "[00007777000013]\n",
		"a":                      "[00017776000643]a\n",
		"\x00":                   "[00017776000502]\x00\n", // 29 by 11, and 3, is 322
		"\xff":                   "[00017776001101]\xff\n", // and with 255 it is 577
		"ab":                     "[00027775027734]ab\n",   // 29 by 419, and 98 and 3, is 12252
		"a\n":                    "[00027775027604]a\n\n",
		"aaaaaaaa":               recordOf("aaaaaaaa"),
		strings.Repeat("x", 400): recordOf(strings.Repeat("x", 400)),
	} {
		if sheets := write(t, []string{line}); sheets != want {
			t.Fatalf("Write of %q: %q, not %q", line, sheets, want)
		}
		if recordOf(line) != want {
			t.Fatalf("the test has %q for %q", recordOf(line), line)
		}
		holdRecover(t, want, len(want), line)
	}
	for _, lines := range [][]string{nil, {}} {
		if b, e := desk.Write(lines); len(b) != 0 || e != api.OK {
			t.Fatalf("Write of nothing: %q, %v", b, e)
		}
	}
	if sheets := write(t, []string{"a", "", "a"}); sheets != "[00017776000643]a\n[00007777000013]\n[00017776000643]a\n" {
		t.Fatalf("Write of three lines: %q", sheets)
	}
	if sheets := write(t, some()); sheets != sheetsOf(some()...) {
		t.Fatalf("Write of %q: %q", some(), sheets)
	}
	// Lines that are refused have records as well.
	if sheets := write(t, []string{"x", "day -1"}); sheets != sheetsOf("x", "day -1") {
		t.Fatalf("Write of what is refused: %q", sheets)
	}
}

// P12.5: the digits of lengths.
func TestP12_5Lengths(t *testing.T) {
	for length, want := range map[int]string{0: "00007777", 1: "00017776", 7: "00077770", 8: "00107767", 9: "00117766", 63: "00777700", 64: "01007677", 65: "01017676", 100: "01447633", 255: "03777400", 256: "04007377", 399: "06177160", 400: "06207157"} {
		if sheets := write(t, []string{strings.Repeat("x", length)}); sheets[1:9] != want {
			t.Fatalf("of %d bytes: %q, not %q", length, sheets[1:9], want)
		}
	}
	for length := range 401 {
		line := strings.Repeat("y", length)
		if sheets := write(t, []string{line}); sheets != recordOf(line) {
			t.Fatalf("of %d bytes: %q", length, sheets)
		}
	}
}

// P12.5: the check, worked out with numbers of any size: each byte, and 3, counts 29 to
// the power of how many bytes are behind it.
func TestP12_5Check(t *testing.T) {
	d := dice(5)
	for range 2000 {
		line := make([]byte, d.roll(0, 400))
		for i := range line {
			line[i] = byte(d.roll(0, 255))
		}
		sum := big.NewInt(11)
		for _, b := range line {
			sum.Mul(sum, big.NewInt(29))
			sum.Add(sum, big.NewInt(int64(b)+3))
		}
		sum.Mod(sum, big.NewInt(262139))
		want := fmt.Sprintf("%06o", sum.Int64())
		if len(line) == 0 {
			want = "000013"
		}
		if sheets := write(t, []string{string(line)}); sheets[9:15] != want {
			t.Fatalf("the check of %q: %q, not %q", line, sheets[9:15], want)
		}
	}
}

// P12.5: sessions that are none.
func TestP12_5WriteRefused(t *testing.T) {
	for _, lines := range tooLarge() {
		if b, e := desk.Write(lines); b != nil || e != api.ErrLimit {
			t.Fatalf("Write of %d lines: %q, %v", len(lines), b, e)
		}
	}
	long := slices.Repeat([]string{strings.Repeat("\xff", 400)}, 60)
	sheets := write(t, long)
	if len(sheets) != 60*417 {
		t.Fatalf("%d bytes", len(sheets))
	}
	holdRecover(t, sheets, len(sheets), long...)
}

// P12.5: what has the form of a record, but for one thing.
func TestP12_5RecoverRefuses(t *testing.T) {
	for _, sheets := range []string{
		"", "[", "]", "\n", "a", "[]", "[]\n", "[00007777000013]", "[00007777000013]x", "[00007777000013]\r\n", " [00007777000013]\n", "\n[00007777000013]\n", "00007777000013\n",
		"(00017776000643]a\n", "{00017776000643]a\n", "[00017776000643)a\n", "[00017776000643[a\n", "[00017776000643]a", "[00017776000643]a\r", "[00017776000643]a\x00", "[00017776000643]ab\n", "[00017776000643]\n", "[00017776000643]b\n", "[00017776000643]A\n",
		// Lengths that are others, or are told in another way.
		"[00027775000643]a\n", "[00007777000643]a\n", "[00017777000643]a\n", "[00007776000643]a\n", "[00017775000643]a\n", "[00087769000643]a\n", "[0008777/000643]a\n", "[ 0017776000643]a\n", "[   17776000643]a\n", "[+0017776000643]a\n", "[-0017776000643]a\n", "[1   7776000643]a\n", "[0x017776000643]a\n", "[0_017776000643]a\n", "[00017 776000643]a\n", "[0o017776000643]a\n", "[000177766000643]a\n", "[0001776000643]a\n", "[001777600643]a\n", "[1777643]a\n", "[\x00\x00\x00\x017776000643]a\n", "[0001    000643]a\n", "[00010001000643]a\n", "[77767776000643]a\n", "[99999999000643]a\n", "[77770000000013]\n", "[////////000643]a\n",
		// Checks that are others, or are told in another way.
		"[00017776000642]a\n", "[00017776000644]a\n", "[00017776001643]a\n", "[00017776100643]a\n", "[00017776 00643]a\n", "[00017776   643]a\n", "[00017776+00643]a\n", "[00017776000419]a\n", "[00017776777777]a\n", "[000177760006430]a\n", "[0001777600643]a\n", "[00007777000012]\n", "[00007777000000]\n", "[00007777000011]\n", "[00007777777776]\n",
	} {
		holdRecover(t, sheets, 0)
		holdRecovered(t, sheets)
		// Nor behind another record, nor can what stands behind it be read.
		holdRecover(t, recordOf("x")+sheets, len(recordOf("x")), "x")
		if sheets != "" {
			holdRecover(t, recordOf("x")+sheets+recordOf("x"), len(recordOf("x")), "x")
		}
	}
}

// P12.5: the greatest number of records, at most sixty, of lines of at most 400 bytes.
func TestP12_5RecoverLimits(t *testing.T) {
	lines := each("line %d", 1, 70)
	sixty := sheetsOf(lines[:60]...)
	holdRecover(t, sixty, len(sixty), lines[:60]...)
	holdRecover(t, sheetsOf(lines[:61]...), len(sixty), lines[:60]...)
	holdRecover(t, sheetsOf(lines...), len(sixty), lines[:60]...)
	holdRecover(t, sixty+"x", len(sixty), lines[:60]...)
	longest := strings.Repeat("z", 400)
	holdRecover(t, recordOf(longest), 417, longest)
	for _, length := range []int{401, 402, 407, 408, 511, 512, 4000, 4095} {
		line := strings.Repeat("z", length)
		if record := recordOf(line); len(record) != 17+length {
			t.Fatalf("the test has %q", record)
		}
		holdRecover(t, recordOf(line), 0)
		holdRecover(t, sheetsOf("a", line, "b"), 18, "a")
	}
	holdRecover(t, strings.Repeat("[", 100000), 0)
	holdRecover(t, strings.Repeat(recordOf(""), 100000), 60*17, make([]string, 60)...)
	if lines, read := desk.Recover(nil); len(lines) != 0 || read != 0 {
		t.Fatalf("Recover of nothing: %q, %d", lines, read)
	}
}

// P12.5: bytes of all kinds.
func TestP12_5RecoverMany(t *testing.T) {
	d := dice(55)
	seen := map[int]int{}
	for range 4000 {
		lines := make([]string, d.roll(0, 6))
		for i := range lines {
			lines[i] = oneOf(&d, some()...)
		}
		sheets := sheetsOf(lines...)
		for range d.roll(0, 2) {
			sheets = d.strangeLine(sheets)
		}
		seen[holdRecovered(t, sheets)]++
	}
	for n := range 6 {
		if seen[n] < 100 {
			t.Errorf("%v can be read", seen)
		}
	}
}

// P12.6: the lines of what can be read, and those of more that are accepted.
func TestP12_6Resume(t *testing.T) {
	holdResume(t, "", nil, "")
	holdResume(t, "x", nil, "")
	holdResume(t, "", []string{"day 1", "x", "day 0", "day 2", "day 2"}, sheetsOf("day 1", "day 2", "day 2"))
	holdResume(t, sheetsOf("day 5"), nil, sheetsOf("day 5"))
	holdResume(t, sheetsOf("day 5"), []string{"day 4", "day 6", "day 5"}, sheetsOf("day 5", "day 6"))
	// What cannot be read is not there any more.
	holdResume(t, sheetsOf("day 5", "day 9")[:40], []string{"day 4", "day 6"}, sheetsOf("day 5", "day 6"))
	holdResume(t, sheetsOf("day 5")+"["+sheetsOf("day 9"), []string{"day 7"}, sheetsOf("day 5", "day 7"))
	// What was read stays, also what is refused; so it does nothing.
	holdResume(t, sheetsOf("day 5", "day 3", "x", ""), []string{"day 4", "x", "day 5"}, sheetsOf("day 5", "day 3", "x", "", "day 5"))
	holdResume(t, sheetsOf("house 0", "divide 0 0 0 1"), []string{"tell 1 0 0", "house 2", "tell 1 0 0", "divide 0 0 0 1", "tell 1 0 0"}, sheetsOf("house 0", "divide 0 0 0 1", "house 2", "divide 0 0 0 1", "tell 1 0 0"))
	// Line by line: each of more is done in the state that those ahead of it have made.
	holdResume(t, sheetsOf("say 1 x"), []string{"cite 1 0", "bind 1 1 10", "cite 1 0", "say 2 y", "change 1 1 z", "day 1", "change 1 1 z"}, sheetsOf("say 1 x", "bind 1 1 10", "cite 1 0", "day 1", "change 1 1 z"))
	holdResume(t, sheetsOf(sitting()[:9]...), sitting()[9:], sheetsOf(slices.Delete(sitting(), 11, 12)...))
}

// P12.6: there are at most sixty records; lines that are refused do not count.
func TestP12_6ResumeLimits(t *testing.T) {
	day := func(n int) []string { return slices.Repeat([]string{"day 1"}, n) }
	holdResume(t, sheetsOf(day(60)...), nil, sheetsOf(day(60)...))
	holdResume(t, sheetsOf(day(59)...), day(1), sheetsOf(day(60)...))
	holdResume(t, "", day(60), sheetsOf(day(60)...))
	holdNoResume(t, sheetsOf(day(60)...), day(1))
	holdNoResume(t, sheetsOf(day(59)...), day(2))
	holdNoResume(t, sheetsOf(day(1)...), day(60))
	holdNoResume(t, "", day(61))
	holdNoResume(t, sheetsOf(day(17)...), day(44))
	bad := slices.Repeat([]string{"day 0"}, 60)
	holdResume(t, sheetsOf(day(60)...), bad, sheetsOf(day(60)...))
	holdResume(t, sheetsOf(day(59)...), append(bad[1:], "day 2"), sheetsOf(append(day(59), "day 2")...))
	holdNoResume(t, sheetsOf(day(60)...), append(bad[1:], "day 2"))
	holdNoResume(t, sheetsOf(bad...), day(1)) // what was read counts, refused or not
	holdNoResume(t, sheetsOf("day 1"), append(bad, "day 0"))
	// What is behind sixty records is not read.
	holdResume(t, sheetsOf(append(day(60), "day 7")...), bad, sheetsOf(day(60)...))
	holdResume(t, "", []string{strings.Repeat("x", 400), "day 1"}, sheetsOf("day 1"))
	for _, more := range tooLarge() {
		holdNoResume(t, "", more)
		holdNoResume(t, sheetsOf(day(60)...), more)
	}
}

// P12.6: sessions of all kinds, cut off, and gone on with.
func TestP12_6ResumeMany(t *testing.T) {
	d := dice(6)
	refused, resumed := 0, 0
	for i := range 800 {
		lines := d.session(d.roll(1, 58))
		if i%4 == 0 {
			lines = d.bound(d.roll(20, 58))
		}
		sheets := sheetsOf(lines[:d.roll(0, len(lines))]...)
		switch d.roll(0, 3) {
		case 0:
			sheets = sheets[:d.roll(0, len(sheets))]
		case 1:
			sheets = d.strangeLine(sheets)
		}
		more := slices.Clone(lines[d.roll(0, len(lines)):])
		if d.one(4) {
			more = append(more, slices.Repeat([]string{"day 99999"}, d.roll(0, 60-len(more)))...)
		}
		want, e := resumedOf(sheets, more)
		if e != api.OK {
			holdNoResume(t, sheets, more)
			refused++
			continue
		}
		holdResume(t, sheets, more, want)
		resumed++
	}
	if refused < 20 || resumed < 500 {
		t.Errorf("%d are refused, %d resumed", refused, resumed)
	}
}

// P12.13: of each beginning of sheets those lines can be read whose records are in it.
func TestP12_13EachBeginning(t *testing.T) {
	for _, lines := range [][]string{sitting(), some(), {"", "", ""}} {
		sheets := write(t, lines)
		ends := []int{0}
		for _, line := range lines {
			ends = append(ends, ends[len(ends)-1]+17+len(line))
		}
		if ends[len(lines)] != len(sheets) {
			t.Fatalf("%d bytes of %q", len(sheets), lines)
		}
		whole := 0
		for n := range len(sheets) + 1 {
			if whole < len(lines) && n == ends[whole+1] {
				whole++
			}
			holdRecover(t, sheets[:n], ends[whole], lines[:whole]...)
		}
	}
}

// P12.13: if one byte is changed, the lines before its record can be read, and no more.
func TestP12_13EachByte(t *testing.T) {
	lines := []string{"a", "", "say 11 [0\n]", "day 1", "\x00\xff", "[00017776000643]a\n", "result"}
	sheets := []byte(write(t, lines))
	record, begin := 0, 0
	for i := range sheets {
		if i == begin+17+len(lines[record]) {
			begin, record = i, record+1
		}
		for b := range 256 {
			if sheets[i] != byte(b) {
				other := slices.Clone(sheets)
				other[i] = byte(b)
				holdRecover(t, string(other), begin, lines[:record]...)
			}
		}
	}
}

// P12.13: one byte of long lines, which counts a high power in the check.
func TestP12_13LongLines(t *testing.T) {
	d := dice(13)
	for range 3000 {
		line := make([]byte, 400)
		for i := range line {
			line[i] = byte(d.roll(0, 255))
		}
		sheets := []byte(write(t, []string{"day 1", string(line)}))
		at := d.roll(22, len(sheets)-1)
		sheets[at] ^= byte(d.roll(1, 255))
		holdRecover(t, string(sheets), 22, "day 1")
	}
}

// P12.14: cut off anywhere, resumed with the lines that were lost, the sheets are the
// same again.
func TestP12_14CutOff(t *testing.T) {
	d := dice(14)
	cut := 0
	for i := range 120 {
		lines := d.session(d.roll(1, 58))
		if i%3 == 0 {
			lines = d.bound(d.roll(20, 58))
		}
		lines = acceptedOf(lines)
		sheets := write(t, lines)
		for range 12 {
			left := sheets[:d.roll(0, len(sheets))]
			kept, _ := desk.Recover([]byte(left))
			holdResume(t, left, lines[len(kept):], sheets)
			cut++
		}
	}
	if cut < 1000 {
		t.Errorf("%d are cut off", cut)
	}
	sheets := write(t, slices.Delete(sitting(), 11, 12))
	for n := range len(sheets) + 1 {
		kept, _ := desk.Recover([]byte(sheets[:n]))
		holdResume(t, sheets[:n], slices.Delete(sitting(), 11, 12)[len(kept):], sheets)
		// With lines that are refused among them, it is the same.
		if len(kept) >= 11 {
			holdResume(t, sheets[:n], append([]string{"x", "day -1"}, slices.Delete(sitting(), 11, 12)[len(kept):]...), sheets)
		}
	}
}

// P12.14: nothing, resumed with all lines, makes the sheets of those that are accepted.
func TestP12_14Nothing(t *testing.T) {
	d := dice(141)
	for range 400 {
		lines := d.session(d.roll(1, 58))
		holdResume(t, "", lines, sheetsOf(acceptedOf(lines)...))
	}
	holdResume(t, "", sitting(), sheetsOf(slices.Delete(sitting(), 11, 12)...))
}
