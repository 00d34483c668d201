package index_test

import (
	"fmt"
	"slices"
	"strings"
	"testing"

	"palantype/api"
	"palantype/index"
)

// holdFile holds that this is the file of the index, written and read.
func holdFile(t *testing.T, l []index.Heading, file string) {
	t.Helper()
	if b, e := index.Write(l); string(b) != file || e != api.OK {
		t.Fatalf("Write of %v: %q, %v, not %q", l, b, e, file)
	}
	if x, e := index.Read([]byte(file)); !same(x, l) || e != api.OK {
		t.Fatalf("Read of %q: %v, %v, not %v", file, x, e, l)
	}
}

// holdNoFile holds that these bytes are no file.
func holdNoFile(t *testing.T, file string) {
	t.Helper()
	if l, e := index.Read([]byte(file)); len(l) != 0 || e != api.ErrForm {
		t.Fatalf("Read of %q: %v, %v", file, l, e)
	}
}

// holdRead holds Read of the bytes against what the chapter defines, and returns
// whether they are a file.
func holdRead(t *testing.T, file string) bool {
	t.Helper()
	want, e := readOf(file)
	if e == api.OK {
		holdFile(t, want, file)
	} else {
		holdNoFile(t, file)
	}
	return e == api.OK
}

// largest returns an index with as much of all as there may be, by names that begin
// with the text.
func largest(text string) []index.Heading {
	var l []index.Heading
	name := func(heading, variant int) string {
		return fmt.Sprintf("%s%02d%s%d", text, heading, strings.Repeat("x", 37-len(text)), variant)
	}
	for i := range 60 {
		h := index.Heading{Name: name(i, 0)}
		for k := 1; k <= 8; k++ {
			h.Variants = append(h.Variants, name(i, k))
			h.Also = append(h.Also, name((i+k)%60, 0))
		}
		slices.Sort(h.Also)
		for k := range 30 {
			h.Places = append(h.Places, at(970+k, 1000+i, 2000+i))
		}
		l = append(l, h)
	}
	return l
}

// P11.5: the example of the chapter.
func TestP11_5Example(t *testing.T) {
	holdFile(t, joined(), joinedFile)
}

// P11.5: files, line by line.
func TestP11_5WriteRead(t *testing.T) {
	for _, x := range []struct {
		file string
		l    []index.Heading
	}{
		{"", nil},
		{"a:\n", plain("a")},
		{"a:\nb:; a\n", of(heading("a", "", ""), heading("b", "", "a"))},
		{"a:; b, c\nb:\nc: 1/1; a\n", of(heading("a", "", "b|c"), heading("b", "", ""), heading("c", "", "a", at(1, 1, 1)))},
		{"a: 1/1\n", of(heading("a", "", "", at(1, 1, 1)))},
		{"a: 1/1-2\n", of(heading("a", "", "", at(1, 1, 2)))},
		{"a: 1/1, 1/3-9999, 999/9999\n", of(heading("a", "", "", at(1, 1, 1), at(1, 3, 9999), at(999, 9999, 9999)))},
		{"a: 10/20-100, 20/10\n", of(heading("a", "", "", at(10, 20, 100), at(20, 10, 10)))},
		{"A = b\na = b\nb:\nC = b\n", of(heading("b", "A|a|C", ""))},
		{"a = b\nb:\n", of(heading("b", "a", ""))},
		{"a:\nb = a\n", of(heading("a", "b", ""))},
		{"a = c\nb = d\nc:\nd:\ne = c\nf = d\n", of(heading("c", "a|e", ""), heading("d", "b|f", ""))},
		// Names that look like places, and like what stands between.
		{"1/1:\n1/1-2: 1/1-2; 1/1\n", of(heading("1/1", "", ""), heading("1/1-2", "", "1/1", at(1, 1, 2)))},
		{"-:\n/: 1/1; -\n", of(heading("-", "", ""), heading("/", "", "-", at(1, 1, 1)))},
		{"+ = 0\n-0 = 0\n0: 1/1\n", of(heading("0", "+|-0", "", at(1, 1, 1)))},
		{"Bill (No. 2): 1/1\n", of(heading("Bill (No. 2)", "", "", at(1, 1, 1)))},
	} {
		holdFile(t, x.l, x.file)
		if l, e := readOf(x.file); !same(l, x.l) || e != api.OK {
			t.Fatalf("the test has %v, %v for %q", l, e, x.file)
		}
	}
}

// P11.5: the largest file, and the longest that is looked at.
func TestP11_5Large(t *testing.T) {
	l := largest("a")
	file := fileOf(l)
	if len(file) < 60000 || len(file) > api.MaxPages {
		t.Fatalf("%d bytes", len(file))
	}
	holdFile(t, l, file)
	long := strings.Repeat("x", api.MaxPages)
	for _, b := range []string{long, strings.Repeat("\n", api.MaxPages), strings.Repeat("a:\n", api.MaxPages/3), strings.Repeat("a = b\n", api.MaxPages/6), "a: " + long[:api.MaxPages-3], "a: 1/" + strings.Repeat("1", api.MaxPages-6) + "\n", "a:" + strings.Repeat(" 1/1,", api.MaxPages/5-1), "a:;" + strings.Repeat(" a,", api.MaxPages/3-1)} {
		if len(b) > api.MaxPages {
			t.Fatalf("%d bytes", len(b))
		}
		holdNoFile(t, b)
	}
	for _, b := range []string{long + "x", file + long, strings.Repeat("\n", api.MaxPages+1), file + strings.Repeat("\n", api.MaxPages+1-len(file))} {
		if l, e := index.Read([]byte(b)); len(l) != 0 || e != api.ErrLimit {
			t.Fatalf("Read of %d bytes: %v, %v", len(b), l, e)
		}
	}
	holdNoFile(t, file+strings.Repeat("\n", api.MaxPages-len(file)))
}

// P11.5: what is no file.
func TestP11_5ReadRefuses(t *testing.T) {
	for _, file := range []string{
		// Lines without an end, or without anything, and what is no line.
		"\n", "a", "a:", "a:\nb", "a:\nb:", "a:\n\n", "\na:\n", "a:\n\nb:\n", "a\n", "a:\r\n", "a:\x00\n", ":\n", ": 1/1\n", " = a\na:\n", "a = \n", "a:\nb = \n", "=\n", " = \n", "a ; b\nb:\n",
		// Names that are none.
		" a:\n", "a :\n", "a  b:\n", "a,b:\n", "a;b:\n", "é:\n", "\ta:\n", "a:\nb  c = a\n", "a:\n c = a\n", strings.Repeat("x", 41) + ":\n", "a:\n" + strings.Repeat("x", 41) + " = a\n",
		// Places that are none, or are told in another way.
		"a: \n", "a: 1\n", "a: 1/\n", "a: /1\n", "a: /\n", "a: 1-2\n", "a: 1/1-\n", "a: 1/-1\n", "a: 1/1-2-3\n", "a: 1/1/1\n", "a: 1/1-1\n", "a: 1/2-1\n", "a: 0/1\n", "a: 1/0\n", "a: 1/0-1\n", "a: 1000/1\n", "a: 1/10000\n", "a: 1/1-10000\n",
		"a: 01/1\n", "a: 1/01\n", "a: 1/1-02\n", "a: +1/1\n", "a: 1/+1\n", "a: 1/1-+2\n", "a: -1/1\n", "a: 1/1--2\n", "a: 1_0/1\n", "a: 0x1/1\n", "a: 1.0/1\n", "a: 1e1/1\n", "a: x/1\n", "a: 1/x\n", "a: 1/1-x\n", "a: 99999999999999999999/1\n", "a: 1/99999999999999999999\n", "a: 18446744073709551617/1\n", "a: ١/1\n",
		"a: 1 /1\n", "a: 1/ 1\n", "a: 1/1 -2\n", "a: 1/1 - 2\n",
		// Places that are not in order.
		"a: 1/1, 1/1\n", "a: 1/1, 1/2\n", "a: 1/1-3, 1/2\n", "a: 1/5, 1/1\n", "a: 2/1, 1/1\n", "a: " + strings.Repeat("1/1, ", 30) + "1/1\n",
		// Blanks, commas, colons and semicolons where they do not stand.
		"a:1/1\n", "a:  1/1\n", "a: 1/1 \n", "a: 1/1,\n", "a: 1/1, \n", "a: ,1/1\n", "a:, 1/1\n", "a: 1/1,1/3\n", "a: 1/1,  1/3\n", "a: 1/1 , 1/3\n", "a: 1/1,, 1/3\n", "a: 1/1; 1/3\n", "a:: 1/1\n", "a:1/1:\n",
		"a:;\n", "a:; \n", "a: 1/1;\n", "a: 1/1; \n", "a:;b\nb:\n", "a: ; b\nb:\n", "a:;  b\nb:\n", "a:; b \nb:\n", "a:; b,\nb:\n", "a:; b, \nb:\n", "a:; b;\nb:\n", "a:; b; c\nb:\nc:\n", "a:; b,c\nb:\nc:\n", "a:; b,  c\nb:\nc:\n", "a:; , b\nb:\n", "a:, b\nb:\n", "a; b\nb:\n",
		// Also of what is not there, of itself, of a variant, twice, or not in order.
		"a:; b\n", "a:; a\n", "a:; b\nb = a\n", "a:; b\nb = c\nc:\n", "a:; b, b\nb:\n", "a:; c, b\nb:\nc:\n",
		// Variants of what is not there, of a variant, of itself, of two, or told in another way.
		"a = b\n", "a = b\nb = c\nc:\n", "a = b\nb = a\n", "a = a\n", "a = a\na:\n", "a:\na = a\n", "a:\nb = a\nb = a\n", "a:\nb = a\nb = c\nc:\n", "a:\nb=a\n", "a:\nb= a\n", "a:\nb =a\n", "a:\nb  = a\n", "a:\nb =  a\n", "a:\nb = a \n", "a:\nb = a:\n", "a:\nb == a\n", "a:\nb = a = a\n", "a:\nb = a, a\n", "a:\nb = A\n", "a:\nb = a; a\n", "a:\nb: = a\n", "a: = a\n",
		// Lines that are there twice, or not in order.
		"a:\na:\n", "b:\na:\n", "a:\nA:\n", "b:\na = b\n", "a:\nA = a\n", "a:\nc = a\nb = a\n", "ab:\na c = ab\na b = ab\n", "a:\nb:\nAa = b\n",
		// Too much of something.
		"a:\n" + strings.Join(numbered("b", 9), " = a\n") + " = a\n", strings.Join(numbered("a", 61), ":\n") + ":\n",
	} {
		if holdRead(t, file) {
			t.Fatalf("the test takes %q for a file", file)
		}
	}
}

// P11.5: each of the errors of Write.
func TestP11_5WriteRefuses(t *testing.T) {
	for _, x := range []struct {
		l []index.Heading
		e api.Errno
	}{{plain(numbered("x", 61)...), api.ErrLimit}, {plain(""), api.ErrArg}, {plain("a", "a"), api.ErrTwice}, {plain("b", "a"), api.ErrArg}, {of(heading("a", "", "b")), api.ErrArg}} {
		if b, e := index.Write(x.l); len(b) != 0 || e != x.e {
			t.Fatalf("Write of %v: %q, %v, not %v", x.l, b, e, x.e)
		}
	}
}

// rows calls with all rows of the tokens, put together, that have so many at most.
func rows(text string, count int, tokens []string, call func(string)) {
	call(text)
	if count == 0 {
		return
	}
	for _, token := range tokens {
		rows(text+token, count-1, tokens, call)
	}
}

// P11.5, P11.9: all texts of a few tokens: those that are files are the files of all
// indices that have no other tokens.
func TestP11_5P11_9SmallFiles(t *testing.T) {
	for _, x := range []struct {
		tokens string
		count  int
	}{
		{"a|b|:|;|,| |=|\n|1/1|-2", 5},
		{"a|b|:\n| = |:; |, ", 7},
		{"a:| 1/1|,| 1/3|-4|\n|b:|; a", 6},
		{"a: |1|/|2|-|\n|, ", 7},
	} {
		files := 0
		rows("", x.count, strings.Split(x.tokens, "|"), func(text string) {
			// The oracle reads slowly: what Read refuses need not have the form of lines.
			l, e := index.Read([]byte(text))
			if e == api.OK {
				files++
				holdFile(t, l, text)
			}
			if want, wantE := readOf(text); e != wantE || !same(l, want) {
				t.Fatalf("Read of %q: %v, %v, not %v, %v", text, l, e, want, wantE)
			}
		})
		if files < 5 {
			t.Errorf("%q makes %d files", x.tokens, files)
		}
	}
}

// P11.5, P11.9: each byte of a file changed, taken out, or put in.
func TestP11_5P11_9EachByte(t *testing.T) {
	file := joinedFile + "Trunk roads = Trade\nWool: 3/13; A Lee, Trade\n"
	if !holdRead(t, file) {
		t.Fatalf("the test does not take %q for a file", file)
	}
	kept := 0
	for i := range len(file) + 1 {
		for b := range 256 {
			c := string([]byte{byte(b)})
			texts := []string{file[:i] + c + file[i:]}
			if i < len(file) {
				texts = append(texts, file[:i]+c+file[i+1:])
			}
			for _, text := range texts {
				if holdRead(t, text) {
					kept++
				}
			}
		}
		if i < len(file) {
			holdRead(t, file[:i]+file[i+1:])
		}
		holdRead(t, file[:i])
		holdRead(t, file[i:])
	}
	if kept < 2000 {
		t.Errorf("%d of the texts are files", kept)
	}
}

// P11.5: many indices, and files of which lines were exchanged, or stand twice.
func TestP11_5Many(t *testing.T) {
	d := dice(5)
	files := map[bool]int{}
	for range 6000 {
		l := d.index(few(), 8)
		file := fileOf(l)
		holdFile(t, l, file)
		split := strings.SplitAfter(file, "\n")
		if len(split) < 2 {
			continue
		}
		i, k := d.roll(0, len(split)-2), d.roll(0, len(split)-2)
		switch d.roll(0, 3) {
		case 0:
			split[i], split[k] = split[k], split[i]
		case 1:
			split[i] = split[k]
		case 2:
			split[i] = ""
		case 3:
			split[i] += split[k]
		}
		files[holdRead(t, strings.Join(split, ""))]++
	}
	if min(files[true], files[false]) < 500 {
		t.Errorf("%v", files)
	}
}
