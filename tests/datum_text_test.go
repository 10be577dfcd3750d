package tests

import (
	"fmt"
	"math/rand"
	"slices"
	"strings"
	"testing"

	"loop.example/quoin/impl"
)

// putIn is the text of a value, told from the document.
func putIn(d impl.Datum) string {
	var parts []string
	for i, x := range d.List {
		part := putIn(x)
		if d.Kind == impl.DatumTree {
			part = d.Names[i] + " = " + part
		}
		parts = append(parts, part)
	}
	switch d.Kind {
	case impl.DatumNum:
		return fmt.Sprint(d.Num)
	case impl.DatumText:
		out := ""
		for _, b := range []byte(d.Text) {
			if b >= 32 && b <= 126 && b != '"' && b != '\\' {
				out += string(rune(b))
			} else {
				out += fmt.Sprintf("\\%02x", b)
			}
		}
		return "\"" + out + "\""
	case impl.DatumList:
		return "[" + strings.Join(parts, ", ") + "]"
	case impl.DatumTree:
		return "(" + strings.Join(parts, ", ") + ")"
	}
	return "void"
}

// isPutIn says whether a value can be written, told from the document.
func isPutIn(d impl.Datum, deep int) bool {
	if deep == 0 || !isDatumIn(d) {
		return false
	}
	names := slices.Clone(d.Names)
	slices.Sort(names)
	if len(slices.Compact(names)) < len(d.Names) {
		return false
	}
	for _, name := range d.Names {
		if !nameForm.MatchString(name) {
			return false
		}
	}
	for _, x := range d.List {
		if !isPutIn(x, deep-1) {
			return false
		}
	}
	return true
}

// checkNotPut checks that a value is not written.
func checkNotPut(t *testing.T, d impl.Datum) {
	t.Helper()
	if text := impl.DatumPut(d); text != "" {
		t.Errorf("%.1000q is written", text)
	}
}

// checkNotGot checks that a text is not read.
func checkNotGot(t *testing.T, text string) {
	t.Helper()
	if d, ok := impl.DatumGet(text); ok || !sameDatumIn(d, impl.Datum{}) {
		t.Errorf("%q is read as %+v, %v", text, d, ok)
	}
}

// checkText checks that a value that can be written is written as a text, and read back from it, if it is not too long.
func checkText(t *testing.T, d impl.Datum, text string) {
	t.Helper()
	if got := impl.DatumPut(d); got != text {
		t.Fatalf("%+v is written as %q, not %q", d, got, text)
	}
	if len(text) > impl.DatumMax {
		checkNotGot(t, text)
	} else if x, ok := impl.DatumGet(text); !ok || !sameDatumIn(x, d) {
		t.Fatalf("%q is read as %+v, %v", text, x, ok)
	}
}

// Promise 58.
func TestValueIsReadBackFromItsText(t *testing.T) {
	r := rand.New(rand.NewSource(80))
	long, not := 0, 0
	for range 5000 {
		d := someDatum(r, 1+r.Intn(impl.DeepMax))
		was := copiedDatum(d)
		checkText(t, d, putIn(d))
		if len(putIn(d)) > impl.DatumMax {
			long++
		}
		for range 3 {
			x := changedDatum(r, d)
			if isPutIn(x, impl.DeepMax) {
				checkText(t, x, putIn(x))
			} else {
				checkNotPut(t, x)
				not++
			}
		}
		if !sameDatumIn(d, was) {
			t.Fatalf("%+v has changed to %+v", was, d)
		}
	}
	if long < 100 || not < 1000 {
		t.Errorf("%d are too long, %d are not written", long, not)
	}
}

// Promise 58: each kind, each byte.
func TestTextsOfValues(t *testing.T) {
	for text, d := range map[string]impl.Datum{
		"void": {}, "0": numDatum(0), "-1": numDatum(-1), "999999999999999999": numDatum(mostNumber), "-999999999999999999": numDatum(-mostNumber),
		"\"\"": textDatum(""), "\"a b\"": textDatum("a b"), "\"\\22\"": textDatum("\""), "\"\\5c\"": textDatum("\\"), "\"\\5c22\"": textDatum("\\22"), "\"\\01\\1f ~\\7f\\80\\ff\"": textDatum("\x01\x1f ~\x7f\x80\xff"), "\"\\c3\\a9\"": textDatum("\xc3\xa9"), "\"\\0a\\09\"": textDatum("\n\t"), "\"[1, (a = 2)]\"": textDatum("[1, (a = 2)]"),
		"[]": listDatum(), "[void]": listDatum(impl.Datum{}), "[1, -2]": listDatum(numDatum(1), numDatum(-2)), "[[], ()]": listDatum(listDatum(), treeDatum("")), "[\"], [\"]": listDatum(textDatum("], [")),
		"()": treeDatum(""), "(a = 1)": treeDatum("a", numDatum(1)), "(b = void, a = [()])": treeDatum("b a", impl.Datum{}, listDatum(treeDatum(""))), "(void = void)": treeDatum("void", impl.Datum{}), "(abcdefghij = \"\", A1 = 0, a1 = 0)": treeDatum("abcdefghij A1 a1", textDatum(""), numDatum(0), numDatum(0)),
	} {
		checkText(t, d, text)
	}
	for b := 1; b < 256; b++ {
		d := textDatum(string([]byte{byte(b)}))
		checkText(t, d, putIn(d))
		checkText(t, listDatum(d, d), putIn(listDatum(d, d)))
	}
}

// Promise 58: what no value is written as.
func TestTextsThatAreNoValue(t *testing.T) {
	for _, text := range []string{
		"", " ", "a", "Void", "voi", "void ", " void", "voida", "void1", "void, void", "\n", "-", "+1", "01", "00", "-0", "-01", "--1", "1 ", " 1", "1-", "1a", "1.0", "0x1", "1_0", "1e3", "1000000000000000000", "-1000000000000000000", "9223372036854775807", "99999999999999999999999999",
		"\"", "\"a", "a\"", "\"\"\"", "\"a\"b", "\"\\\"", "\"\\2\"", "\"\\2", "\"\\22", "\"\\41\"", "\"\\20\"", "\"\\7e\"", "\"\\5C\"", "\"\\FF\"", "\"\\fF\"", "\"\\00\"", "\"a\\00\"", "\"\\g0\"", "\"\\+1\"", "\"\\-1\"", "\"\\ 1\"", "\"\\_1\"", "\"\\0x\"", "\"\\\\\"", "\"\\n\"", "\"\x01\"", "\"\n\"", "\"\x00\"", "\"\x7f\"", "\"\x80\"", "\"\xc3\xa9\"", "\"" + strings.Repeat("a", 101) + "\"", "'a'", "\"a\" ", " \"a\"",
		"[", "]", "[]]", "[[]", "[ ]", "[] ", "[1", "[1,", "[1, ", "[1, ]", "[1,2]", "[1,  2]", "[1 2]", "[1 , 2]", "[ 1]", "[1 ]", "[, 1]", "[,]", "[1, 2,]", "[1;2]", "[1)", "[1\t2]", "[" + strings.Repeat("1, ", 20) + "1]", "[void void]", "[]1",
		"(", ")", "())", "(()", "( )", "() ", "(1)", "(a)", "(a =)", "(a = )", "(a= 1)", "(a =1)", "(a=1)", "(a  = 1)", "(a =  1)", "( a = 1)", "(a = 1 )", "(a = 1,)", "(a = 1, )", "(a = 1,b = 2)", "(a = 1 b = 2)", "(a = 1, a = 1)", "(a = 1, b = 2, a = 3)", "( = 1)", "(1 = 1)", "(1a = 1)", "(a-b = 1)", "(-a = 1)", "(a_b = 1)", "(abcdefghijk = 1)", "(\"a\" = 1)", "(a = 1]", "(a = b)", "(a = = 1)", "(\xe9 = 1)", "(a = 1, b)", "(a = 1, 2)", "(a = 1, b = 1, c = 1, d = 1, e = 1, f = 1, g = 1, h = 1, i = 1)", "()1",
		"(a = 1)\n", "# 1", "1 # 1", "[1, 2] [3]", "\x00", "1\x00", "{}", "List(1)",
	} {
		checkNotGot(t, text)
	}
}

// Promise 58: what is read of any text is written as that text.
func TestWhatIsReadOfAnyTextOfAValue(t *testing.T) {
	r := rand.New(rand.NewSource(81))
	bits := []string{" ", ", ", ",", "[", "]", "(", ")", "a = ", " = ", "=", "0", "1", "-", "\"", "\\", "\\22", "\\7f", "void", "[]", "()", "\"\"", "\x00", "\xff"}
	read := 0
	for range 100000 {
		text := putIn(someDatum(r, 1+r.Intn(3)))
		if len(text) > 100 {
			text = "(a = [1, \"b\\22\"], c = void)"
		}
		for range r.Intn(3) {
			at := r.Intn(len(text) + 1)
			text = text[:at] + bits[r.Intn(len(bits))] + text[min(len(text), at+r.Intn(3)):]
		}
		d, ok := impl.DatumGet(text)
		if !ok {
			if !sameDatumIn(d, impl.Datum{}) {
				t.Fatalf("%q is not read, but as %+v", text, d)
			}
			continue
		}
		read++
		if putIn(d) != text || impl.DatumPut(d) != text || !isPutIn(d, impl.DeepMax) {
			t.Fatalf("%q is read as %+v, which is written as %q", text, d, impl.DatumPut(d))
		}
	}
	if read < 10000 {
		t.Errorf("just %d were read", read)
	}
}

// inside is a value within so many lists, or trees.
func inside(d impl.Datum, lists int, trees bool) impl.Datum {
	for range lists {
		if trees {
			d = treeDatum("a", d)
		} else {
			d = listDatum(d)
		}
	}
	return d
}

// Promise 58: as much as may be, and one more.
func TestBoundsOfTextsOfValues(t *testing.T) {
	for _, trees := range []bool{false, true} {
		for _, d := range []impl.Datum{{}, numDatum(7), textDatum("a"), listDatum(), treeDatum("")} {
			most := inside(d, impl.DeepMax-1, trees)
			checkText(t, most, putIn(most))
			for _, more := range []impl.Datum{inside(d, impl.DeepMax, trees), inside(most, 1000, trees), listDatum(numDatum(1), most), treeDatum("a b", numDatum(1), most)} {
				checkNotPut(t, more)
				checkNotGot(t, putIn(more))
			}
		}
	}
	checkText(t, listDatum(times(numDatum(1), 20)...), "["+strings.Repeat("1, ", 19)+"1]")
	checkText(t, textDatum(strings.Repeat("a", 100)), "\""+strings.Repeat("a", 100)+"\"")

	// Eleven texts of 100 bytes, and one more, fill as many bytes as may be.
	for more := range 100 {
		d := listDatum(append(times(textDatum(strings.Repeat("a", 100)), 11), textDatum(strings.Repeat("b", more)))...)
		checkText(t, d, putIn(d))
	}
	long := listDatum(append(times(textDatum(strings.Repeat("a", 100)), 11), textDatum(strings.Repeat("b", 52)))...)
	if n := len(impl.DatumPut(long)); n != impl.DatumMax {
		t.Errorf("it has %d bytes", n)
	}
	checkNotGot(t, strings.Repeat("[", impl.DatumMax))
	checkNotGot(t, strings.Repeat("[", 1000000))
	checkNotGot(t, strings.Repeat("(a = ", impl.DatumMax/5))
	checkNotGot(t, strings.Repeat("[", 600)+strings.Repeat("]", 600))
}

// Promise 58: what is no value is not written, nor what it is within.
func TestWhatIsNotWritten(t *testing.T) {
	bad := append(badData(), datumLoops()...)
	bad = append(bad, treeDatum("a a", numDatum(1), numDatum(1)), treeDatum("a b a", numDatum(1), numDatum(1), numDatum(1)))
	for _, name := range []string{"", "1", "1a", "a-b", "a_b", "abcdefghijk", " a", "a ", "\xe9", "a\x00", "-"} {
		bad = append(bad, impl.Datum{Kind: impl.DatumTree, Names: []string{name}, List: listDatum(numDatum(1)).List}, impl.Datum{Kind: impl.DatumTree, Names: []string{"a", name}, List: listDatum(numDatum(1), numDatum(2)).List})
	}
	for _, d := range bad {
		for _, x := range []impl.Datum{d, listDatum(d), listDatum(numDatum(1), d), treeDatum("a", d), treeDatum("a b", numDatum(1), listDatum(d))} {
			checkNotPut(t, x)
		}
	}
}
