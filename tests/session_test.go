package tests

import (
	"math/rand"
	"strconv"
	"strings"
	"testing"

	"loop.example/quoin/impl"
)

// sessionFields are the fields of a session, told from the document.
func sessionFields() []impl.Field {
	return []impl.Field{{Size: impl.SizeTwo, Else: 7}, f1, fp, c32, cp, f8, f64}
}

// checkSession checks the answers of lines.
func checkSession(t *testing.T, lines string, want ...string) {
	t.Helper()
	var list []string
	if lines != "" {
		list = strings.Split(lines, "|")
	}
	answers := ""
	for _, a := range want {
		answers += a + "\n"
	}
	if got := impl.Session(list); got != answers {
		t.Errorf("%q is answered by %q, not %q", lines, got, answers)
	}
}

// Promise 34.
func TestSessionAnswersEachLine(t *testing.T) {
	checkSession(t, "")
	checkSession(t, "get 0|get 1|get 2|get 3|get 4|get 5|get 6|get 7|choice", "7", "0", "0", "0", "none", "0", "0", "none", "0")
	checkSession(t, "num 0 65535|get 0|num 0 65536|get 0|num 0 0|get 0|num 0 7|get 0", "ok", "65535", "no", "65535", "ok", "0", "ok", "7")
	checkSession(t, "num 1 2|num 1 1|get 1|num 1 0|get 1|num 5 255|get 5|num 5 256|get 5", "no", "ok", "1", "ok", "0", "ok", "255", "no", "255")
	checkSession(t, "text 2 a|get 2|num 2 0|get 2|num 2 1|text 0 a|text 3 a|text 7 a|num 7 0|get 9", "ok", "text a", "ok", "0", "no", "no", "no", "no", "no", "none")
	checkSession(t, "num 3 5|choice|text 4 x|choice|get 3|get 4|num 4 0|get 4|num 3 4294967295|num 3 999999999|get 3|get 4", "ok", "0", "ok", "1", "none", "text x", "ok", "0", "no", "ok", "999999999", "none")
	checkSession(t, "text 2 \x01\xff\t\"|get 2", "ok", "text \x01\xff\t\"")
}

// Promise 34: numbers of at most nine figures, without needless ones; others are -1, or no number at all.
func TestNumbersOfASession(t *testing.T) {
	checkSession(t, "num 6 999999999|get 6|num 6 1000000000|get 6|num 6 0|get 6", "ok", "999999999", "no", "999999999", "ok", "0")
	for _, number := range []string{"-1", "-5", "-0", "+1", "x", "1x", "0x1", "1_0", "1.0", "1e1", "00", "01", "0000000001", "1234567890", "99999999999999999999", "18446744073709551616", "\t1", "1\n", "١"} {
		checkSession(t, "num 6 1|num 6 "+number+"|get 6", "ok", "no", "1")
		checkSession(t, "num "+number+" 1|text "+number+" a|get "+number+"|send "+number, "no", "no", "none", "no")
	}
}

// Promise 34: a text that is none is nothing.
func TestTextsOfASession(t *testing.T) {
	long := strings.Repeat("a", 100)
	checkSession(t, "text 2 "+long+"|get 2|text 2 "+long+"b|get 2", "ok", "text "+long, "ok", "0")
	checkSession(t, "text 2 a|text 2 b\x00c|get 2|choice", "ok", "ok", "0", "0")
	checkSession(t, "text 4 a|get 4|text 4 "+long+long+"|get 4|choice", "ok", "text a", "ok", "0", "1")
}

// Promise 34: any other line.
func TestOtherLinesOfASession(t *testing.T) {
	for _, line := range []string{"", " ", "what", "num", "num 0", "num 0 ", "num 0 1 ", "num 0 1 2", " num 0 1", "num  0 1", "num 0  1", "num\t0\t1", "Num 0 1", "num0 1", "text", "text 2", "text 2 ", "text  a", "text 2 a b", "text 2 a ", "get", "get ", "get 0 ", "get 0 1", " get 0", "get  0", "GET 0", "choice 0", "choice ", " choice", "choices", "send", "send ", "send 4 ", "send 4 4", "canon ", "canon 1", " canon", "canonical", "get 0\nget 1", "\x00"} {
		checkSession(t, "get 0|"+line+"|get 0", "7", "what", "7")
	}
}

// Promise 34: at most 40 lines are done.
func TestManyLinesOfASession(t *testing.T) {
	for count := range 50 {
		got := impl.Session(times("get 0", count))
		if want := strings.Repeat("7\n", min(count, 40)); got != want {
			t.Errorf("%d lines are answered by %q", count, got)
		}
	}
}

// hexOr is the figures of what is written, or what a session answers if it is not.
func hexOr(text string, ok bool) string {
	if !ok {
		return "no"
	}
	return impl.Hex(text)
}

// Promises 32 and 34: what is sent, and the one form.
func TestWhatASessionSends(t *testing.T) {
	checkSession(t, "canon|send 1|num 1 0|canon|send 1", strings.Repeat("00", 8), "10010000", "ok", "fcffffff00000000", "11010101061102015003020004")
	n, fields := impl.Node{}, sessionFields()
	for _, set := range []struct {
		at int
		v  impl.Val
	}{{0, impl.Val{Num: 300}}, {1, impl.Val{Num: 1}}, {2, impl.Val{Node: impl.TextNode("hi")}}, {4, impl.Val{Node: impl.TextNode("you")}}, {5, impl.Val{Num: 9}}, {6, impl.Val{Num: 123456789}}} {
		n = setIn(fields, n, set.at, set.v)
	}
	lines, oks := "num 0 300|num 1 1|text 2 hi|text 4 you|num 5 9|num 6 123456789|", times("ok", 6)
	checkSession(t, lines+"canon|get 0|canon", append(oks, hexOr(impl.CanonPut(n)), "300", hexOr(impl.CanonPut(n)))...)
	for _, size := range []int{0, 1, 2, 5, 6, 7, 8, 199, 200, 201, 999999999} {
		checkSession(t, lines+"send "+strconv.Itoa(size), append(oks, hexOr(impl.Send(n, size)))...)
	}
	for _, size := range []string{"0", "201", "-1", "x", "1234567890"} {
		checkSession(t, lines+"send "+size+"|get 5", append(oks, "no", "9")...)
	}
}

// answerIn is what a line is answered by, of a record that it may change, told from the document. Its numbers are such.
func answerIn(n *impl.Node, line string) string {
	fields, words := sessionFields(), strings.Split(line, " ")
	number := func(i int) int {
		out, _ := strconv.Atoi(words[i])
		return out
	}
	switch words[0] {
	case "choice":
		return strconv.Itoa(numberIn(n.Data, 16*layoutIn(fields).Tag, 16, 0))
	case "get":
		v, ok := getIn(fields, *n, number(1))
		if !ok {
			return "none"
		}
		if isNothing(v.Node) {
			return strconv.Itoa(v.Num)
		}
		return "text " + strings.TrimSuffix(v.Node.Data, "\x00")
	}
	at, v := number(1), impl.Val{}
	f := fields[at]
	if words[0] == "text" {
		v.Node = dataNode(impl.SizeOne, len(words[2])+1, words[2]+"\x00")
	} else {
		v.Num = number(2)
	}
	most := 0
	if f.Size != impl.SizePoint {
		most = 1<<min(bitsIn(f.Size), 32) - 1
	}
	if v.Num > most || f.Size != impl.SizePoint && !isNothing(v.Node) {
		return "no"
	}
	*n = setIn(fields, *n, at, v)
	return "ok"
}

// Promise 34: any lines, against what the document tells.
func TestSessionOfAnyLines(t *testing.T) {
	r := rand.New(rand.NewSource(68))
	for range 3000 {
		n, lines, want := impl.Node{}, []string{}, ""
		for range r.Intn(41) {
			field := strconv.Itoa(r.Intn(7))
			nums := []int{0, 1, 7, 255, 256, 65535, 65536, r.Intn(1000000000)}
			words := []string{"a", "hi", "get", "-1", strings.Repeat("long", 20)}
			line := []string{"get " + field, "choice", "num " + field + " " + strconv.Itoa(nums[r.Intn(len(nums))]), "text " + field + " " + words[r.Intn(len(words))]}[r.Intn(4)]
			lines = append(lines, line)
			want += answerIn(&n, line) + "\n"
		}
		if got := impl.Session(lines); got != want {
			t.Fatalf("%q is answered by %q, not %q", lines, got, want)
		}
	}
}
