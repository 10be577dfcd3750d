package tests

import (
	"fmt"
	"math/rand"
	"slices"
	"strings"
	"testing"

	"loop.example/quoin/impl"
)

// stepsIn is the steps of a value, in order, told from the document.
func stepsIn(d impl.Datum) []string {
	if d.Kind == impl.DatumTree {
		return d.Names
	}
	var steps []string
	for i := range d.List {
		steps = append(steps, fmt.Sprint(i))
	}
	return steps
}

// isBranch says whether a value is a list or a tree.
func isBranch(d impl.Datum) bool {
	return d.Kind == impl.DatumList || d.Kind == impl.DatumTree
}

// atIn is what is at the end of a path, and whether there is something, told from the document.
func atIn(d impl.Datum, path []string) (impl.Datum, bool) {
	if len(path) == 0 {
		return d, true
	}
	for i, step := range stepsIn(d) {
		if step == path[0] {
			return atIn(d.List[i], path[1:])
		}
	}
	return impl.Datum{}, false
}

// putAtIn is a value with another one at the end of a path, where there must be something, told from the document. They share memory.
func putAtIn(d impl.Datum, path []string, x impl.Datum) impl.Datum {
	if len(path) == 0 {
		return x
	}
	at := slices.Index(stepsIn(d), path[0])
	d.List = slices.Clone(d.List)
	d.List[at] = putAtIn(d.List[at], path[1:], x)
	return d
}

// behind is paths with a step ahead.
func behind(step string, paths [][]string) [][]string {
	var out [][]string
	for _, path := range paths {
		out = append(out, append([]string{step}, path...))
	}
	return out
}

// pathsIn is the paths to a value itself and all within, in order.
func pathsIn(d impl.Datum) [][]string {
	out := [][]string{{}}
	for i, step := range stepsIn(d) {
		out = append(out, behind(step, pathsIn(d.List[i]))...)
	}
	return out
}

// endsIn is the paths to all that is no list nor tree, in order, told from the document.
func endsIn(d impl.Datum) [][]string {
	var out [][]string
	for _, path := range pathsIn(d) {
		if x, _ := atIn(d, path); !isBranch(x) {
			out = append(out, path)
		}
	}
	return out
}

// differIn is the paths at which two values differ, told from the document.
func differIn(a, b impl.Datum) [][]string {
	if sameDatumIn(a, b) {
		return nil
	}
	if a.Kind != b.Kind || !isBranch(a) || !slices.Equal(stepsIn(a), stepsIn(b)) {
		return [][]string{{}}
	}
	var out [][]string
	for i, step := range stepsIn(a) {
		out = append(out, behind(step, differIn(a.List[i], b.List[i]))...)
	}
	return out
}

// samePaths says whether two lists of paths are the same.
func samePaths(a, b [][]string) bool {
	return slices.EqualFunc(a, b, slices.Equal)
}

// goesOn says whether a path begins with another one.
func goesOn(path, from []string) bool {
	return len(path) >= len(from) && slices.Equal(path[:len(from)], from)
}

// noSteps are texts that are no step of any value that has no more names than the pools have, and no more items than it may.
func noSteps() []string {
	return []string{
		"", " ", "-1", "-0", "+0", "+1", "00", "01", "001", "0 ", " 0", "0x0", "0b1", "0.0", "1e0", "1_0", "0_0", "\x00", "0\x00", "\xd9\xa0", "20", "21", "99", "4294967296", "18446744073709551616", "-18446744073709551616", "9223372036854775807", "9223372036854775808", "-9223372036854775808", strings.Repeat("0", 1000), strings.Repeat("1", 1000),
		"a ", " a", "aa", "a.b", "a/b", "0/0", "[0]", "(a)", "xyz", "é", "\xff", "a\x00", "abcdefghij0", "@0", "#0",
	}
}

// checkAt checks that something is at the end of a path.
func checkAt(t *testing.T, d impl.Datum, path []string, want impl.Datum) {
	t.Helper()
	if x, ok := impl.PathGet(d, path); !ok || !sameDatumIn(x, want) {
		t.Fatalf("%+v has at %q %+v, %v, not %+v", d, path, x, ok, want)
	}
}

// checkNoneAt checks that nothing is at the end of a path.
func checkNoneAt(t *testing.T, d impl.Datum, path []string) {
	t.Helper()
	if x, ok := impl.PathGet(d, path); ok || !sameDatumIn(x, impl.Datum{}) {
		t.Fatalf("%q leads to %+v, %v", path, x, ok)
	}
}

// notWritten are values that cannot be written, without what holds itself.
func notWritten() []impl.Datum {
	var out []impl.Datum
	for _, bad := range append(badData(), treeDatum("a a", numDatum(1), numDatum(1)), impl.Datum{Kind: impl.DatumTree, Names: []string{""}, List: listDatum(numDatum(1)).List}, treeDatum("0", numDatum(1)), treeDatum("abcdefghijk", numDatum(1)), inside(numDatum(1), impl.DeepMax, false), inside(numDatum(1), impl.DeepMax, true)) {
		out = append(out, bad, listDatum(numDatum(1), bad), treeDatum("a b", numDatum(1), bad))
	}
	return append(out, inside(numDatum(1), 1000, false))
}

// someBranch is a list or a tree that can be written, at most so many within each other.
func someBranch(r *rand.Rand, deep int) impl.Datum {
	for {
		if d := someDatum(r, deep); isBranch(d) && len(d.List) > 0 {
			return d
		}
	}
}

// Promise 61.
func TestWhatIsAtTheEndOfAPath(t *testing.T) {
	r := rand.New(rand.NewSource(90))
	steps := 0
	for range 400 {
		d := someBranch(r, 2+r.Intn(5))
		was := copiedDatum(d)
		for _, path := range pathsIn(d) {
			want, _ := atIn(d, path)
			checkAt(t, d, path, want)
			if len(path) > 0 {
				steps++
				first, _ := impl.PathGet(d, path[:1])
				checkAt(t, first, path[1:], want)
			}
		}
		if !sameDatumIn(d, was) {
			t.Fatalf("%+v has changed to %+v", was, d)
		}
	}
	if steps < 4000 {
		t.Errorf("just %d paths have steps", steps)
	}
}

// Promise 61: a step that is none, the first one, one on the way, or one more.
func TestStepsThatAreNone(t *testing.T) {
	r := rand.New(rand.NewSource(91))
	for range 100 {
		d := someBranch(r, 2+r.Intn(4))
		for i, path := range pathsIn(d) {
			if i > 50 {
				break
			}
			x, _ := atIn(d, path)
			for k := range len(path) + 1 {
				for _, step := range noSteps() {
					checkNoneAt(t, d, slices.Insert(slices.Clone(path), k, step))
				}
			}
			checkNoneAt(t, d, append(slices.Clone(path), fmt.Sprint(len(x.List))))
			if x.Kind != impl.DatumTree {
				for _, name := range fieldPool {
					checkNoneAt(t, d, append(slices.Clone(path), name))
				}
			}
			if x.Kind != impl.DatumList {
				checkNoneAt(t, d, append(slices.Clone(path), "0"))
			}
		}
	}
}

// Promise 61: places of a list with as many as may be, and names of a tree.
func TestStepsOfListsAndTrees(t *testing.T) {
	list := listDatum()
	for i := range 20 {
		list.List = append(list.List, numDatum(100+i))
	}
	for i := range 20 {
		checkAt(t, list, []string{fmt.Sprint(i)}, numDatum(100+i))
		checkAt(t, treeDatum("a", list), []string{"a", fmt.Sprint(i)}, numDatum(100+i))
		checkNoneAt(t, list, []string{"0" + fmt.Sprint(i)})
		checkNoneAt(t, list, []string{"+" + fmt.Sprint(i)})
		checkNoneAt(t, list, []string{"-" + fmt.Sprint(i)})
	}
	checkNoneAt(t, list, []string{"20"})
	tree := treeDatum("b a A or void", numDatum(1), numDatum(2), numDatum(3), impl.Datum{}, textDatum("x"))
	for i, name := range tree.Names {
		checkAt(t, tree, []string{name}, tree.List[i])
		checkNoneAt(t, tree, []string{fmt.Sprint(i)})
		checkNoneAt(t, tree, []string{name, name})
	}
	checkNoneAt(t, tree, []string{"B"})
	for _, d := range []impl.Datum{{}, numDatum(7), textDatum("abc"), listDatum(), treeDatum("")} {
		checkAt(t, d, nil, d)
		checkAt(t, d, []string{}, d)
		checkNoneAt(t, d, []string{"0"})
		checkNoneAt(t, d, []string{"a"})
		checkNoneAt(t, d, []string{""})
	}
	deep := inside(numDatum(7), impl.DeepMax-1, false)
	checkAt(t, deep, times("0", impl.DeepMax-1), numDatum(7))
	checkNoneAt(t, deep, times("0", impl.DeepMax))
	checkNoneAt(t, deep, times("0", 100000))
}

// Promises 61, 63 and 64: what cannot be written has no paths.
func TestPathsOfWhatIsNotWritten(t *testing.T) {
	for _, bad := range append(notWritten(), datumLoops()...) {
		for _, path := range [][]string{nil, {"0"}, {"a"}, {"1"}, {"b"}, {"0", "0"}, {"l"}, {"a", "l"}} {
			checkNoneAt(t, bad, path)
		}
		if all := impl.PathAll(bad); len(all) != 0 {
			t.Errorf("%q are paths of what is not written", all)
		}
		for _, d := range []impl.Datum{{}, numDatum(1), listDatum(), listDatum(numDatum(1)), treeDatum("a", numDatum(1)), bad} {
			if one, two := impl.Differ(d, bad), impl.Differ(bad, d); len(one) != 0 || len(two) != 0 {
				t.Errorf("%q and %q are told of what is not written", one, two)
			}
		}
	}
}

// otherParts are values that may stand where another one does, and such that may not.
func otherParts(r *rand.Rand, s impl.Schema, name string, x impl.Datum, path []string) []impl.Datum {
	out := []impl.Datum{x, changedDatum(r, x), someDatum(r, 2), numDatum(r.Intn(8)), textDatum(someText(r, 3)), listDatum(), treeDatum(""), {}}
	if tree, ok := someTree(r, s, name, 4); ok {
		out = append(out, tree)
		if other, ok := atIn(tree, path); ok {
			out = append(out, other)
		}
	}
	if len(x.List) > 0 {
		out = append(out, listDatum(x.List...), listDatum(append(slices.Clone(x.List), x.List[0])...), listDatum(x.List[0]), x.List[0])
	}
	bad := append(badData(), datumLoops()...)
	return append(out, bad[r.Intn(len(bad))])
}

// checkSet checks that something is put at the end of a path, or not, as the document tells, and says whether it is.
func checkSet(t *testing.T, s impl.Schema, name string, d impl.Datum, path []string, x impl.Datum, loops bool) bool {
	t.Helper()
	e, ok := impl.PathSet(s, name, d, path, x)
	was, there := atIn(d, path)
	if !there || loops || !fitsIn(s, name, putAtIn(d, path, x)) {
		if ok || !sameDatumIn(e, d) {
			t.Fatalf("%+v of %s of %q with something else at %q: %+v, %v", d, name, textIn(s), path, e, ok)
		}
		return false
	}
	if !ok || !sameDatumIn(e, putAtIn(d, path, x)) {
		t.Fatalf("%+v of %s of %q with %+v at %q: %+v, %v", d, name, textIn(s), x, path, e, ok)
	}
	checkAt(t, e, path, x)
	paths := impl.Differ(d, e)
	for _, p := range paths {
		if !goesOn(p, path) {
			t.Fatalf("%+v with %+v at %q differs at %q", d, x, path, p)
		}
	}
	if (len(paths) == 0) != sameDatumIn(was, x) {
		t.Fatalf("%+v with %+v at %q differs at %q", d, x, path, paths)
	}
	if back, ok := impl.PathSet(s, name, e, path, was); !ok || !sameDatumIn(back, d) {
		t.Fatalf("%+v put back at %q is %+v, %v", was, path, back, ok)
	}
	return true
}

// isLoop says whether a value is one of those that hold themselves.
func isLoop(d impl.Datum) bool {
	return slices.ContainsFunc(datumLoops(), func(x impl.Datum) bool { return impl.DatumSame(d, x) })
}

// Promise 62.
func TestWhatWasPutAtTheEndOfAPath(t *testing.T) {
	set, not := 0, 0
	someValues(t, 92, 120, 240, func(r *rand.Rand, s impl.Schema, name string, d impl.Datum) {
		was := copiedDatum(d)
		for i, path := range shuffled(r, pathsIn(d)) {
			if i > 12 {
				break
			}
			x, _ := atIn(d, path)
			for _, other := range otherParts(r, s, name, x, path) {
				if checkSet(t, s, name, d, path, other, isLoop(other)) {
					set++
				} else {
					not++
				}
			}
			steps := noSteps()
			checkSet(t, s, name, d, append(slices.Clone(path), steps[r.Intn(len(steps))]), x, false)
		}
		if !sameDatumIn(d, was) {
			t.Fatalf("%+v has changed to %+v", was, d)
		}
	})
	if set < 2500 || not < 2500 {
		t.Errorf("%d were put, %d were not", set, not)
	}
}

// Promise 62: what may be put, and what may not.
func TestEdgesOfWhatIsPut(t *testing.T) {
	s := schemaOf(t, edgeSchema)
	for _, c := range []struct{ name, text, path, part, want string }{
		{"A", "(n = 6)", "n", "7", "(n = 7)"}, {"A", "(n = 6)", "n", "6", "(n = 6)"}, {"A", "(n = 6)", "n", "5", ""}, {"A", "(n = 6)", "n", "256", ""}, {"A", "(n = 6)", "n", "void", ""}, {"A", "(n = 6)", "n", "\"6\"", ""}, {"A", "(n = 6)", "n", "[7]", ""}, {"A", "(n = 6)", "i", "7", ""}, {"A", "(n = 6)", "0", "7", ""}, {"A", "(n = 6)", "n 0", "7", ""}, {"A", "(n = 6)", "N", "7", ""},
		{"A", "(n = 6)", "", "()", "()"}, {"A", "(n = 6)", "", "(n = 5)", ""}, {"A", "(n = 6)", "", "6", ""}, {"A", "(n = 6)", "", "(t = \"\")", "(t = \"\")"}, {"A", "()", "n", "7", ""}, {"A", "()", "", "(n = 7)", "(n = 7)"},
		{"A", "(l = [(), (n = 1)])", "l", "[]", ""}, {"A", "(l = [(), (n = 1)])", "l", "[()]", "(l = [()])"}, {"A", "(l = [(), (n = 1)])", "l 0", "(a = ())", "(l = [(a = ()), (n = 1)])"}, {"A", "(l = [(), (n = 1)])", "l 0", "(a = (a = ()))", ""}, {"A", "(l = [(), (n = 1)])", "l 1 n", "2", "(l = [(), (n = 2)])"}, {"A", "(l = [(), (n = 1)])", "l 0 n", "2", ""}, {"A", "(l = [(), (n = 1)])", "l 2", "()", ""}, {"A", "(l = [(), (n = 1)])", "l -1", "()", ""}, {"A", "(l = [(), (n = 1)])", "l 01", "()", ""}, {"A", "(l = [(), (n = 1)])", "l 1", "(x = 1)", ""},
		{"A", "(a = (a = (a = ())))", "a a a", "(n = 6)", "(a = (a = (a = (n = 6))))"}, {"A", "(a = (a = (a = ())))", "a a a", "(a = ())", ""}, {"A", "(bs = [1, 0])", "bs 1", "1", "(bs = [1, 1])"}, {"A", "(bs = [1, 0])", "bs 1", "2", ""}, {"A", "(bs = [1, 0])", "bs 2", "1", ""}, {"A", "(ts = [\"a\"])", "ts 0", "\"\"", "(ts = [\"\"])"}, {"A", "(ts = [\"a\"])", "ts 0", "1", ""}, {"A", "(e = 2)", "e", "0", "(e = 0)"}, {"A", "(e = 2)", "e", "1", ""}, {"A", "(e = 2)", "e", "3", ""},

		// A choice may be what it is by itself; which one is there stays.
		{"C", "(n = 8)", "n", "7", "(n = 7)"}, {"C", "(n = 8)", "t", "\"\"", ""}, {"C", "(n = 8)", "", "(t = \"\")", "(t = \"\")"}, {"C", "(n = 8)", "", "()", ""}, {"C", "(n = 8, y = 0)", "y", "1", ""}, {"C", "(c = (n = 7))", "c", "(e = 2)", "(c = (e = 2))"}, {"C", "(c = (n = 7))", "c", "()", ""},
	} {
		d, ok := impl.DatumGet(c.text)
		x, also := impl.DatumGet(c.part)
		if !ok || !also || !impl.DatumFits(s, c.name, d) {
			t.Fatalf("%q or %q is none", c.text, c.part)
		}
		path := strings.Fields(c.path)
		want := c.want
		if want == "" {
			want = c.text
		}
		e, set := impl.PathSet(s, c.name, d, path, x)
		if set != (c.want != "") || impl.DatumPut(e) != want {
			t.Errorf("%s with %s at %q is %s, %v", c.text, c.part, path, impl.DatumPut(e), set)
		}
		checkSet(t, s, c.name, d, path, x, false)
	}
	most := treeDatum("bs", listDatum(times(numDatum(1), 20)...))
	checkSet(t, s, "A", most, []string{"bs", "19"}, numDatum(0), false)
	if _, ok := impl.PathSet(s, "A", most, []string{"bs"}, listDatum(times(numDatum(1), 21)...)); ok {
		t.Error("a list of 21 was put")
	}
}

// Promise 62: of what does not fit there is nothing.
func TestNothingIsPutIntoWhatDoesNotFit(t *testing.T) {
	s := schemaOf(t, edgeSchema)
	none := func(s impl.Schema, name string, d impl.Datum, path []string, x impl.Datum) {
		t.Helper()
		if e, ok := impl.PathSet(s, name, d, path, x); ok || !sameDatumIn(e, impl.Datum{}) {
			t.Fatalf("what does not fit %s has with something at %q %+v, %v", name, path, e, ok)
		}
	}
	paths := [][]string{nil, {"n"}, {"a"}, {"l", "0"}, {"0"}, {"x"}}
	bad := append(append(notWritten(), datumLoops()...), impl.Datum{}, numDatum(1), treeDatum("n", numDatum(5)), treeDatum("a", numDatum(1)), treeDatum("l", listDatum()), treeDatum("x", numDatum(1)))
	for _, path := range paths {
		for _, d := range bad {
			for _, x := range []impl.Datum{treeDatum(""), numDatum(6), {}, d} {
				none(s, "A", d, path, x)
			}
		}
		for _, name := range []string{"", "E", "a", "B", "U8", "Text"} {
			none(s, name, treeDatum(""), path, treeDatum(""))
			none(s, name, treeDatum("n", numDatum(6)), path, treeDatum(""))
		}
		none(impl.Schema{}, "A", treeDatum("n", numDatum(6)), path, numDatum(7))
	}
	r := rand.New(rand.NewSource(93))
	someValues(t, 93, 200, 400, func(_ *rand.Rand, s impl.Schema, name string, d impl.Datum) {
		if x := changedSchema(r, s); checkIn(x) != impl.IdlFine {
			none(x, name, d, nil, d)
		}
		for range 4 {
			if x := changedDatum(r, d); !fitsIn(s, name, x) {
				none(s, name, x, nil, d)
			}
		}
	})
}

// Promise 63.
func TestAllPathsLeadToWhatHasNoParts(t *testing.T) {
	r := rand.New(rand.NewSource(94))
	found := 0
	for range 1000 {
		d := someBranch(r, 2+r.Intn(5))
		was := copiedDatum(d)
		all := impl.PathAll(d)
		if !samePaths(all, endsIn(d)) {
			t.Fatalf("%+v has the paths %q, not %q", d, all, endsIn(d))
		}
		seen := map[string]bool{}
		for _, path := range all {
			found++
			x, ok := impl.PathGet(d, path)
			if key := fmt.Sprintf("%q", path); !ok || isBranch(x) || seen[key] {
				t.Fatalf("%+v has at %q %+v, %v, or twice", d, path, x, ok)
			} else {
				seen[key] = true
			}
		}
		if !sameDatumIn(d, was) {
			t.Fatalf("%+v has changed to %+v", was, d)
		}
	}
	if found < 4000 {
		t.Errorf("just %d paths", found)
	}
	for text, want := range map[string]string{
		"void": "[[]]", "7": "[[]]", "\"a\"": "[[]]", "[]": "[]", "()": "[]", "[[], ()]": "[]", "(a = [], b = ())": "[]", "[1, 1, 1]": "[[0] [1] [2]]", "(b = 1, a = void)": "[[b] [a]]", "[[], [1], (x = [\"\", []]), 2]": "[[1 0] [2 x 0] [3]]", "(a = [(b = 1, c = [2])])": "[[a 0 b] [a 0 c 0]]", "[0, 1, 2, 3, 4, 5, 6, 7, 8, 9, 10]": "[[0] [1] [2] [3] [4] [5] [6] [7] [8] [9] [10]]",
	} {
		d, ok := impl.DatumGet(text)
		if got := fmt.Sprint(impl.PathAll(d)); !ok || got != want {
			t.Errorf("%s has the paths %s", text, got)
		}
	}
}

// Promise 64.
func TestWhereTwoValuesDiffer(t *testing.T) {
	r := rand.New(rand.NewSource(95))
	same, nearer := 0, 0
	for range 2000 {
		d := someBranch(r, 2+r.Intn(5))
		x := changedDatum(r, d)
		others := []impl.Datum{copiedDatum(d), x, changedDatum(r, x), someDatum(r, 2)}
		was, also := copiedDatum(d), copiedDatum(x)
		for _, e := range others {
			paths := impl.Differ(d, e)
			if !isPutIn(e, impl.DeepMax) {
				if len(paths) != 0 {
					t.Fatalf("%q are told of %+v", paths, e)
				}
				continue
			}
			if !samePaths(paths, differIn(d, e)) || !samePaths(impl.Differ(e, d), paths) || (len(paths) == 0) != sameDatumIn(d, e) {
				t.Fatalf("%+v and %+v differ at %q, not at %q", d, e, paths, differIn(d, e))
			}
			for _, path := range paths {
				a, one := impl.PathGet(d, path)
				b, two := impl.PathGet(e, path)
				if !one || !two || impl.DatumSame(a, b) {
					t.Fatalf("%+v and %+v have at %q %+v and %+v", d, e, path, a, b)
				}
				if len(path) > 0 {
					nearer++
				}
			}
			if len(paths) == 0 {
				same++
			}
		}
		if !sameDatumIn(d, was) || !sameDatumIn(x, also) {
			t.Fatalf("%+v or %+v has changed", was, also)
		}
	}
	if same < 2000 || nearer < 500 {
		t.Errorf("%d are the same, %d differ further on", same, nearer)
	}
}

// Promise 64: where just.
func TestEdgesOfWhereValuesDiffer(t *testing.T) {
	for _, c := range [][3]string{
		{"1", "1", "[]"}, {"void", "void", "[]"}, {"[]", "[]", "[]"}, {"()", "()", "[]"}, {"[1, [2], (a = 3)]", "[1, [2], (a = 3)]", "[]"},
		{"1", "2", "[[]]"}, {"void", "0", "[[]]"}, {"0", "\"\"", "[[]]"}, {"\"\"", "[]", "[[]]"}, {"[]", "()", "[[]]"}, {"\"a\"", "\"b\"", "[[]]"}, {"[]", "void", "[[]]"}, {"[]", "[void]", "[[]]"}, {"[1]", "[1, 2]", "[[]]"}, {"[1, 2]", "[2]", "[[]]"}, {"()", "(a = 1)", "[[]]"}, {"(a = 1)", "(b = 1)", "[[]]"}, {"(a = 1)", "(a = 1, b = 2)", "[[]]"}, {"(a = 1, b = 2)", "(b = 2, a = 1)", "[[]]"}, {"(a = 1, b = 1)", "(b = 1, a = 1)", "[[]]"}, {"[1]", "(a = 1)", "[[]]"},
		{"[1]", "[2]", "[[0]]"}, {"[1, 2, 3]", "[1, 3, 2]", "[[1] [2]]"}, {"(a = 1, b = 2)", "(a = 2, b = 2)", "[[a]]"}, {"(a = 1, b = 2)", "(a = 2, b = 1)", "[[a] [b]]"}, {"(b = 1, a = 2)", "(b = 2, a = 1)", "[[b] [a]]"}, {"[[1, 2], [3]]", "[[1, 4], [3, 4]]", "[[0 1] [1]]"}, {"(a = [(b = 1)])", "(a = [(b = 2)])", "[[a 0 b]]"}, {"(a = [(b = 1)])", "(a = [(c = 1)])", "[[a 0]]"}, {"(a = [(b = 1)])", "(a = [])", "[[a]]"}, {"[[], 1]", "[(), void]", "[[0] [1]]"},
	} {
		a, one := impl.DatumGet(c[0])
		b, two := impl.DatumGet(c[1])
		if got := fmt.Sprint(impl.Differ(a, b)); !one || !two || got != c[2] {
			t.Errorf("%s and %s differ at %s", c[0], c[1], got)
		}
	}
	deep := inside(numDatum(1), impl.DeepMax-1, true)
	if paths := impl.Differ(deep, inside(numDatum(2), impl.DeepMax-1, true)); !samePaths(paths, [][]string{times("a", impl.DeepMax-1)}) {
		t.Errorf("what is deep differs at %q", paths)
	}
}

// Promise 88.
func TestTwoThingsPutAtTwoPaths(t *testing.T) {
	both := 0
	someValues(t, 96, 300, 600, func(r *rand.Rand, s impl.Schema, name string, d impl.Datum) {
		paths := pathsIn(d)
		for range 20 {
			p, q := paths[r.Intn(len(paths))], paths[r.Intn(len(paths))]
			if goesOn(p, q) || goesOn(q, p) {
				continue
			}
			was, _ := atIn(d, p)
			is, _ := atIn(d, q)
			xs, ys := otherParts(r, s, name, was, p), otherParts(r, s, name, is, q)
			x, y := xs[r.Intn(len(xs))], ys[r.Intn(len(ys))]
			one, first := impl.PathSet(s, name, d, p, x)
			a, second := impl.PathSet(s, name, one, q, y)
			two, third := impl.PathSet(s, name, d, q, y)
			b, fourth := impl.PathSet(s, name, two, p, x)
			if !sameDatumIn(a, b) || first != fourth || second != third {
				t.Fatalf("%+v with %+v at %q and %+v at %q is %+v and %+v", d, x, p, y, q, a, b)
			}
			if first && second {
				both++
				checkAt(t, a, p, x)
				checkAt(t, a, q, y)
			}
		}
	})
	if both < 500 {
		t.Errorf("just %d were both put", both)
	}
}

// Promise 90.
func TestValuesDifferIfTheirRecordsDo(t *testing.T) {
	same, not := 0, 0
	someValues(t, 97, 240, 480, func(r *rand.Rand, s impl.Schema, name string, d impl.Datum) {
		if !isMade(s, name, d) {
			return
		}
		all := []impl.Datum{copiedDatum(d)}
		if other, ok := someTree(r, s, name, 4); ok {
			all = append(all, other)
		}
		for range 10 {
			all = append(all, changedDatum(r, d))
		}
		for _, path := range impl.PathAll(d) {
			x, _ := atIn(d, path)
			if e, ok := impl.PathSet(s, name, d, path, changedDatum(r, x)); ok {
				all = append(all, e)
			}
		}
		for _, x := range all {
			if !fitsIn(s, name, x) || !isMade(s, name, x) {
				continue
			}
			none := len(impl.Differ(d, x)) == 0
			if none != impl.Alike(madeOf(t, s, name, d), madeOf(t, s, name, x)) {
				t.Fatalf("%+v and %+v differ at %q", d, x, impl.Differ(d, x))
			}
			if none {
				same++
			} else {
				not++
			}
		}
	})
	if same < 400 || not < 500 {
		t.Errorf("%d are the same, %d are not", same, not)
	}
}

// spoil writes into all memory of a value, spare room included.
func spoil(d impl.Datum) {
	for _, x := range d.List {
		spoil(x)
	}
	clear(d.List[:cap(d.List)])
	clear(d.Names[:cap(d.Names)])
}

// Promises 61 to 64: what is answered shares no memory with what was asked, nor with itself.
func TestPathsShareNoMemory(t *testing.T) {
	someValues(t, 98, 40, 80, func(r *rand.Rand, s impl.Schema, name string, d impl.Datum) {
		was := copiedDatum(d)
		for _, path := range pathsIn(d) {
			x, _ := impl.PathGet(d, path)
			part := copiedDatum(x)
			for _, y := range []impl.Datum{part, {}} {
				e, _ := impl.PathSet(s, name, d, path, y)
				spoil(e)
			}
			if !sameDatumIn(part, x) {
				t.Fatalf("%+v put at %q has changed to %+v", x, path, part)
			}
			spoil(x)
			if !sameDatumIn(d, was) {
				t.Fatalf("%+v has changed to %+v behind %q", was, d, path)
			}
		}
		// One list twice within what is put is two in the answer.
		l := listDatum(numDatum(1))
		if e, ok := impl.PathGet(listDatum(l, l), nil); !ok || &e.List[0].List[0] == &e.List[1].List[0] {
			t.Fatal("two lists share memory")
		}
		for _, paths := range [][][]string{impl.PathAll(d), impl.Differ(d, putAtIn(d, nil, treeDatum(""))), impl.Differ(listDatum(d, d), listDatum(treeDatum("x", d), numDatum(1)))} {
			for i, path := range paths {
				rest := fmt.Sprint(paths[i+1:])
				for k := range path[:cap(path)] {
					path[:cap(path)][k] = "spoilt"
				}
				if fmt.Sprint(paths[i+1:]) != rest {
					t.Fatalf("two of %q share memory", paths)
				}
			}
		}
		if !sameDatumIn(d, was) {
			t.Fatalf("%+v has changed to %+v", was, d)
		}
	})
}
