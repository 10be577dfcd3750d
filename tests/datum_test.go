package tests

import (
	"math"
	"math/rand"
	"slices"
	"strings"
	"testing"

	"loop.example/quoin/impl"
)

// numDatum is a number as a value.
func numDatum(n int) impl.Datum {
	return impl.Datum{Kind: impl.DatumNum, Num: n}
}

// textDatum is a text as a value.
func textDatum(text string) impl.Datum {
	return impl.Datum{Kind: impl.DatumText, Text: text}
}

// listDatum is a list as a value.
func listDatum(list ...impl.Datum) impl.Datum {
	return impl.Datum{Kind: impl.DatumList, List: list}
}

// treeDatum is a tree, of names with a blank between, and of what they name.
func treeDatum(names string, list ...impl.Datum) impl.Datum {
	return impl.Datum{Kind: impl.DatumTree, Names: strings.Fields(names), List: list}
}

// sameDatumIn says whether two values that do not hold themselves are the same, told from the document.
func sameDatumIn(a, b impl.Datum) bool {
	return a.Kind == b.Kind && a.Num == b.Num && a.Text == b.Text && slices.Equal(a.Names, b.Names) && slices.EqualFunc(a.List, b.List, sameDatumIn)
}

// copiedDatum is a value in memory of its own.
func copiedDatum(d impl.Datum) impl.Datum {
	d.Names = slices.Clone(d.Names)
	var list []impl.Datum
	for _, x := range d.List {
		list = append(list, copiedDatum(x))
	}
	d.List = list
	return d
}

// isDatumIn says whether a value is one, with all within, told from the document.
func isDatumIn(d impl.Datum) bool {
	for _, x := range d.List {
		if !isDatumIn(x) {
			return false
		}
	}
	bare := impl.Datum{Kind: d.Kind}
	switch d.Kind {
	case impl.DatumNone:
	case impl.DatumNum:
		bare.Num = d.Num
		if d.Num < -mostNumber || d.Num > mostNumber {
			return false
		}
	case impl.DatumText:
		bare.Text = d.Text
		if len(d.Text) > 100 || strings.Contains(d.Text, "\x00") {
			return false
		}
	case impl.DatumList:
		bare.List = d.List
		if len(d.List) > 20 {
			return false
		}
	case impl.DatumTree:
		bare.List, bare.Names = d.List, d.Names
		if len(d.Names) > impl.DeclMax || len(d.List) != len(d.Names) {
			return false
		}
	default:
		return false
	}
	return sameDatumIn(d, bare)
}

// isOfIn says whether a value is of a type, down to a depth, told from the document.
func isOfIn(s impl.Schema, t impl.Type, d impl.Datum, deep int) bool {
	if t.List {
		if d.Kind != impl.DatumList || len(d.List) == 0 || deep == 0 {
			return false
		}
		for _, x := range d.List {
			if !isOfIn(s, impl.Type{Base: t.Base}, x, deep-1) {
				return false
			}
		}
		return true
	}
	if declsIn(s, t.Base) != nil {
		return treeOfIn(s, t.Base, d, deep-1)
	}
	if t.Base == "Text" {
		return d.Kind == impl.DatumText
	}
	end := endIn(s, t)
	return d.Kind == impl.DatumNum && (end == 0 || d.Num >= 0 && d.Num < end)
}

// treeOfIn says whether a value is a tree of a struct, of a depth, told from the document.
func treeOfIn(s impl.Schema, name string, d impl.Datum, deep int) bool {
	if d.Kind != impl.DatumTree || deep < 1 {
		return false
	}
	left, some, there := d.Names, 0, 0
	for _, decl := range declsIn(s, name) {
		if decl.Choice {
			some = 1
		}
		if len(left) == 0 || left[0] != decl.Name {
			continue
		}
		x := d.List[len(d.List)-len(left)]
		left = left[1:]
		if !isOfIn(s, decl.Type, x, deep) || !decl.Choice && x.Kind == impl.DatumNum && x.Num == decl.Else {
			return false
		}
		if decl.Choice {
			there++
		}
	}
	return len(left) == 0 && there == some
}

// fitsIn says whether a value fits a struct of a schema that is fine, told from the document.
func fitsIn(s impl.Schema, name string, d impl.Datum) bool {
	return declsIn(s, name) != nil && isDatumIn(d) && treeOfIn(s, name, d, 4)
}

// valIn is what a field of a type holds of a value, told from the document.
func valIn(s impl.Schema, t impl.Type, d impl.Datum) impl.Val {
	switch {
	case t.List:
		return impl.Val{Node: listIn(s, impl.Type{Base: t.Base}, d.List)}
	case declsIn(s, t.Base) != nil:
		return impl.Val{Node: recordIn(s, t.Base, d)}
	case t.Base == "Text":
		return impl.Val{Node: dataNode(impl.SizeOne, len(d.Text)+1, d.Text+"\x00")}
	}
	return impl.Val{Num: d.Num}
}

// listIn is the list of a base, told from the document.
func listIn(s impl.Schema, t impl.Type, list []impl.Datum) impl.Node {
	var nodes []impl.Node
	bits := bitsIn(sizeIn(s, t))
	data := strings.Repeat("\x00", (bits*len(list)+7)/8)
	for i, x := range list {
		v := valIn(s, t, x)
		nodes = append(nodes, v.Node)
		data = withNumber(data, i*bits, bits, 0, v.Num)
	}
	switch {
	case declsIn(s, t.Base) != nil:
		return manyNode(nodes...)
	case t.Base == "Text":
		return pointNode(nodes...)
	}
	return dataNode(sizeIn(s, t), len(list), data)
}

// recordIn is the record of a value that fits a struct, however much it takes, told from the document.
func recordIn(s impl.Schema, name string, d impl.Datum) impl.Node {
	fields, decls := fieldsIn(s, name), declsIn(s, name)
	l := layoutIn(fields)
	n := structNode(noughts(l.Data), times(impl.Node{}, l.Ptrs)...)
	for i, field := range d.Names {
		at := slices.IndexFunc(decls, func(decl impl.Decl) bool { return decl.Name == field })
		n = setIn(fields, n, at, valIn(s, decls[at].Type, d.List[i]))
	}
	return n
}

// readIn is what a field of a type holds as a value, told from the document.
func readIn(s impl.Schema, t impl.Type, v impl.Val, deep int) (impl.Datum, bool) {
	n := v.Node
	switch {
	case t.List:
		return readListIn(s, impl.Type{Base: t.Base}, n, deep-1)
	case declsIn(s, t.Base) != nil:
		return readTreeIn(s, t.Base, n, deep-1)
	case t.Base == "Text":
		text := strings.TrimSuffix(n.Data, "\x00")
		d := textDatum(text)
		return d, n.Kind == impl.NodeList && n.Size == impl.SizeOne && len(n.Data) == len(text)+1 && isDatumIn(d)
	}
	return numDatum(v.Num), isDatumIn(numDatum(v.Num)) && isOfIn(s, t, numDatum(v.Num), 0)
}

// readListIn is a list of a base as a value, told from the document.
func readListIn(s impl.Schema, t impl.Type, n impl.Node, deep int) (impl.Datum, bool) {
	size := sizeIn(s, t)
	if declsIn(s, t.Base) != nil {
		size = impl.SizeMany
	}
	if n.Kind != impl.NodeList || n.Size != size || n.Count == 0 || n.Count > 20 || deep < 0 {
		return impl.Datum{}, false
	}
	var list []impl.Datum
	for i := range n.Count {
		var v impl.Val
		switch size {
		case impl.SizeMany:
			v.Node = n.Items[i]
		case impl.SizePoint:
			v.Node = n.Ptrs[i]
		default:
			v.Num = numberIn(n.Data, i*bitsIn(size), bitsIn(size), 0)
		}
		x, ok := readIn(s, t, v, deep)
		if !ok {
			return impl.Datum{}, false
		}
		list = append(list, x)
	}
	return listDatum(list...), true
}

// readTreeIn is a record of a struct as a value, told from the document.
func readTreeIn(s impl.Schema, name string, n impl.Node, deep int) (impl.Datum, bool) {
	if n.Kind != impl.NodeStruct || deep < 1 {
		return impl.Datum{}, false
	}
	fields, out := fieldsIn(s, name), impl.Datum{Kind: impl.DatumTree}
	missing := slices.ContainsFunc(fields, func(f impl.Field) bool { return f.Choice })
	for at, decl := range declsIn(s, name) {
		v, there := getIn(fields, n, at)
		if !there || fields[at].Size == impl.SizePoint && isNothing(v.Node) {
			continue
		}
		x, ok := readIn(s, decl.Type, v, deep)
		if !ok {
			return impl.Datum{}, false
		}
		if decl.Choice {
			missing = false
		} else if x.Kind == impl.DatumNum && x.Num == decl.Else {
			continue
		}
		out.Names, out.List = append(out.Names, decl.Name), append(out.List, x)
	}
	if missing {
		return impl.Datum{}, false
	}
	return out, true
}

// someOf is a value of a type, down to a depth, and whether there is one.
func someOf(r *rand.Rand, s impl.Schema, t impl.Type, deep int) (impl.Datum, bool) {
	switch {
	case t.List:
		d := impl.Datum{Kind: impl.DatumList}
		for range []int{1, 1, 2, 3, 20}[r.Intn(5)] {
			x, ok := someOf(r, s, impl.Type{Base: t.Base}, deep-1)
			if !ok {
				return impl.Datum{}, false
			}
			d.List = append(d.List, x)
		}
		return d, deep > 0
	case declsIn(s, t.Base) != nil:
		return someTree(r, s, t.Base, deep-1)
	case t.Base == "Text":
		return textDatum(someText(r, []int{0, 1, 2, r.Intn(10), 100}[r.Intn(5)])), true
	}
	return numDatum(someNumber(r, s, t)), true
}

// someTree is a tree of a struct, of a depth, and whether there is one, of the choice that it tried.
func someTree(r *rand.Rand, s impl.Schema, name string, deep int) (impl.Datum, bool) {
	if deep < 1 {
		return impl.Datum{}, false
	}
	decls, d := declsIn(s, name), impl.Datum{Kind: impl.DatumTree}
	_, choices := placesIn(fieldsIn(s, name))
	choice := r.Intn(max(1, choices))
	for _, decl := range decls {
		must := decl.Choice && choice == 0
		if decl.Choice {
			choice--
		}
		if !must && (decl.Choice || r.Intn(2) == 0) {
			continue
		}
		x, ok := someOf(r, s, decl.Type, deep)
		if must && !ok {
			return impl.Datum{}, false
		}
		if ok && (must || x.Kind != impl.DatumNum || x.Num != decl.Else) {
			d.Names, d.List = append(d.Names, decl.Name), append(d.List, x)
		}
	}
	return d, true
}

// edgeSchema has a type of each kind in one struct, and structs that hold themselves.
const edgeSchema = `struct A {
  a @0 :A; l @1 :List(A); n @2 :U8 = 5; t @3 :Text; ts @4 :List(Text); bs @5 :List(Bool); i @6 :I64 = -1; e @7 :E = 1;
}
struct C { or n @0 :U16 = 7; or t @1 :Text; or c @2 :C; x @3 :List(E); or i @4 :I64; or l @5 :List(I64); or e @6 :E = 2; y @7 :Bool = 1; }
struct L { or t @0 :Text; us @1 :List(U8); vs @2 :List(U16); ws @3 :List(U32); is @4 :List(I64); n @5 :U32; cs @6 :List(C); b @7 :Bool; }
struct N { or n @0 :U8 = 9; c @1 :C; }
struct E1 { e @0 :E; }
enum E { p q r }`

// someValues does something with structs and values that fit them, and says how often at least.
func someValues(t *testing.T, seed int64, count, least int, do func(r *rand.Rand, s impl.Schema, name string, d impl.Datum)) {
	t.Helper()
	r := rand.New(rand.NewSource(seed))
	done := 0
	edge := schemaOf(t, edgeSchema)
	for i := range count {
		s := edge
		if i%2 == 0 {
			s = someSchema(r)
		}
		for _, x := range s.Structs {
			if d, ok := someTree(r, s, x.Name, 4); ok {
				do(r, s, x.Name, d)
				done++
			}
		}
	}
	if done < least {
		t.Errorf("just %d values fit", done)
	}
}

// isMade says whether a value that fits makes a record that is ok, told from the document.
func isMade(s impl.Schema, name string, d impl.Datum) bool {
	return okIn(recordIn(s, name, d))
}

// madeOf is the record of a value, which must be ok.
func madeOf(t *testing.T, s impl.Schema, name string, d impl.Datum) impl.Node {
	t.Helper()
	n, ok := impl.DatumNode(s, name, d)
	if !ok {
		t.Fatalf("%s of %q makes no record: %+v", name, textIn(s), d)
	}
	return n
}

// checkReads checks that a node is read as a value.
func checkReads(t *testing.T, s impl.Schema, name string, n impl.Node, want impl.Datum) {
	t.Helper()
	if d, ok := impl.NodeDatum(s, name, n); !ok || !impl.DatumSame(d, want) || !sameDatumIn(d, want) {
		t.Fatalf("%+v is read by %s of %q as %+v, %v, not %+v", n, name, textIn(s), d, ok, want)
	}
}

// checkNotRead checks that a node is not read.
func checkNotRead(t *testing.T, s impl.Schema, name string, n impl.Node) {
	t.Helper()
	if d, ok := impl.NodeDatum(s, name, n); ok || !sameDatumIn(d, impl.Datum{}) {
		t.Errorf("%+v is read by %s of %q as %+v, %v", n, name, textIn(s), d, ok)
	}
}

// checkNotMade checks that a value does not fit, or, if it does, makes no record all the same.
func checkNotMade(t *testing.T, s impl.Schema, name string, d impl.Datum, fits bool) {
	t.Helper()
	if n, ok := impl.DatumNode(s, name, d); ok || !isNothing(n) || impl.DatumFits(s, name, d) != fits {
		t.Errorf("%+v of %s of %q: %+v, %v, fits %v", d, name, textIn(s), n, ok, impl.DatumFits(s, name, d))
	}
}

// someDatum is a value of any kind, at most so many within each other.
func someDatum(r *rand.Rand, deep int) impl.Datum {
	kind := r.Intn(5)
	if deep == 1 {
		kind = r.Intn(3)
	}
	switch kind {
	case 1:
		return numDatum([]int{0, 1, -1, mostNumber, -mostNumber, r.Intn(1000)}[r.Intn(6)])
	case 2:
		return textDatum(someText(r, []int{0, 1, 5, 100}[r.Intn(4)]))
	case 3:
		d := listDatum()
		for range []int{0, 1, 2, 3, 20}[r.Intn(5)] {
			d.List = append(d.List, someDatum(r, max(1, deep-1-r.Intn(3))))
		}
		return d
	case 4:
		d := treeDatum("")
		for _, name := range shuffled(r, fieldPool)[:r.Intn(impl.DeclMax+1)] {
			d.Names, d.List = append(d.Names, name), append(d.List, someDatum(r, max(1, deep-1-r.Intn(3))))
		}
		return d
	}
	return impl.Datum{}
}

// badData are what is no value, without what is within others.
func badData() []impl.Datum {
	one := listDatum(numDatum(1)).List
	out := []impl.Datum{
		{Num: 1}, {Text: "a"}, {List: one}, {Names: []string{"a"}},
		{Kind: impl.DatumNum, Text: "a"}, {Kind: impl.DatumNum, List: one}, {Kind: impl.DatumNum, Names: []string{"a"}},
		{Kind: impl.DatumText, Num: 1}, {Kind: impl.DatumText, List: one}, {Kind: impl.DatumText, Names: []string{"a"}},
		{Kind: impl.DatumList, Num: 1}, {Kind: impl.DatumList, Text: "a"}, {Kind: impl.DatumList, Names: []string{"a"}, List: one},
		{Kind: impl.DatumTree, Num: 1}, {Kind: impl.DatumTree, Text: "a"}, {Kind: impl.DatumTree, List: one}, {Kind: impl.DatumTree, Names: []string{"a"}}, {Kind: impl.DatumTree, Names: []string{"a", "b"}, List: one},
		numDatum(mostNumber + 1), numDatum(-mostNumber - 1), numDatum(math.MinInt), numDatum(math.MaxInt),
		textDatum("\x00"), textDatum("a\x00"), textDatum(strings.Repeat("a", 101)), listDatum(times(numDatum(1), 21)...),
		treeDatum("a b c d e f g h i", times(numDatum(1), 9)...),
	}
	for _, kind := range append(strange(), 5, 6) {
		out = append(out, impl.Datum{Kind: kind}, impl.Datum{Kind: kind, Num: 1})
	}
	return out
}

// datumLoops are what holds itself.
func datumLoops() []impl.Datum {
	one, many, tree := make([]impl.Datum, 1), make([]impl.Datum, 20), make([]impl.Datum, 2)
	one[0] = listDatum(one...)
	one[0].List = one
	for i := range many {
		many[i] = impl.Datum{Kind: impl.DatumList, List: many}
	}
	tree[0] = impl.Datum{Kind: impl.DatumTree, Names: []string{"a", "l"}, List: tree}
	tree[1] = impl.Datum{Kind: impl.DatumList, List: tree[:1]}
	return []impl.Datum{one[0], many[0], tree[0], tree[1], listDatum(one[0], numDatum(1)), listDatum(many...), treeDatum("a", tree[0])}
}

// changedDatum is a value with one part that is another one, at any place within it.
func changedDatum(r *rand.Rand, d impl.Datum) impl.Datum {
	d = copiedDatum(d)
	at := &d
	for len(at.List) > 0 && r.Intn(3) > 0 {
		at = &at.List[r.Intn(len(at.List))]
	}
	switch r.Intn(9) {
	case 0:
		at.Kind = r.Intn(6)
	case 1:
		at.Num += []int{1, -1, 255, 1 << 32}[r.Intn(4)]
	case 2:
		at.Text += "a"
	case 3:
		at.List = append(at.List, numDatum(1))
	case 4:
		at.Names = append(at.Names, "a")
	case 5:
		at.List, at.Names = at.List[:len(at.List)/2], at.Names[:len(at.Names)/2]
	case 6:
		slices.Reverse(at.List)
		slices.Reverse(at.Names)
	case 7:
		*at = someDatum(r, 3)
	case 8:
		if len(at.List) > 0 && len(at.Names) == len(at.List) {
			i := r.Intn(len(at.List))
			at.List, at.Names = slices.Insert(at.List, i, at.List[i]), slices.Insert(at.Names, i, at.Names[i])
		}
	}
	return d
}

// Promise 53.
func TestSameValues(t *testing.T) {
	r := rand.New(rand.NewSource(70))
	all := append(badData(), impl.Datum{}, numDatum(0), textDatum(""), listDatum(), treeDatum(""))
	for range 5000 {
		all = append(all, someDatum(r, 1+r.Intn(6)))
	}
	same := 0
	for i, d := range all {
		if x := copiedDatum(d); !impl.DatumSame(d, x) || !impl.DatumSame(x, d) || !impl.DatumSame(d, d) {
			t.Fatalf("%+v is not the same as itself", d)
		}
		for _, x := range []impl.Datum{changedDatum(r, d), all[r.Intn(len(all))], all[i%100]} {
			want := sameDatumIn(d, x)
			if impl.DatumSame(d, x) != want || impl.DatumSame(x, d) != want {
				t.Fatalf("%+v and %+v are the same: %v", d, x, !want)
			}
			if want {
				same++
			}
		}
	}
	if same < 100 || same > len(all) {
		t.Errorf("%d are the same", same)
	}
}

// Promise 53: names and items in another order, and what holds itself.
func TestValuesThatAreNotTheSame(t *testing.T) {
	empty := listDatum()
	empty.List = []impl.Datum{}
	if !impl.DatumSame(empty, listDatum()) {
		t.Error("the empty list is not the nil list")
	}
	for _, c := range [][2]impl.Datum{
		{listDatum(numDatum(1), numDatum(2)), listDatum(numDatum(2), numDatum(1))}, {treeDatum("a b", numDatum(1), numDatum(1)), treeDatum("b a", numDatum(1), numDatum(1))}, {treeDatum("a b", numDatum(1), numDatum(2)), treeDatum("b a", numDatum(2), numDatum(1))},
		{{}, numDatum(0)}, {numDatum(0), textDatum("")}, {listDatum(), treeDatum("")}, {listDatum(impl.Datum{}), listDatum()}, {listDatum(listDatum()), listDatum()}, {textDatum("a"), textDatum("a\x00")}, {textDatum("a"), textDatum("A")},
	} {
		if impl.DatumSame(c[0], c[1]) || impl.DatumSame(c[1], c[0]) {
			t.Errorf("%+v and %+v are the same", c[0], c[1])
		}
	}
	loops := datumLoops()
	for i, d := range loops {
		if !impl.DatumSame(d, d) || impl.DatumSame(d, numDatum(1)) || impl.DatumSame(listDatum(numDatum(1)), d) {
			t.Errorf("loop %d", i)
		}
	}
	if !impl.DatumSame(loops[0], datumLoops()[0]) || !impl.DatumSame(loops[2], datumLoops()[2]) || impl.DatumSame(loops[0], loops[1]) {
		t.Error("two loops")
	}
}

// Promises 76 and 77.
func TestWhatFits(t *testing.T) {
	fits := 0
	someValues(t, 71, 2000, 4000, func(r *rand.Rand, s impl.Schema, name string, d impl.Datum) {
		was := copiedDatum(d)
		if !impl.DatumFits(s, name, d) || !fitsIn(s, name, d) || d.Kind != impl.DatumTree {
			t.Fatalf("%+v does not fit %s of %q", d, name, textIn(s))
		}
		checkNames(t, s, name, d)
		if text := impl.DatumPut(d); text == "" {
			t.Fatalf("%+v is not written", d)
		} else if x, ok := impl.DatumGet(text); len(text) <= impl.DatumMax && (!ok || !impl.DatumFits(s, name, x)) {
			t.Fatalf("%q does not fit %s of %q", text, name, textIn(s))
		}
		for range 8 {
			x := changedDatum(r, d)
			if want := fitsIn(s, name, x); impl.DatumFits(s, name, x) != want {
				t.Fatalf("%+v fits %s of %q: %v", x, name, textIn(s), !want)
			} else if want {
				fits++
				checkNames(t, s, name, x)
			}
		}
		for _, x := range s.Structs {
			if want := fitsIn(s, x.Name, d); impl.DatumFits(s, x.Name, d) != want {
				t.Fatalf("%+v fits %s of %q: %v", d, x.Name, textIn(s), !want)
			}
		}
		if !sameDatumIn(d, was) {
			t.Fatalf("%+v has changed to %+v", was, d)
		}
	})
	if fits < 500 {
		t.Errorf("just %d that were changed fit", fits)
	}
}

// checkNames checks that the names of what fits are fields, by their numbers, as many as there are values.
func checkNames(t *testing.T, s impl.Schema, name string, d impl.Datum) {
	t.Helper()
	last := -1
	for _, field := range d.Names {
		at := slices.IndexFunc(declsIn(s, name), func(decl impl.Decl) bool { return decl.Name == field })
		if at <= last {
			t.Fatalf("%+v has %q behind another one of %s of %q", d, field, name, textIn(s))
		}
		last = at
	}
	if len(d.Names) != len(d.List) {
		t.Fatalf("%+v has not as many values as names", d)
	}
}

// fitCase is the text of a value, and whether it fits a struct.
type fitCase struct {
	name, text string
	fits       bool
}

// Promises 54, 76 and 77: the edges of what fits. What fits is read back from its record.
func TestEdgesOfWhatFits(t *testing.T) {
	s := schemaOf(t, edgeSchema)
	for _, c := range []fitCase{
		{"A", "()", true}, {"A", "(n = 6)", true}, {"A", "(n = 0)", true}, {"A", "(i = 0, e = 0)", true}, {"A", "(n = 255, i = 999999999999999999)", true}, {"A", "(i = -999999999999999999)", true}, {"A", "(e = 2)", true}, {"A", "(t = \"\")", true}, {"A", "(ts = [\"\"])", true}, {"A", "(bs = [0])", true}, {"A", "(bs = [1, 0, 1, 1, 0, 1, 0, 0, 1])", true}, {"A", "(a = ())", true}, {"A", "(l = [()])", true}, {"A", "(l = [(), (), (n = 1)])", true},

		// What is so by itself is not told, nor what is too great, or of another kind.
		{"A", "(n = 5)", false}, {"A", "(i = -1)", false}, {"A", "(e = 1)", false}, {"A", "(n = 256)", false}, {"A", "(n = -1)", false}, {"A", "(e = 3)", false}, {"A", "(e = -1)", false}, {"A", "(bs = [2])", false}, {"A", "(n = \"5\")", false}, {"A", "(n = void)", false}, {"A", "(n = [6])", false}, {"A", "(n = ())", false}, {"A", "(t = 1)", false}, {"A", "(t = void)", false}, {"A", "(t = [\"a\"])", false}, {"A", "(ts = \"a\")", false}, {"A", "(ts = [1])", false}, {"A", "(ts = [void])", false}, {"A", "(ts = [[\"a\"]])", false}, {"A", "(a = [()])", false}, {"A", "(a = void)", false}, {"A", "(a = 0)", false}, {"A", "(l = ())", false}, {"A", "(l = [1])", false}, {"A", "(l = [void])", false}, {"A", "void", false}, {"A", "5", false}, {"A", "\"\"", false}, {"A", "[]", false}, {"A", "[()]", false},

		// A list of nothing.
		{"A", "(l = [])", false}, {"A", "(ts = [])", false}, {"A", "(bs = [])", false}, {"L", "(t = \"\", us = [])", false}, {"L", "(t = \"\", cs = [])", false},

		// Names in the order of their numbers, each once, and none else.
		{"A", "(n = 6, t = \"a\")", true}, {"A", "(t = \"a\", n = 6)", false}, {"A", "(x = 1)", false}, {"A", "(N = 6)", false}, {"A", "(n = 6, x = 1)", false}, {"A", "(a = (x = 1))", false},

		// As deep as may be, and one more.
		{"A", "(a = (a = (a = ())))", true}, {"A", "(a = (a = (a = (n = 1, ts = [\"a\"], bs = [1]))))", true}, {"A", "(a = (a = (a = (a = ()))))", false}, {"A", "(l = [(a = ())])", true}, {"A", "(l = [(a = (ts = [\"\"], e = 0))])", true}, {"A", "(l = [(a = (a = ()))])", false}, {"A", "(l = [(l = [()])])", false}, {"A", "(a = (l = [()]))", true}, {"A", "(a = (l = [(n = 1)]))", true}, {"A", "(a = (l = [(a = ())]))", false}, {"A", "(a = (a = (l = [()])))", false}, {"A", "(l = [(), (a = (a = ()))])", false}, {"N", "(n = 1, c = (c = (c = (n = 7))))", true}, {"N", "(n = 1, c = (c = (c = (c = (n = 7)))))", false},

		// Of choices just one, and one that is so by itself too.
		{"C", "(n = 7)", true}, {"C", "(n = 8)", true}, {"C", "(i = 0)", true}, {"C", "(e = 2)", true}, {"C", "(e = 0)", true}, {"C", "(t = \"\")", true}, {"C", "(c = (n = 7))", true}, {"C", "(c = (c = (c = (e = 2))))", true}, {"C", "(l = [0, -1])", true}, {"C", "(x = [0, 1, 2], i = 5)", true}, {"C", "(n = 7, y = 0)", true}, {"C", "()", false}, {"C", "(y = 0)", false}, {"C", "(x = [0])", false}, {"C", "(n = 7, t = \"\")", false}, {"C", "(n = 7, i = 0)", false}, {"C", "(n = 7, y = 1)", false}, {"C", "(c = ())", false}, {"C", "(c = (c = (c = (c = (n = 7)))))", false}, {"C", "(x = [0, 3], i = 5)", false}, {"C", "(e = 3)", false}, {"C", "(n = 65536)", false},
		{"N", "(n = 9)", true}, {"N", "(n = 0)", true}, {"N", "()", false}, {"N", "(c = (n = 7))", false}, {"N", "(n = 9, c = (n = 7))", true}, {"N", "(n = 9, c = ())", false}, {"L", "(t = \"\", us = [0, 255], vs = [0, 65535], ws = [0, 4294967295], is = [0, -1])", true}, {"L", "(us = [1])", false}, {"L", "(t = \"\", us = [256])", false}, {"L", "(t = \"\", ws = [-1])", false}, {"L", "(t = \"\", cs = [(n = 7), (t = \"\"), (e = 2)])", true}, {"L", "(t = \"\", cs = [(n = 7), ()])", false},
	} {
		d, ok := impl.DatumGet(c.text)
		if !ok || impl.DatumFits(s, c.name, d) != c.fits || fitsIn(s, c.name, d) != c.fits {
			t.Errorf("%s of %s fits: %v", c.text, c.name, !c.fits)
			continue
		}
		if !c.fits {
			checkNotMade(t, s, c.name, d, false)
			continue
		}
		n := madeOf(t, s, c.name, d)
		if !impl.NodeSame(n, recordIn(s, c.name, d)) {
			t.Errorf("%s of %s makes %+v", c.text, c.name, n)
		}
		checkReads(t, s, c.name, n, d)
	}
}

// Promise 76: as many as may be, and one more.
func TestBoundsOfWhatFits(t *testing.T) {
	s := schemaOf(t, edgeSchema)
	for i, c := range []struct {
		name string
		d    impl.Datum
		fits bool
	}{
		{"A", treeDatum("bs", listDatum(times(numDatum(1), 20)...)), true}, {"A", treeDatum("bs", listDatum(times(numDatum(1), 21)...)), false}, {"A", treeDatum("l", listDatum(times(treeDatum(""), 20)...)), true}, {"A", treeDatum("l", listDatum(times(treeDatum(""), 21)...)), false}, {"A", treeDatum("t", textDatum(strings.Repeat("\xff", 100))), true}, {"A", treeDatum("t", textDatum(strings.Repeat("a", 101))), false}, {"A", treeDatum("t", textDatum("a\x00")), false}, {"A", treeDatum("ts", listDatum(textDatum("\x00"))), false}, {"A", treeDatum("i", numDatum(mostNumber+1)), false}, {"A", treeDatum("i", numDatum(math.MinInt)), false}, {"L", treeDatum("t is", textDatum(""), listDatum(numDatum(-mostNumber-1))), false},
		{"A", treeDatum("n n", numDatum(1), numDatum(2)), false}, {"A", treeDatum("a a", treeDatum(""), treeDatum("")), false}, {"A", treeDatum("n", numDatum(1), numDatum(2)), false}, {"A", treeDatum("n t", numDatum(1)), false}, {"A", impl.Datum{Kind: impl.DatumTree, Names: []string{""}, List: listDatum(numDatum(1)).List}, false},
	} {
		if impl.DatumFits(s, c.name, c.d) != c.fits || fitsIn(s, c.name, c.d) != c.fits {
			t.Errorf("case %d: %+v fits: %v", i, c.d, !c.fits)
		}
	}
	for _, bad := range badData() {
		for _, d := range []impl.Datum{bad, treeDatum("a", bad), treeDatum("l", listDatum(treeDatum(""), bad)), treeDatum("n", bad), treeDatum("t", bad), treeDatum("ts", bad), treeDatum("bs", listDatum(bad)), treeDatum("e", bad), treeDatum("i", bad)} {
			checkNotMade(t, s, "A", d, false)
		}
	}
	for _, d := range datumLoops() {
		checkNotMade(t, s, "A", d, false)
		checkNotMade(t, s, "A", treeDatum("l", d), false)
	}
}

// Promises 54 and 76: a schema that is not fine, and a struct that is none.
func TestValuesOfNoStruct(t *testing.T) {
	s := schemaOf(t, edgeSchema)
	for _, name := range []string{"", "E", "a", "U8", "Text", "List", "A ", "B"} {
		for _, d := range []impl.Datum{{}, treeDatum(""), numDatum(1), textDatum(""), treeDatum("n", numDatum(1))} {
			checkNotMade(t, s, name, d, false)
		}
		checkNotRead(t, s, name, structNode(""))
		checkNotRead(t, s, name, impl.Node{})
	}
	r := rand.New(rand.NewSource(72))
	bad := 0
	someValues(t, 72, 2000, 4000, func(_ *rand.Rand, s impl.Schema, name string, d impl.Datum) {
		if x := changedSchema(r, s); checkIn(x) != impl.IdlFine {
			bad++
			checkNotMade(t, x, name, d, false)
			checkNotRead(t, x, name, recordIn(s, name, d))
		}
	})
	if bad < 1000 {
		t.Errorf("just %d are not fine", bad)
	}
}

// Promise 54.
func TestValueIsReadBackFromItsRecord(t *testing.T) {
	much := 0
	someValues(t, 73, 4000, 8000, func(_ *rand.Rand, s impl.Schema, name string, d impl.Datum) {
		want := recordIn(s, name, d)
		if !okIn(want) {
			much++
			checkNotMade(t, s, name, d, true)
			return
		}
		n := madeOf(t, s, name, d)
		list, _ := impl.IdlFields(s, name)
		if l := layout(t, list); len(n.Data) != 8*l.Data || len(n.Ptrs) != l.Ptrs || !impl.NodeSame(n, want) {
			t.Fatalf("%+v of %s of %q makes %+v, not %+v", d, name, textIn(s), n, want)
		}
		checkReads(t, s, name, n, d)
	})
	if much < 100 {
		t.Errorf("just %d are too much", much)
	}
}

// Promise 54: as many words as a record may have, and one more.
func TestValuesThatAreTooMuch(t *testing.T) {
	s := schemaOf(t, "struct A { a @0 :List(Text); b @1 :List(I64); } struct B { a @0 :I64; l @1 :List(A); }")
	most := 0
	for count := 1; count <= 20; count++ {
		for long := range 101 {
			d := treeDatum("a b", listDatum(times(textDatum(strings.Repeat("a", long)), count)...), listDatum(times(numDatum(-1), 1+long%20)...))
			n := recordIn(s, "A", d)
			if okIn(n) {
				most = max(most, wordsIn(n))
				checkReads(t, s, "A", madeOf(t, s, "A", d), d)
			} else {
				checkNotMade(t, s, "A", d, true)
				checkNotMade(t, s, "B", treeDatum("l", listDatum(d)), true)
			}
		}
	}
	if most != impl.WordMax-1 {
		t.Errorf("the longest record has %d words", most)
	}
}

// Promise 54: just these bytes.
func TestRecordsOfValues(t *testing.T) {
	s := schemaOf(t, edgeSchema)
	text := dataNode(impl.SizeOne, 3, "hi\x00")
	none := impl.Node{}
	for _, c := range []struct {
		name, text string
		want       impl.Node
	}{
		{"A", "()", structNode(noughts(2), times(none, 5)...)},
		{"A", "(n = 0)", structNode("\x05"+noughts(2)[1:], times(none, 5)...)},
		{"A", "(n = 4, i = 0, e = 0)", structNode("\x01\x00\x01\x00\x00\x00\x00\x00"+strings.Repeat("\xff", 8), times(none, 5)...)},
		{"A", "(a = (), t = \"hi\")", structNode(noughts(2), structNode(noughts(2), times(none, 5)...), none, text, none, none)},
		{"A", "(ts = [\"hi\", \"\"], bs = [1, 0, 1, 0, 0, 0, 0, 0, 1])", structNode(noughts(2), none, none, none, pointNode(text, dataNode(impl.SizeOne, 1, "\x00")), dataNode(impl.SizeBit, 9, "\x05\x01"))},
		{"E1", "(e = 2)", structNode("\x02" + noughts(1)[1:])},
		{"C", "(n = 7)", structNode(noughts(2), none, none)},
		{"C", "(t = \"hi\")", structNode("\x00\x00\x01"+noughts(2)[3:], text, none)},
		{"C", "(x = [2, 1], e = 2)", structNode("\x00\x00\x05"+noughts(2)[3:], none, dataNode(impl.SizeTwo, 2, "\x02\x00\x01\x00"))},
		{"C", "(l = [-1], y = 0)", structNode("\x00\x00\x04\x00\x01"+noughts(2)[5:], dataNode(impl.SizeEight, 1, strings.Repeat("\xff", 8)), none)},
		{"N", "(n = 9, c = (i = 258))", structNode(noughts(1), structNode("\x00\x00\x03"+noughts(1)[3:]+"\x02\x01"+noughts(1)[2:], none, none))},
		{"L", "(t = \"hi\", us = [1, 2], vs = [1, 2], ws = [1, 2])", structNode(noughts(1), text, dataNode(impl.SizeOne, 2, "\x01\x02"), dataNode(impl.SizeTwo, 2, "\x01\x00\x02\x00"), dataNode(impl.SizeFour, 2, "\x01\x00\x00\x00\x02\x00\x00\x00"), none, none)},
		{"L", "(t = \"hi\", cs = [(n = 7), (e = 0)])", structNode(noughts(1), text, none, none, none, none, manyNode(structNode(noughts(2), none, none), structNode("\x02\x00\x05"+noughts(2)[3:], none, none)))},
	} {
		d, ok := impl.DatumGet(c.text)
		if n := madeOf(t, s, c.name, d); !ok || !impl.NodeSame(n, c.want) {
			t.Errorf("%s of %s makes %+v", c.text, c.name, n)
		}
		checkReads(t, s, c.name, c.want, d)
	}
}

// bent is a node with some part that is another one, at any place within it. It need not be ok.
func bent(r *rand.Rand, n impl.Node) impl.Node {
	n = copied(n)
	at := &n
	for {
		list := at.Ptrs
		if len(at.Items) > 0 {
			list = at.Items
		}
		if len(list) == 0 || r.Intn(3) == 0 {
			break
		}
		at = &list[r.Intn(len(list))]
	}
	texts := []string{"", "\x00", "hi\x00", "hi", "h\x00i\x00", strings.Repeat("a", 100) + "\x00", strings.Repeat("a", 101) + "\x00"}
	text := texts[r.Intn(len(texts))]
	others := []impl.Node{{}, {}, structNode(""), structNode(noughts(1)), dataNode(impl.SizeOne, len(text), text), pointNode(), manyNode(), pointNode(impl.Node{}), manyNode(structNode("")), dataNode(impl.SizeVoid, 1, ""), dataNode(impl.SizeBit, 21, "\x00\x00\x00"), dataNode(impl.SizeBit, 20, "\x00\x00\x00"), dataNode(impl.SizeEight, 1, strings.Repeat("\x7f", 8)), anyNode(r, 2)}
	switch r.Intn(5) {
	case 0:
		*at = others[r.Intn(len(others))]
	case 1:
		if at.Kind == impl.NodeStruct {
			*at = sized(*at, max(0, len(at.Data)+8*(r.Intn(3)-1)), max(0, len(at.Ptrs)+r.Intn(3)-1))
		}
	case 2:
		if len(at.Ptrs) > 0 {
			at.Ptrs[r.Intn(len(at.Ptrs))] = others[r.Intn(len(others))]
		}
	default:
		if len(at.Data) > 0 {
			i := r.Intn(len(at.Data))
			at.Data = at.Data[:i] + string([]byte{[]byte{0, 1, 2, 3, 127, 128, 255, at.Data[i] ^ 1}[r.Intn(8)]}) + at.Data[i+1:]
		}
	}
	return n
}

// Promise 55.
func TestWhatIsReadOfARecordFits(t *testing.T) {
	read, not := 0, 0
	someValues(t, 74, 600, 1200, func(r *rand.Rand, s impl.Schema, name string, d impl.Datum) {
		if !isMade(s, name, d) {
			return
		}
		nodes := []impl.Node{fatter(r, recordIn(s, name, d)), structNode(""), someStruct(r)}
		for range 8 {
			n := bent(r, recordIn(s, name, d))
			nodes = append(nodes, n, bent(r, n))
		}
		for _, n := range nodes {
			if !impl.NodeOk(n) {
				checkNotRead(t, s, name, n)
				continue
			}
			want, ok := readTreeIn(s, name, n, 4)
			if !ok {
				not++
				checkNotRead(t, s, name, n)
				continue
			}
			read++
			was := copied(n)
			checkReads(t, s, name, n, want)
			if !impl.NodeSame(n, was) || !impl.DatumFits(s, name, want) {
				t.Fatalf("%+v of %s of %q is read as %+v, which does not fit", n, name, textIn(s), want)
			}
			// What is read of short structs may take more than a record may have.
			if isMade(s, name, want) {
				checkReads(t, s, name, madeOf(t, s, name, want), want)
			}
		}
	})
	if read < 3000 || not < 3000 {
		t.Errorf("%d were read, and %d were not", read, not)
	}
}

// Promise 55: the edges of what is read.
func TestEdgesOfWhatIsRead(t *testing.T) {
	s := schemaOf(t, edgeSchema)
	none, bare, word := impl.Node{}, structNode(""), noughts(1)
	text := func(text string) impl.Node { return dataNode(impl.SizeOne, len(text), text) }
	a := func(at int, n impl.Node) impl.Node {
		ptrs := times(none, 5)
		ptrs[at] = n
		return structNode("", ptrs...)
	}
	for i, c := range []struct {
		name, want string
		n          impl.Node
	}{
		{"A", "()", bare}, {"A", "()", structNode(noughts(3), times(none, 9)...)}, {"A", "()", structNode(noughts(2)+"abcdefgh", append(times(none, 5), bare)...)}, {"A", "(n = 4)", structNode("\x01" + word[1:])}, {"A", "(a = ())", structNode("", bare)},
		{"A", "(a = (a = (a = ())))", chain(4)}, {"A", "", chain(5)}, {"A", "", chain(8)}, {"A", "(l = [()])", a(1, manyNode(bare))}, {"A", "(l = [(a = ())])", a(1, manyNode(structNode("", bare)))}, {"A", "", a(1, manyNode(chain(3)))}, {"A", "", a(1, manyNode(a(1, manyNode(bare))))}, {"A", "(a = (l = [()]))", a(0, a(1, manyNode(bare)))}, {"A", "", a(0, a(0, a(1, manyNode(bare))))}, {"A", "(a = (a = (a = (ts = [\"\"]))))", a(0, a(0, a(0, a(3, pointNode(text("\x00"))))))},

		// A number by itself, one with more figures, and a word that is none of its enum.
		{"A", "(i = 0)", structNode(word + strings.Repeat("\xff", 8))}, {"A", "", structNode(word + strings.Repeat("\xff", 7) + "\x7f")}, {"A", "", structNode(word + strings.Repeat("\x00", 7) + "\x80")}, {"A", "(i = 999999999999999999)", structNode(word + put(t, word, 0, 8, ^mostNumber))}, {"A", "", structNode(word + put(t, word, 0, 8, ^(mostNumber+1)))}, {"A", "(i = -999999999999999999)", structNode(word + put(t, word, 0, 8, mostNumber-1))}, {"A", "", structNode(word + put(t, word, 0, 8, mostNumber))},
		{"A", "(e = 2)", structNode("\x00\x00\x03" + word[3:])}, {"A", "(e = 0)", structNode("\x00\x00\x01" + word[3:])}, {"A", "", structNode("\x00\x00\x02" + word[3:])}, {"A", "", structNode("\x00\x00\x01\x01" + word[4:])}, {"E1", "(e = 2)", structNode("\x02" + word[1:])}, {"E1", "", structNode("\x03" + word[1:])}, {"E1", "()", structNode(word)},

		// Lists: of none, of too many, of another size, and of nothing.
		{"A", "(bs = [0])", a(4, dataNode(impl.SizeBit, 1, "\x00"))}, {"A", "(bs = [0, 0, 0, 0, 0, 0, 0, 0, 0, 0, 0, 0, 0, 0, 0, 0, 0, 0, 0, 1])", a(4, dataNode(impl.SizeBit, 20, "\x00\x00\x08"))}, {"A", "", a(4, dataNode(impl.SizeBit, 21, "\x00\x00\x08"))}, {"A", "", a(4, dataNode(impl.SizeBit, 12000, strings.Repeat("\x00", 1500)))}, {"A", "", a(4, dataNode(impl.SizeBit, 0, ""))}, {"A", "", a(4, dataNode(impl.SizeOne, 1, "\x00"))}, {"A", "", a(4, dataNode(impl.SizeVoid, 1, ""))}, {"A", "", a(4, pointNode(none))}, {"A", "", a(4, manyNode(bare))}, {"A", "", a(4, bare)},
		{"A", "", a(1, manyNode())}, {"A", "", a(1, pointNode(bare))}, {"A", "", a(1, pointNode())}, {"A", "", a(1, dataNode(impl.SizeVoid, 1, ""))}, {"A", "", a(1, bare)}, {"A", "", a(1, manyNode(times(bare, 21)...))}, {"A", "", a(0, manyNode(bare))}, {"A", "", a(0, text("\x00"))}, {"A", "", a(0, pointNode())},
		{"A", "", a(3, pointNode())}, {"A", "(ts = [\"a\", \"\"])", a(3, pointNode(text("a\x00"), text("\x00")))}, {"A", "", a(3, pointNode(none))}, {"A", "", a(3, pointNode(text("a\x00"), none))}, {"A", "", a(3, pointNode(text("a\x00"), bare))}, {"A", "", a(3, pointNode(text("a")))}, {"A", "", a(3, text("a\x00"))}, {"A", "", a(3, manyNode(structNode("", text("a\x00"))))},

		// Texts that may not be.
		{"A", "(t = \"\")", a(2, text("\x00"))}, {"A", "(t = \"" + strings.Repeat("a", 100) + "\")", a(2, text(strings.Repeat("a", 100)+"\x00"))}, {"A", "", a(2, text(strings.Repeat("a", 101)+"\x00"))}, {"A", "", a(2, text(""))}, {"A", "", a(2, text("a"))}, {"A", "", a(2, text("a\x00b\x00"))}, {"A", "", a(2, text("\x00\x00"))}, {"A", "", a(2, bare)}, {"A", "", a(2, pointNode(text("a\x00")))}, {"A", "", a(2, dataNode(impl.SizeTwo, 1, "a\x00"))},

		// Choices: no such place, one whose pointer is to nothing, and what others had there.
		{"C", "(n = 7)", bare}, {"C", "(n = 6)", structNode("\x01" + word[1:])}, {"C", "", structNode("\x00\x00\x01" + word[3:])}, {"C", "(t = \"a\")", structNode("\x00\x00\x01"+word[3:], text("a\x00"))}, {"C", "", structNode("\x00\x00\x01"+word[3:], bare)}, {"C", "(c = (n = 7))", structNode("\x00\x00\x02"+word[3:], bare, none, none, bare)}, {"C", "", structNode("\x00\x00\x02"+word[3:], none, none, none, bare)}, {"C", "(c = (n = 7))", structNode("\x00\x00\x02"+word[3:], structNode(word))}, {"C", "(n = 7)", structNode("", text("a\x00"))}, {"C", "(i = 0)", structNode("\x00\x00\x03" + word[3:])}, {"C", "(i = 5)", structNode("\xff\xff\x03" + word[3:] + "\x05" + word[1:])}, {"C", "(e = 2)", structNode("\x00\x00\x05" + word[3:])}, {"C", "", structNode("\x01\x00\x05" + word[3:])}, {"C", "", structNode("\x00\x00\x06" + word[3:])}, {"C", "", structNode("\x00\x00\xff\xff" + word[4:])}, {"C", "", structNode("\x00\x00\x04" + word[3:])}, {"C", "", structNode("\x00\x00\x04"+word[3:], dataNode(impl.SizeEight, 0, ""))},
		{"N", "(n = 9)", bare}, {"N", "(n = 9)", structNode(word)}, {"N", "(n = 9, c = (n = 7))", structNode("", bare)}, {"N", "", structNode("", structNode("\x00\x00\x01"+word[3:]))}, {"L", "", bare}, {"L", "(t = \"\")", structNode("", text("\x00"))},
		{"A", "", none}, {"A", "", manyNode(bare)}, {"A", "", text("\x00")}, {"A", "", pointNode()},
	} {
		if want, ok := impl.DatumGet(c.want); ok {
			checkReads(t, s, c.name, c.n, want)
		} else if checkNotRead(t, s, c.name, c.n); c.want != "" || !impl.NodeOk(c.n) {
			t.Errorf("case %d is none", i)
		}
	}
	for _, n := range badNodes() {
		checkNotRead(t, s, "A", n)
		checkNotRead(t, s, "A", structNode("", n))
	}
}

// Promise 56.
func TestOneFormSaysTheSameValue(t *testing.T) {
	someValues(t, 75, 800, 1600, func(r *rand.Rand, s impl.Schema, name string, d impl.Datum) {
		if !isMade(s, name, d) {
			return
		}
		n := madeOf(t, s, name, d)
		for _, x := range append(sayers(r, n), impl.Canon(n)) {
			checkReads(t, s, name, x, d)
		}
		for range 4 {
			x := bent(r, n)
			if !impl.NodeOk(x) {
				continue
			}
			a, ok := impl.NodeDatum(s, name, x)
			b, same := impl.NodeDatum(s, name, impl.Canon(x))
			if ok != same || !impl.DatumSame(a, b) {
				t.Fatalf("%+v is read as %+v, %v, and its one form as %+v, %v", x, a, ok, b, same)
			}
		}
	})
}

// Promise 57.
func TestValueThatWasSentIsTaken(t *testing.T) {
	sent := 0
	someValues(t, 76, 2000, 4000, func(_ *rand.Rand, s impl.Schema, name string, d impl.Datum) {
		if !isMade(s, name, d) {
			return
		}
		for _, size := range []int{1, 2, 5, 20, impl.WordMax} {
			text, ok := impl.Send(madeOf(t, s, name, d), size)
			if !ok {
				continue
			}
			sent++
			n, code := impl.Take(text, impl.ReadMax)
			if code != impl.ReadFine {
				t.Fatalf("%+v by %d is taken as %d", d, size, code)
			}
			checkReads(t, s, name, n, d)
		}
	})
	if sent < 5000 {
		t.Errorf("just %d were sent", sent)
	}
}

// passedOn is a value of a struct with more fields that are no choices told, by a schema that has grown.
func passedOn(r *rand.Rand, old, s impl.Schema, t impl.Type, d impl.Datum, deep int) impl.Datum {
	d = copiedDatum(d)
	switch {
	case t.List:
		for i, x := range d.List {
			d.List[i] = passedOn(r, old, s, impl.Type{Base: t.Base}, x, deep-1)
		}
	case d.Kind == impl.DatumTree:
		known := declsIn(old, t.Base)
		for i, name := range d.Names {
			at := slices.IndexFunc(known, func(decl impl.Decl) bool { return decl.Name == name })
			d.List[i] = passedOn(r, old, s, known[at].Type, d.List[i], deep-1)
		}
		for _, decl := range declsIn(s, t.Base)[len(known):] {
			x, ok := someOf(r, s, decl.Type, deep-1)
			if ok && !decl.Choice && (x.Kind != impl.DatumNum || x.Num != decl.Else) && r.Intn(3) > 0 {
				d.Names, d.List = append(d.Names, decl.Name), append(d.List, x)
			}
		}
	}
	return d
}

// Promises 59 and 60.
func TestWhoHasMoreOrLessReads(t *testing.T) {
	more := 0
	someValues(t, 77, 2000, 4000, func(r *rand.Rand, old impl.Schema, name string, d impl.Datum) {
		s := grown(r, old)
		if isMade(old, name, d) {
			checkReads(t, s, name, madeOf(t, old, name, d), d)
		}
		x := passedOn(r, old, s, impl.Type{Base: name}, d, 5)
		if !impl.DatumFits(s, name, x) {
			t.Fatalf("%+v does not fit %s of %q", x, name, textIn(s))
		}
		if isMade(s, name, x) {
			checkReads(t, old, name, madeOf(t, s, name, x), d)
			if !sameDatumIn(x, d) {
				more++
			}
		}
	})
	if more < 1000 {
		t.Errorf("just %d have more", more)
	}
}

// Promise 59 and 60: what the one with less does not know.
func TestWhatIsNotKnown(t *testing.T) {
	old := schemaOf(t, "struct A { or a @0 :U8; or b @1 :Text; e @2 :E; } enum E { p q }")
	s := schemaOf(t, "struct A { or a @0 :U8; or b @1 :Text; e @2 :E; or c @3 :I64; n @4 :U8 = 7; l @5 :List(A); } enum E { p q r }")
	get := func(text string) impl.Datum {
		d, ok := impl.DatumGet(text)
		if !ok {
			t.Fatalf("%q is none", text)
		}
		return d
	}
	for _, text := range []string{"(a = 0)", "(a = 5, e = 1)", "(b = \"\")"} {
		checkReads(t, s, "A", madeOf(t, old, "A", get(text)), get(text))
	}
	for text, want := range map[string]string{"(a = 5, n = 0)": "(a = 5)", "(b = \"x\", e = 1, l = [(c = 1)])": "(b = \"x\", e = 1)", "(a = 0, n = 0, l = [(a = 1), (b = \"\")])": "(a = 0)"} {
		checkReads(t, old, "A", madeOf(t, s, "A", get(text)), get(want))
	}
	for _, text := range []string{"(c = 1)", "(c = 0)", "(a = 5, e = 2)"} {
		checkNotRead(t, old, "A", madeOf(t, s, "A", get(text)))
	}
}

// Promise 78.
func TestTwoValuesAreSentAsTheSameBytes(t *testing.T) {
	same, not := 0, 0
	someValues(t, 78, 800, 1600, func(r *rand.Rand, s impl.Schema, name string, d impl.Datum) {
		other, _ := someTree(r, s, name, 4)
		all := []impl.Datum{copiedDatum(d), other}
		for range 8 {
			all = append(all, changedDatum(r, d))
		}
		for _, x := range all {
			if !fitsIn(s, name, x) || !isMade(s, name, x) || !isMade(s, name, d) {
				continue
			}
			a, aOk := impl.CanonPut(madeOf(t, s, name, d))
			b, bOk := impl.CanonPut(madeOf(t, s, name, x))
			want := impl.DatumSame(d, x)
			if !aOk || !bOk || (a == b) != want || impl.Alike(madeOf(t, s, name, d), madeOf(t, s, name, x)) != want {
				t.Fatalf("%+v and %+v are sent as the same: %v", d, x, !want)
			}
			if want {
				same++
			} else {
				not++
			}
		}
	})
	if same < 800 || not < 400 {
		t.Errorf("%d are the same, %d are not", same, not)
	}
}

// Values share no memory with what they were made of, nor with each other.
func TestValuesShareNoMemory(t *testing.T) {
	someValues(t, 79, 300, 600, func(_ *rand.Rand, s impl.Schema, name string, d impl.Datum) {
		if !isMade(s, name, d) {
			return
		}
		n := madeOf(t, s, name, d)
		keep, was := copied(n), copiedDatum(d)
		x, _ := impl.NodeDatum(s, name, n)
		clear(x.Names[:cap(x.Names)])
		clear(x.List[:cap(x.List)])
		clear(n.Ptrs[:cap(n.Ptrs)])
		if again := madeOf(t, s, name, d); !impl.NodeSame(again, keep) || !impl.DatumSame(d, was) {
			t.Fatalf("%+v shares memory", d)
		}
	})
}
