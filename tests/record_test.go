package tests

import (
	"math"
	"math/rand"
	"slices"
	"strings"
	"testing"

	"loop.example/quoin/impl"
)

// numberIn is so many bits of data from one on, each turned where another number has a 1; bits beyond the end are 0.
func numberIn(data string, from, bits, turn int) int {
	n := uint64(0)
	for at := from + bits - 1; at >= from; at-- {
		bit := uint64(0)
		if at < 8*len(data) {
			bit = uint64(data[at/8]>>(at%8)) & 1
		}
		n = n<<1 | bit
	}
	return int(n) ^ turn
}

// withNumber is data with a number in so many bits from one on, each turned where another number has a 1.
func withNumber(data string, from, bits, turn, n int) string {
	out := []byte(data)
	for i := range bits {
		at, bit := from+i, byte((n^turn)>>i)&1
		out[at/8] = out[at/8]&^(1<<(at%8)) | bit<<(at%8)
	}
	return string(out)
}

// placesIn is the place of each choice, and -1 of each other field, and how many choices there are.
func placesIn(list []impl.Field) ([]int, int) {
	var places []int
	choices := 0
	for _, f := range list {
		if !f.Choice {
			places = append(places, -1)
			continue
		}
		places = append(places, choices)
		choices++
	}
	return places, choices
}

// getIn is the value of a field of a record, told from the document.
func getIn(list []impl.Field, n impl.Node, at int) (impl.Val, bool) {
	l, f := layoutIn(list), list[at]
	places, _ := placesIn(list)
	if f.Choice && l.Tag >= 0 && numberIn(n.Data, 16*l.Tag, 16, 0) != places[at] {
		return impl.Val{}, false
	}
	if f.Size != impl.SizePoint {
		bits := bitsIn(f.Size)
		return impl.Val{Num: numberIn(n.Data, bits*l.Slots[at].At, bits, f.Else)}, true
	}
	if l.Slots[at].At < len(n.Ptrs) {
		return impl.Val{Node: n.Ptrs[l.Slots[at].At]}, true
	}
	return impl.Val{}, true
}

// setIn is a record with a field set, however much it takes then, told from the document.
func setIn(list []impl.Field, n impl.Node, at int, v impl.Val) impl.Node {
	l, f := layoutIn(list), list[at]
	out := sized(n, max(len(n.Data), 8*l.Data), max(len(n.Ptrs), l.Ptrs))
	places, _ := placesIn(list)
	for i, other := range list {
		if !f.Choice || !other.Choice {
			continue
		}
		if other.Size == impl.SizePoint {
			out.Ptrs[l.Slots[i].At] = impl.Node{}
		} else {
			bits := bitsIn(other.Size)
			out.Data = withNumber(out.Data, bits*l.Slots[i].At, bits, 0, 0)
		}
	}
	if f.Choice && l.Tag >= 0 {
		out.Data = withNumber(out.Data, 16*l.Tag, 16, 0, places[at])
	}
	if f.Size == impl.SizePoint {
		out.Ptrs[l.Slots[at].At] = v.Node
		return out
	}
	bits := bitsIn(f.Size)
	out.Data = withNumber(out.Data, bits*l.Slots[at].At, bits, f.Else, v.Num)
	return out
}

// okIn says whether what is made of nodes that are ok is ok.
func okIn(n impl.Node) bool {
	return wordsIn(n) < impl.WordMax && deepIn(n) <= impl.DeepMax
}

// sameVal says whether two values are the same.
func sameVal(a, b impl.Val) bool {
	return a.Num == b.Num && impl.NodeSame(a.Node, b.Node)
}

// isNothing says whether a node is nothing.
func isNothing(n impl.Node) bool {
	return impl.NodeSame(n, impl.Node{})
}

// someVal is a value that a field may have, often one at a bound.
func someVal(r *rand.Rand, f impl.Field) impl.Val {
	if f.Size == impl.SizePoint {
		nodes := []impl.Node{{}, structNode(""), structNode(noughts(1)), dataNode(impl.SizeOne, 3, "hi\x00"), somePtrs(r, 1, 3)[0], somePtrs(r, 1, 7)[0]}
		n := nodes[r.Intn(len(nodes))]
		if !okIn(n) {
			n = impl.Node{}
		}
		return impl.Val{Node: n}
	}
	nums := []int{0, -1, math.MinInt, math.MaxInt, f.Else, int(r.Uint64())}
	if f.Size != impl.SizeEight {
		end := 1 << bitsIn(f.Size)
		nums = []int{0, 1, end - 1, end / 2, f.Else, r.Intn(end)}
	}
	return impl.Val{Num: nums[r.Intn(len(nums))]}
}

// someVals is a value for each field.
func someVals(r *rand.Rand, list []impl.Field) []impl.Val {
	var vals []impl.Val
	for _, f := range list {
		vals = append(vals, someVal(r, f))
	}
	return vals
}

// someChoice is the place of a choice; -1 without any.
func someChoice(r *rand.Rand, list []impl.Field) int {
	_, choices := placesIn(list)
	if choices == 0 {
		return -1
	}
	return r.Intn(choices)
}

// someRecord is a record that was made of fields, and of what. Some values together are too much, so that it takes some tries.
func someRecord(r *rand.Rand, list []impl.Field) (impl.Node, []impl.Val, int) {
	for range 1000 {
		vals, choice := someVals(r, list), someChoice(r, list)
		if n, ok := impl.RecordOf(list, vals, choice); ok {
			return n, vals, choice
		}
	}
	panic("no values make a record")
}

// someStruct is a struct of words and pointers at random, some of them choosing by small numbers.
func someStruct(r *rand.Rand) impl.Node {
	for {
		data := someBytes(r, 8*r.Intn(5))
		if r.Intn(2) == 0 {
			data = strings.Map(func(c rune) rune { return c & 1 }, data)
		}
		if n := structNode(data, somePtrs(r, r.Intn(5), 2)...); okIn(n) && len(data)%8 == 0 {
			return n
		}
	}
}

// recordsOf are records that are read by fields: nothing, what was made of them, of the first so many, of them and of what they do not know, what breaks off, and any struct.
func recordsOf(r *rand.Rand, list []impl.Field) []impl.Node {
	made, _, _ := someRecord(r, list)
	few, _, _ := someRecord(r, list[:r.Intn(len(list)+1)])
	out := []impl.Node{{}, structNode(""), made, few, someStruct(r), someStruct(r)}
	out = append(out, sized(made, 8*r.Intn(len(made.Data)/8+1), r.Intn(len(made.Ptrs)+1)))
	more := structNode(made.Data+someBytes(r, 8*r.Intn(3)), append(slices.Clone(made.Ptrs), somePtrs(r, r.Intn(3), 2)...)...)
	if okIn(more) {
		out = append(out, more)
	}
	return out
}

// fieldsSome is all lists of up to two fields, and some longer ones.
func fieldsSome(seed int64) [][]impl.Field {
	r := rand.New(rand.NewSource(seed))
	all := fieldsAll(2)
	for i := range 1000 {
		all = append(all, someFields(r, i%4))
	}
	return all
}

// forRecords does something with fields and each of their records.
func forRecords(seed int64, do func(r *rand.Rand, list []impl.Field, n impl.Node)) {
	r := rand.New(rand.NewSource(seed))
	for _, list := range fieldsSome(seed) {
		for _, n := range recordsOf(r, list) {
			do(r, list, n)
		}
	}
}

// checkGet checks that all fields of a record are got as the document tells.
func checkGet(t *testing.T, list []impl.Field, n impl.Node) {
	t.Helper()
	for at := range list {
		v, ok := impl.RecordGet(list, n, at)
		if want, there := getIn(list, n, at); ok != there || !sameVal(v, want) {
			t.Fatalf("%+v of %+v has at %d %+v, %v, not %+v, %v", n, list, at, v, ok, want, there)
		}
	}
}

// Promise 27.
func TestRecordHasWhatItWasMadeOf(t *testing.T) {
	r := rand.New(rand.NewSource(51))
	made := 0
	for _, list := range fieldsSome(51) {
		l := layoutIn(list)
		places, choices := placesIn(list)
		for choice := min(choices-1, 0); choice < choices || choice < 0; choice++ {
			vals := someVals(r, list)
			want := structNode(noughts(l.Data), times(impl.Node{}, l.Ptrs)...)
			for at := range list {
				if places[at] < 0 || places[at] == choice {
					want = setIn(list, want, at, vals[at])
				}
			}
			n, ok := impl.RecordOf(list, vals, choice)
			if ok != okIn(want) || ok && !impl.NodeSame(n, want) || !ok && !isNothing(n) {
				t.Fatalf("%+v of %+v by %d: %+v, %v, not %+v", vals, list, choice, n, ok, want)
			}
			if !ok {
				continue
			}
			made++
			for at := range list {
				there := places[at] < 0 || choices == 1 || places[at] == choice
				v, ok := impl.RecordGet(list, n, at)
				if ok != there || ok && !sameVal(v, vals[at]) || !ok && !sameVal(v, impl.Val{}) {
					t.Fatalf("%+v of %+v by %d has at %d %+v, %v", vals, list, choice, at, v, ok)
				}
			}
		}
	}
	if made < 3000 {
		t.Errorf("just %d were made", made)
	}
}

// Promise 27: just these bytes.
func TestWhereTheNumbersOfARecordStand(t *testing.T) {
	text := dataNode(impl.SizeOne, 3, "hi\x00")
	turned := func(f impl.Field, by int) impl.Field {
		f.Else = by
		return f
	}
	for i, c := range []struct {
		list   []impl.Field
		vals   []impl.Val
		choice int
		want   impl.Node
	}{
		{nil, nil, -1, structNode("")},
		{[]impl.Field{f1}, []impl.Val{{Num: 1}}, -1, structNode("\x01" + noughts(1)[1:])},
		{[]impl.Field{turned(f1, 1)}, []impl.Val{{Num: 1}}, -1, structNode(noughts(1))},
		{[]impl.Field{turned(f1, 1)}, []impl.Val{{}}, -1, structNode("\x01" + noughts(1)[1:])},
		{[]impl.Field{f1, f1, f8, f16, f32}, []impl.Val{{}, {Num: 1}, {Num: 2}, {Num: 0x304}, {Num: 0x5060708}}, -1, structNode("\x02\x02\x04\x03\x08\x07\x06\x05")},
		{[]impl.Field{turned(f64, -1)}, []impl.Val{{Num: math.MinInt}}, -1, structNode("\xff\xff\xff\xff\xff\xff\xff\x7f")},
		{[]impl.Field{turned(f16, 7), turned(f8, 255)}, []impl.Val{{Num: 300}, {Num: 1}}, -1, structNode("\x2b\x01\xfe" + noughts(1)[3:])},
		{[]impl.Field{fp, f8, fp}, []impl.Val{{Node: text}, {Num: 9}, {}}, -1, structNode("\x09"+noughts(1)[1:], text, impl.Node{})},

		// One choice has no tag; of several the tag tells which, and is not turned.
		{[]impl.Field{c8}, []impl.Val{{Num: 9}}, 0, structNode("\x09" + noughts(1)[1:])},
		{[]impl.Field{cp}, []impl.Val{{Node: text}}, 0, structNode("", text)},
		{[]impl.Field{turned(c8, 1), turned(c8, 2)}, []impl.Val{{Num: 9}, {Num: 9}}, 0, structNode("\x08" + noughts(1)[1:])},
		{[]impl.Field{turned(c8, 1), turned(c8, 2)}, []impl.Val{{Num: 9}, {Num: 9}}, 1, structNode("\x0b\x00\x01" + noughts(1)[3:])},
		{[]impl.Field{c8, f8, c16, fp, cp}, []impl.Val{{Num: 9}, {Num: 8}, {Num: 7}, {}, {Node: text}}, 2, structNode("\x00\x08\x02"+noughts(1)[3:], impl.Node{}, text)},
		{times(c64, 12), times(impl.Val{Num: -1}, 12), 11, structNode(strings.Repeat("\xff", 8) + "\x0b" + noughts(1)[1:])},
	} {
		if n, ok := impl.RecordOf(c.list, c.vals, c.choice); !ok || !impl.NodeSame(n, c.want) {
			t.Errorf("case %d: %+v, %v", i, n, ok)
		}
		checkGet(t, c.list, c.want)
	}
}

// Promise 27: a choice that is none, and as many values as there are fields.
func TestRecordOfWhatMayNotBe(t *testing.T) {
	r := rand.New(rand.NewSource(52))
	none := func(list []impl.Field, vals []impl.Val, choice int) {
		t.Helper()
		if n, ok := impl.RecordOf(list, vals, choice); ok || !isNothing(n) {
			t.Errorf("%+v of %+v by %d: %+v, %v", vals, list, choice, n, ok)
		}
	}
	for _, list := range fieldsSome(52)[:500] {
		_, vals, choice := someRecord(r, list)
		_, choices := placesIn(list)
		for _, bad := range append(strange(), choices, choices+1, -2) {
			if bad != choice {
				none(list, vals, bad)
			}
		}
		if choices > 0 {
			none(list, vals, -1)
		}
		none(list, append(slices.Clone(vals), impl.Val{}), choice)
		if len(vals) > 0 {
			none(list, vals[1:], choice)
			none(list, nil, choice)
		}
	}
	for _, list := range badFields() {
		none(list, times(impl.Val{}, len(list)), -1)
		none(list, times(impl.Val{}, len(list)), 0)
	}
}

// badVals are values that a field may not have.
func badVals(f impl.Field) []impl.Val {
	var out []impl.Val
	if f.Size == impl.SizePoint {
		for _, n := range badNodes() {
			out = append(out, impl.Val{Node: n})
		}
		for _, num := range append(strange(), 1) {
			out = append(out, impl.Val{Num: num}, impl.Val{Num: num, Node: structNode("")})
		}
		return out
	}
	if f.Size != impl.SizeEight {
		end := 1 << bitsIn(f.Size)
		for _, num := range []int{-1, -end, end, end + 1, math.MinInt, math.MaxInt} {
			out = append(out, impl.Val{Num: num})
		}
	}
	for _, n := range []impl.Node{structNode(""), manyNode(), {Data: "a"}, {Ptrs: []impl.Node{{}}}, {Size: 1}, {Count: 1}, {Items: []impl.Node{{}}}, {Kind: -1}, {Kind: 3}} {
		out = append(out, impl.Val{Node: n})
	}
	return out
}

// Promises 27 and 28: a value that may not be, also of a choice that is not told.
func TestValuesThatMayNotBe(t *testing.T) {
	for _, f := range []impl.Field{f1, f8, f16, f32, f64, fp, c1, c8, c16, c32, c64, cp} {
		for _, list := range [][]impl.Field{{f}, {f, c8, c8}, {fp, c8, f}} {
			at := slices.Index(list, f)
			_, choices := placesIn(list)
			choice := choices - 1
			rec, ok := impl.RecordOf(list, times(impl.Val{}, len(list)), choice)
			if !ok {
				t.Fatalf("%+v has no record", list)
			}
			for i, v := range badVals(f) {
				vals := times(impl.Val{}, len(list))
				vals[at] = v
				if n, ok := impl.RecordOf(list, vals, choice); ok || !isNothing(n) {
					t.Errorf("%+v has a record with bad value %d: %+v, %v", list, i, n, ok)
				}
				for _, was := range []impl.Node{rec, {}, structNode("abcdefgh", structNode(""))} {
					if n, ok := impl.RecordSet(list, was, at, v); ok || !impl.NodeSame(n, was) {
						t.Errorf("%+v is set to bad value %d: %+v, %v", list, i, n, ok)
					}
				}
			}
		}
	}
}

// Promise 28.
func TestFieldThatWasSet(t *testing.T) {
	set := 0
	forRecords(53, func(r *rand.Rand, list []impl.Field, n impl.Node) {
		for at, f := range list {
			v := someVal(r, f)
			want := setIn(list, n, at, v)
			m, ok := impl.RecordSet(list, n, at, v)
			if ok != okIn(want) || ok && !impl.NodeSame(m, want) || !ok && !impl.NodeSame(m, n) {
				t.Fatalf("%+v of %+v set at %d to %+v: %+v, %v, not %+v", n, list, at, v, m, ok, want)
			}
			if !ok {
				continue
			}
			set++
			if got, there := impl.RecordGet(list, m, at); !there || !sameVal(got, v) {
				t.Fatalf("%+v of %+v set at %d to %+v has %+v, %v", n, list, at, v, got, there)
			}
			for i, other := range list {
				was, _ := impl.RecordGet(list, n, i)
				is, _ := impl.RecordGet(list, m, i)
				if i != at && !other.Choice && !sameVal(was, is) {
					t.Fatalf("%+v of %+v set at %d has %+v at %d", n, list, at, is, i)
				}
			}
		}
	})
	if set < 30000 {
		t.Errorf("just %d were set", set)
	}
}

// Promise 28: what would be too deep, or too much, is not set.
func TestRecordThatWouldBeTooMuch(t *testing.T) {
	full := func(words int) impl.Node { return structNode(strings.Repeat("abcdefgh", words)) }
	for i, c := range []struct {
		list []impl.Field
		n    impl.Node
		at   int
		v    impl.Val
		ok   bool
	}{
		{[]impl.Field{fp}, impl.Node{}, 0, impl.Val{Node: chain(impl.DeepMax - 1)}, true}, {[]impl.Field{fp}, impl.Node{}, 0, impl.Val{Node: chain(impl.DeepMax)}, false}, {[]impl.Field{fp, cp}, structNode("", structNode("")), 1, impl.Val{Node: chain(impl.DeepMax)}, false},
		{[]impl.Field{fp}, impl.Node{}, 0, impl.Val{Node: full(198)}, true}, {[]impl.Field{fp}, impl.Node{}, 0, impl.Val{Node: full(199)}, false}, {[]impl.Field{fp, f1}, impl.Node{}, 0, impl.Val{Node: full(197)}, true}, {[]impl.Field{fp, f1}, impl.Node{}, 0, impl.Val{Node: full(198)}, false},

		// What a record has besides counts too; a number may make it wider.
		{[]impl.Field{fp, f1}, structNode("", full(198)), 1, impl.Val{}, false}, {[]impl.Field{fp, f1}, structNode("", full(197)), 1, impl.Val{Num: 1}, true}, {[]impl.Field{f8}, full(199), 0, impl.Val{Num: 9}, true}, {[]impl.Field{fp}, full(199), 0, impl.Val{}, false}, {[]impl.Field{f8, fp}, full(199), 0, impl.Val{}, false},
		{[]impl.Field{fp, fp}, structNode("", full(99), full(98)), 0, impl.Val{Node: full(99)}, true}, {[]impl.Field{fp, fp}, structNode("", full(99), full(98)), 0, impl.Val{Node: full(100)}, false},

		// What another choice had is gone.
		{[]impl.Field{cp, cp}, structNode(noughts(1), full(197)), 1, impl.Val{Node: full(197)}, true}, {[]impl.Field{cp, cp}, structNode(noughts(1), full(197)), 1, impl.Val{Node: full(198)}, false}, {[]impl.Field{cp, c64}, structNode("", full(198)), 1, impl.Val{Num: 9}, true},
	} {
		m, ok := impl.RecordSet(c.list, c.n, c.at, c.v)
		want := c.n
		if c.ok {
			want = setIn(c.list, c.n, c.at, c.v)
		}
		if ok != c.ok || !impl.NodeSame(m, want) {
			t.Errorf("case %d: %v", i, ok)
		}
	}
	for deep := 1; deep <= impl.DeepMax+1; deep++ {
		n, ok := impl.RecordOf([]impl.Field{f8, fp}, []impl.Val{{Num: 1}, {Node: chain(deep)}}, -1)
		if ok != (deep < impl.DeepMax) || !ok && !isNothing(n) {
			t.Errorf("%d deep: %v", deep, ok)
		}
	}
	for words := 190; words < 199; words++ {
		n, ok := impl.RecordOf([]impl.Field{f64, fp, f64}, []impl.Val{{Num: 1}, {Node: full(words)}, {}}, -1)
		if ok != (words+3 < impl.WordMax) || !ok && !isNothing(n) {
			t.Errorf("%d words: %v", words, ok)
		}
	}
}

// Promises 27 to 29: what is no record, no field, or by no fields.
func TestWhatIsNoRecordNorField(t *testing.T) {
	list := []impl.Field{f8, fp, c8, cp}
	bad := append(badNodes(), manyNode(), manyNode(structNode("abcdefgh")), pointNode(), dataNode(impl.SizeEight, 1, noughts(1)), dataNode(impl.SizeOne, 1, "\x00"))
	for i, n := range bad {
		for at := range list {
			v, got := impl.RecordGet(list, n, at)
			m, set := impl.RecordSet(list, n, at, impl.Val{})
			if got || set || !sameVal(v, impl.Val{}) || !isNothing(m) || impl.RecordChoice(list, n) != -1 {
				t.Errorf("bad record %d: %+v, %v, %+v, %v, %d", i, v, got, m, set, impl.RecordChoice(list, n))
			}
		}
		if m, set := impl.RecordSet(list, n, 99, impl.Val{Num: 9}); set || !isNothing(m) {
			t.Errorf("bad record %d: %+v, %v", i, m, set)
		}
	}
	good := []impl.Node{{}, structNode(""), structNode(strings.Repeat("abcdefgh", 20), structNode("abcdefgh"), structNode(""))}
	for _, n := range good {
		for _, at := range append(strange(), len(list), len(list)+1) {
			v, got := impl.RecordGet(list, n, at)
			m, set := impl.RecordSet(list, n, at, impl.Val{})
			if got || set || !sameVal(v, impl.Val{}) || !impl.NodeSame(m, n) {
				t.Errorf("field %d: %+v, %v, %+v, %v", at, v, got, m, set)
			}
		}
		for i, list := range badFields() {
			v, got := impl.RecordGet(list, n, 0)
			m, set := impl.RecordSet(list, n, 0, impl.Val{})
			if got || set || !sameVal(v, impl.Val{}) || !impl.NodeSame(m, n) || impl.RecordChoice(list, n) != -1 {
				t.Errorf("bad fields %d: %+v, %v, %+v, %v, %d", i, v, got, m, set, impl.RecordChoice(list, n))
			}
		}
	}
	if m, set := impl.RecordSet(nil, structNode("abcdefgh"), 0, impl.Val{}); set || !impl.NodeSame(m, structNode("abcdefgh")) {
		t.Errorf("no fields: %+v, %v", m, set)
	}
}

// Promise 29.
func TestFieldsThatAreNotWritten(t *testing.T) {
	for _, list := range fieldsSome(54) {
		places, choices := placesIn(list)
		for _, n := range []impl.Node{{}, structNode(""), structNode(noughts(20), times(impl.Node{}, 20)...)} {
			for at, f := range list {
				v, ok := impl.RecordGet(list, n, at)
				there := choices < 2 || places[at] < 1
				if ok != there || ok && !sameVal(v, impl.Val{Num: f.Else}) || !ok && !sameVal(v, impl.Val{}) {
					t.Fatalf("%+v has in nothing at %d %+v, %v", list, at, v, ok)
				}
			}
			want := -1
			if choices > 1 {
				want = 0
			}
			if got := impl.RecordChoice(list, n); got != want {
				t.Fatalf("%+v has in nothing the choice %d", list, got)
			}
		}
	}
}

// Promises 27 and 29: any record, and one that breaks off wherever it may.
func TestRecordsThatAreTooShort(t *testing.T) {
	forRecords(55, func(r *rand.Rand, list []impl.Field, n impl.Node) {
		tag := layoutIn(list).Tag
		for data := 0; data <= len(n.Data); data += 8 {
			for ptrs := range len(n.Ptrs) + 1 {
				short := sized(n, data, ptrs)
				checkGet(t, list, short)
				want := -1
				if tag >= 0 {
					want = numberIn(short.Data, 16*tag, 16, 0)
				}
				if got := impl.RecordChoice(list, short); got != want {
					t.Fatalf("%+v of %+v has the choice %d, not %d", short, list, got, want)
				}
			}
		}
	})
}

// Promises 27 and 67: a tag that tells no choice.
func TestTagOfNoChoice(t *testing.T) {
	list := []impl.Field{c8, c16, cp, f8}
	l := layout(t, list)
	for _, tag := range []int{0, 1, 2, 3, 4, 255, 256, 257, 258, 32768, 65534, 65535} {
		n := structNode(put(t, strings.Repeat("abcdefgh", l.Data), 2*l.Tag, 2, tag), structNode(""))
		if got := impl.RecordChoice(list, n); got != tag {
			t.Errorf("the choice is %d, not %d", got, tag)
		}
		for at := range 3 {
			if v, ok := impl.RecordGet(list, n, at); ok != (tag == at) || !ok && !sameVal(v, impl.Val{}) {
				t.Errorf("by %d there is choice %d: %+v, %v", tag, at, v, ok)
			}
		}
		if _, ok := impl.RecordGet(list, n, 3); !ok {
			t.Errorf("by %d there is no other field", tag)
		}
	}
}

// Promise 30.
func TestWhoKnowsFewerFields(t *testing.T) {
	r := rand.New(rand.NewSource(56))
	for _, list := range fieldsSome(56) {
		_, choices := placesIn(list)
		for most := range len(list) + 1 {
			few := list[:most]
			places, known := placesIn(few)
			more, _, _ := someRecord(r, list)
			less, vals, choice := someRecord(r, few)
			for at, f := range few {
				// One choice alone is told by no tag, which who knows more looks at.
				if f.Choice && known == 1 && choices > 1 {
					continue
				}
				a, one := impl.RecordGet(few, more, at)
				b, two := impl.RecordGet(list, more, at)
				c, three := impl.RecordGet(list, less, at)
				there := !f.Choice || known == 1 || places[at] == choice
				if one != two || !sameVal(a, b) || three != there || there && !sameVal(c, vals[at]) {
					t.Fatalf("%+v has at %d %+v, %v, by %d fields %+v, %v, and of these %+v, %v", list, at, b, two, most, a, one, c, three)
				}
			}
			for at := most; at < len(list); at++ {
				v, ok := impl.RecordGet(list, less, at)
				if !list[at].Choice && (!ok || !sameVal(v, impl.Val{Num: list[at].Else})) {
					t.Fatalf("%+v has of %d fields at %d %+v, %v", list, most, at, v, ok)
				}
			}
		}
	}
}

// alikeVals checks that two records have the same numbers in all fields, and nodes that say the same.
func alikeVals(t *testing.T, list []impl.Field, a, b impl.Node) {
	t.Helper()
	for at := range list {
		v, one := impl.RecordGet(list, a, at)
		w, two := impl.RecordGet(list, b, at)
		if one != two || v.Num != w.Num || !impl.Alike(v.Node, w.Node) {
			t.Fatalf("%+v of %+v has at %d %+v, %v, and %+v %+v, %v", a, list, at, v, one, b, w, two)
		}
	}
	if impl.RecordChoice(list, a) != impl.RecordChoice(list, b) {
		t.Fatalf("%+v and %+v of %+v have other choices", a, b, list)
	}
}

// Promise 31.
func TestOneFormHasTheSameFields(t *testing.T) {
	shorter := 0
	forRecords(57, func(r *rand.Rand, list []impl.Field, n impl.Node) {
		alikeVals(t, list, n, impl.Canon(n))
		if len(impl.Canon(n).Data) < len(n.Data) {
			shorter++
		}
	})
	if shorter < 500 {
		t.Errorf("just %d were shorter", shorter)
	}
}

// Promise 32.
func TestWhatWasSentHasTheSameFields(t *testing.T) {
	taken := 0
	forRecords(58, func(r *rand.Rand, list []impl.Field, n impl.Node) {
		text, ok := impl.Send(n, 1+r.Intn(30))
		back, code := impl.Take(text, impl.ReadMax)
		if !ok || costIn(n) > impl.ReadMax {
			return
		}
		taken++
		for at := range list {
			v, one := impl.RecordGet(list, n, at)
			w, two := impl.RecordGet(list, back, at)
			if code != impl.ReadFine || one != two || !sameVal(v, w) {
				t.Fatalf("%+v of %+v has at %d %+v, %v, and sent %+v, %v", n, list, at, v, one, w, two)
			}
		}
	})
	if taken < 5000 {
		t.Errorf("just %d were taken", taken)
	}
}

// Promise 44.
func TestTwoFieldsAreSetInEitherOrder(t *testing.T) {
	set := 0
	forRecords(59, func(r *rand.Rand, list []impl.Field, n impl.Node) {
		if len(list) < 2 {
			return
		}
		a := r.Intn(len(list))
		b := (a + 1 + r.Intn(len(list)-1)) % len(list)
		if list[a].Choice || list[b].Choice {
			return
		}
		v, w := someVal(r, list[a]), someVal(r, list[b])
		x, one := impl.RecordSet(list, n, a, v)
		x, two := impl.RecordSet(list, x, b, w)
		y, three := impl.RecordSet(list, n, b, w)
		y, four := impl.RecordSet(list, y, a, v)
		if !one || !two || !three || !four {
			return
		}
		set++
		if !impl.NodeSame(x, y) {
			t.Fatalf("%+v of %+v set at %d and %d: %+v and %+v", n, list, a, b, x, y)
		}
	})
	if set < 3000 {
		t.Errorf("just %d were set", set)
	}
}

// Promise 45.
func TestFieldThatIsSetToWhatItIs(t *testing.T) {
	r := rand.New(rand.NewSource(60))
	for _, list := range fieldsSome(60) {
		n, _, _ := someRecord(r, list)
		for _, was := range []impl.Node{n, impl.Canon(n)} {
			for at := range list {
				v, there := impl.RecordGet(list, was, at)
				if !there {
					continue
				}
				m, ok := impl.RecordSet(list, was, at, v)
				again, fine := impl.RecordSet(list, m, at, v)
				if !ok || !fine || !impl.Alike(m, was) || !impl.NodeSame(m, again) {
					t.Fatalf("%+v of %+v set at %d to %+v: %+v, and again %+v", was, list, at, v, m, again)
				}
			}
		}
	}
}

// Promise 46.
func TestRecordOfAllElseSaysNothing(t *testing.T) {
	for _, list := range fieldsSome(61) {
		if _, choices := placesIn(list); choices > 0 {
			continue
		}
		var vals []impl.Val
		for _, f := range list {
			vals = append(vals, impl.Val{Num: f.Else})
		}
		n, ok := impl.RecordOf(list, vals, -1)
		if !ok || !impl.NodeSame(impl.Canon(n), structNode("")) {
			t.Fatalf("%+v of %+v says %+v, %v", vals, list, n, ok)
		}
		for at, f := range list {
			if f.Size == impl.SizePoint {
				continue
			}
			other := slices.Clone(vals)
			other[at].Num ^= 1
			if n, ok := impl.RecordOf(list, other, -1); !ok || impl.NodeSame(impl.Canon(n), structNode("")) {
				t.Fatalf("%+v of %+v says nothing", other, list)
			}
		}
	}
}

// Promise 67.
func TestChoiceThatWasSetIsThere(t *testing.T) {
	set := 0
	forRecords(62, func(r *rand.Rand, list []impl.Field, n impl.Node) {
		places, choices := placesIn(list)
		for at, f := range list {
			m, ok := impl.RecordSet(list, n, at, someVal(r, f))
			if !ok {
				continue
			}
			want := impl.RecordChoice(list, n)
			if f.Choice && choices > 1 {
				want = places[at]
				set++
			}
			if got := impl.RecordChoice(list, m); got != want {
				t.Fatalf("%+v of %+v set at %d has the choice %d, not %d", n, list, at, got, want)
			}
			for i, other := range list {
				_, there := impl.RecordGet(list, m, i)
				if f.Choice && other.Choice && choices > 1 && there != (i == at) {
					t.Fatalf("%+v of %+v set at %d has choice %d: %v", n, list, at, i, there)
				}
			}
		}
	})
	if set < 20000 {
		t.Errorf("just %d choices were set", set)
	}
}

// Promise 67: nothing is left of what another choice had, in whatever room, and each is written as turned by its own Else.
func TestChoiceThatIsSetOverAnother(t *testing.T) {
	list := []impl.Field{c8, c64, cp, {Size: impl.SizeFour, Choice: true, Else: 1 << 31}, cp, {Size: impl.SizeBit, Choice: true, Else: 1}}
	l := layout(t, list)
	full := []impl.Val{{Num: 255}, {Num: -1}, {Node: chain(3)}, {Num: 1<<32 - 1}, {Node: structNode("abcdefgh")}, {}}
	for a := range list {
		for b := range list {
			n, one := impl.RecordSet(list, impl.Node{}, a, full[a])
			n, two := impl.RecordSet(list, n, b, full[b])
			want, three := impl.RecordSet(list, impl.Node{}, b, full[b])
			if !one || !two || !three || !impl.NodeSame(n, want) {
				t.Errorf("%d over %d: %+v", b, a, n)
			}
			// Told to be there, the other one is what it is by itself, but for what stands in its room.
			if n.Data = put(t, n.Data, 2*l.Tag, 2, a); list[a].Size == impl.SizePoint && list[b].Size != impl.SizePoint {
				if v, ok := impl.RecordGet(list, n, a); !ok || !isNothing(v.Node) {
					t.Errorf("%d over %d: %+v", b, a, v)
				}
			}
		}
	}
	// A choice without a tag, over what stands there.
	one := []impl.Field{{Size: impl.SizeOne, Choice: true, Else: 3}, f8}
	if n, ok := impl.RecordSet(one, structNode("abcdefgh"), 0, impl.Val{Num: 3}); !ok || n.Data != "\x00bcdefgh" {
		t.Errorf("one choice alone: %+v, %v", n, ok)
	}
	// Room that no choice has stays, though a tag and a greater choice are beside it.
	wide := []impl.Field{c1, f1, c16, f8}
	if n, ok := impl.RecordSet(wide, structNode(strings.Repeat("\xff", 8)), 0, impl.Val{}); !ok || n.Data != "\xfe\xff\x00\x00\x00\x00\xff\xff" {
		t.Errorf("two choices: %x, %v", n.Data, ok)
	}
}

// Promise 68.
func TestWhatALayoutDoesNotKnowStays(t *testing.T) {
	longer := 0
	forRecords(63, func(r *rand.Rand, list []impl.Field, n impl.Node) {
		l := layoutIn(list)
		for at, f := range list {
			m, ok := impl.RecordSet(list, n, at, someVal(r, f))
			if !ok {
				continue
			}
			if len(m.Data) != max(len(n.Data), 8*l.Data) || len(m.Ptrs) != max(len(n.Ptrs), l.Ptrs) {
				t.Fatalf("%+v of %+v set at %d: %+v", n, list, at, m)
			}
			if len(n.Data) > 8*l.Data && m.Data[8*l.Data:] != n.Data[8*l.Data:] {
				t.Fatalf("%+v of %+v set at %d: %+v", n, list, at, m)
			}
			for i := l.Ptrs; i < len(n.Ptrs); i++ {
				if !impl.NodeSame(m.Ptrs[i], n.Ptrs[i]) {
					t.Fatalf("%+v of %+v set at %d: %+v", n, list, at, m)
				}
			}
			if len(n.Data) > 8*l.Data || len(n.Ptrs) > l.Ptrs {
				longer++
			}
		}
	})
	if longer < 5000 {
		t.Errorf("just %d were longer", longer)
	}
}

// Promises 27 and 28: answers are new memory.
func TestRecordsShareNoMemory(t *testing.T) {
	list := []impl.Field{fp, f8, fp, cp, cp}
	inner := structNode("abcdefgh", structNode(""), manyNode(structNode("", structNode(""))))
	held := func() impl.Node {
		return structNode(noughts(1), copied(inner), copied(inner), copied(inner), copied(inner), pointNode(copied(inner)))
	}
	vals := []impl.Val{{Node: copied(inner)}, {}, {Node: copied(inner)}, {Node: copied(inner)}, {Node: copied(inner)}}
	made, _ := impl.RecordOf(list, vals, 1)
	if share(&made, &vals[0].Node, &vals[2].Node, &vals[3].Node, &vals[4].Node) {
		t.Error("a record shares memory with its values")
	}
	twice, ok := impl.RecordOf(list, []impl.Val{{Node: inner}, {}, {Node: inner}, {Node: inner}, {Node: inner}}, 1)
	if share(&twice) || !ok || !impl.NodeSame(twice, made) {
		t.Error("a record of one node twice shares memory")
	}
	for at, f := range list {
		n := held()
		was := copied(n)
		got, _ := impl.RecordGet(list, n, at)
		if share(&n, &got.Node) {
			t.Errorf("what is got at %d shares memory with its record", at)
		}
		for _, v := range []impl.Val{vals[at], {}, {Num: -1}} {
			m, ok := impl.RecordSet(list, n, at, v)
			if share(&n, &m) || f.Size == impl.SizePoint && share(&m, &v.Node) {
				t.Errorf("what is set at %d shares memory: %v", at, ok)
			}
		}
		if !impl.NodeSame(n, was) {
			t.Errorf("the record is written into at %d", at)
		}
	}
	same := structNode(noughts(1), inner, inner, inner, pointNode(inner, inner))
	m, one := impl.RecordSet(list, same, 0, impl.Val{Node: inner})
	x, two := impl.RecordSet(list, same, 9, impl.Val{})
	v, three := impl.RecordGet([]impl.Field{fp, fp, fp, fp}, same, 3)
	if !one || two || !three || share(&m) || share(&x) || share(&v.Node) {
		t.Error("a record that holds one node twice shares memory")
	}
	n := held()
	deep, set := impl.RecordSet(list, n, 0, impl.Val{Node: chain(impl.DeepMax)})
	if set || !impl.NodeSame(deep, n) || share(&deep, &n) {
		t.Error("a record that would be too deep shares memory with what it was")
	}
}

// Promise 28: nothing is written behind the end of an argument.
func TestRecordsAreNotWrittenBehind(t *testing.T) {
	list := append(make([]impl.Field, 0, 9), fp, f8, cp, cp)
	behind := structNode("ABCDEFGH")
	ptrs := []impl.Node{structNode("abcdefgh"), behind, behind, behind, behind}
	n := structNode("", ptrs[:1]...)
	n.Ptrs = ptrs[:1]
	vals := []impl.Val{{Node: behind}, {Num: 9}, {}, {}, {Num: 77}, {Num: 78}}
	impl.RecordOf(list, vals[:4], 1)
	for at := range list {
		impl.RecordSet(list, n, at, impl.Val{})
		impl.RecordGet(list, n, at)
	}
	if !slices.EqualFunc(ptrs, []impl.Node{structNode("abcdefgh"), behind, behind, behind, behind}, impl.NodeSame) || vals[4].Num != 77 || vals[5].Num != 78 || vals[1].Num != 9 {
		t.Error("an argument was written into")
	}
	if !slices.Equal(list[:5:9][:5], []impl.Field{fp, f8, cp, cp, {}}) {
		t.Error("the fields were written into")
	}
}
