package tests

import (
	"math"
	"math/rand"
	"strings"
	"testing"

	"loop.example/quoin/impl"
)

// bitsOf are the bits of one of each size up to SizeEight.
var bitsOf = []int{0, 1, 8, 16, 32, 64}

// structNode is a struct.
func structNode(data string, ptrs ...impl.Node) impl.Node {
	return impl.Node{Kind: impl.NodeStruct, Data: data, Ptrs: ptrs}
}

// dataNode is a list of a size up to SizeEight.
func dataNode(size, count int, data string) impl.Node {
	return impl.Node{Kind: impl.NodeList, Size: size, Count: count, Data: data}
}

// pointNode is a list of pointers.
func pointNode(ptrs ...impl.Node) impl.Node {
	return impl.Node{Kind: impl.NodeList, Size: impl.SizePoint, Count: len(ptrs), Ptrs: ptrs}
}

// manyNode is a list of structs.
func manyNode(items ...impl.Node) impl.Node {
	return impl.Node{Kind: impl.NodeList, Size: impl.SizeMany, Count: len(items), Items: items}
}

// times is so many of one.
func times[T any](n T, count int) []T {
	out := make([]T, count)
	for i := range out {
		out[i] = n
	}
	return out
}

// chain is so many structs, each but the last with the next one.
func chain(count int) impl.Node {
	n := structNode("")
	for range count - 1 {
		n = structNode("", n)
	}
	return n
}

// wordsIn is how many words a node takes, told from the document.
func wordsIn(n impl.Node) int {
	words := (len(n.Data)+7)/8 + len(n.Ptrs)
	if n.Kind == impl.NodeList && n.Size == impl.SizeMany {
		words++
	}
	for _, p := range append(append([]impl.Node{}, n.Ptrs...), n.Items...) {
		words += wordsIn(p)
	}
	return words
}

// costIn is what a node takes of the limit, told from the document.
func costIn(n impl.Node) int {
	cost := (len(n.Data)+7)/8 + len(n.Ptrs)
	if n.Kind == impl.NodeList && n.Size == impl.SizeVoid {
		cost += n.Count
	}
	if n.Kind == impl.NodeList && n.Size == impl.SizeMany {
		cost++
		if n.Count > 0 && n.Items[0].Data == "" && len(n.Items[0].Ptrs) == 0 {
			cost += n.Count
		}
	}
	for _, p := range append(append([]impl.Node{}, n.Ptrs...), n.Items...) {
		cost += costIn(p)
	}
	return cost
}

// deepIn is how deep a node is, told from the document.
func deepIn(n impl.Node) int {
	if n.Kind == impl.NodeNone {
		return 0
	}
	deep := 0
	for _, p := range n.Ptrs {
		deep = max(deep, deepIn(p))
	}
	for _, item := range n.Items {
		deep = max(deep, deepIn(item)-1)
	}
	return deep + 1
}

// someBytes is so many bytes, of which many are 0.
func someBytes(r *rand.Rand, count int) string {
	out := make([]byte, count)
	for i := range out {
		if r.Intn(2) == 0 {
			out[i] = byte(r.Intn(256))
		}
	}
	return string(out)
}

// somePtrs is so many nodes at most so deep.
func somePtrs(r *rand.Rand, count, deep int) []impl.Node {
	var out []impl.Node
	for range count {
		if deep == 0 || r.Intn(4) == 0 {
			out = append(out, impl.Node{})
		} else {
			out = append(out, anyNode(r, deep))
		}
	}
	return out
}

// anyNode is a struct or a list, at most so deep (at least 1), of however many words.
func anyNode(r *rand.Rand, deep int) impl.Node {
	switch kind := r.Intn(9); kind {
	case 0, 1, 2:
		return structNode(someBytes(r, 8*r.Intn(4)), somePtrs(r, r.Intn(4), deep-1)...)
	case 3:
		return pointNode(somePtrs(r, r.Intn(4), deep-1)...)
	case 4, 5:
		data, ptrs := 8*r.Intn(3), r.Intn(3)
		var items []impl.Node
		for range r.Intn(4) {
			items = append(items, structNode(someBytes(r, data), somePtrs(r, ptrs, deep-1)...))
		}
		return manyNode(items...)
	}
	size, count := r.Intn(6), r.Intn(20)
	bits := bitsOf[size] * count
	data := []byte(someBytes(r, (bits+7)/8))
	if bits%8 != 0 {
		data[len(data)-1] &= 1<<(bits%8) - 1
	}
	return dataNode(size, count, string(data))
}

// someNode is a node that is ok.
func someNode(r *rand.Rand) impl.Node {
	for {
		n := somePtrs(r, 1, 1+r.Intn(8))[0]
		if wordsIn(n) < impl.WordMax {
			return n
		}
	}
}

// edgeNodes are nodes at the bounds of what is ok.
func edgeNodes() []impl.Node {
	none, bare := impl.Node{}, structNode("")
	word, text := structNode("abcdefgh"), dataNode(impl.SizeOne, 3, "hi\x00")
	out := []impl.Node{
		none, bare, word, structNode("", none), structNode(noughts(1)), structNode("", bare), structNode("", none, none, word, none),
		dataNode(impl.SizeVoid, 1, ""), dataNode(impl.SizeVoid, 64*impl.WordMax, ""), structNode("", dataNode(impl.SizeVoid, 999, "")),
		dataNode(impl.SizeBit, 1, "\x00"), dataNode(impl.SizeBit, 7, "\x7f"), dataNode(impl.SizeBit, 8, "\xff"), dataNode(impl.SizeBit, 9, "\xff\x01"), dataNode(impl.SizeBit, 65, "abcdefgh\x01"),
		text, dataNode(impl.SizeOne, 8, "abcdefgh"), dataNode(impl.SizeTwo, 5, "abcdefghij"), dataNode(impl.SizeFour, 3, "abcdefghijkl"), dataNode(impl.SizeEight, 2, "abcdefghABCDEFGH"),
		manyNode(bare), manyNode(times(bare, 998)...), manyNode(times(bare, 64*impl.WordMax)...), manyNode(word, structNode(noughts(1))), manyNode(structNode("", text), structNode("", none)),
		manyNode(structNode("abcdefgh", bare, none), structNode("ABCDEFGH", none, manyNode(word))), structNode("", manyNode(), manyNode(bare), pointNode()),
		pointNode(none), pointNode(none, text, bare, none), pointNode(pointNode(pointNode(bare))),
		structNode(strings.Repeat("abcdefgh", impl.WordMax-1)), structNode("", times(none, impl.WordMax-1)...), dataNode(impl.SizeBit, 64*(impl.WordMax-1), strings.Repeat("abcdefgh", impl.WordMax-1)),
		manyNode(times(word, impl.WordMax-2)...), manyNode(times(structNode("", none), impl.WordMax-2)...), pointNode(times(manyNode(), 99)...),
		pointNode(times(dataNode(impl.SizeVoid, 64*impl.WordMax, ""), impl.WordMax-1)...),
		chain(impl.DeepMax), manyNode(structNode("", chain(impl.DeepMax-1))), manyNode(structNode("", manyNode(structNode("", chain(impl.DeepMax-2))))),
		structNode("", none, chain(impl.DeepMax-1)), pointNode(none, chain(impl.DeepMax-1)),
	}
	deepest := structNode("", none)
	for range impl.DeepMax - 1 {
		deepest = structNode("", deepest)
	}
	out = append(out, deepest)
	for size := impl.SizeVoid; size <= impl.SizeMany; size++ {
		out = append(out, dataNode(size, 0, ""), structNode("", dataNode(size, 0, "")))
	}
	return out
}

// okNodes are the nodes at the bounds, and some more.
func okNodes(seed int64, count int) []impl.Node {
	r := rand.New(rand.NewSource(seed))
	out := edgeNodes()
	for range count {
		out = append(out, someNode(r))
	}
	return out
}

// oddParts are nodes that have parts which their kind has not, or has otherwise.
func oddParts() []impl.Node {
	none, bare, word := impl.Node{}, structNode(""), structNode("abcdefgh")
	out := []impl.Node{
		{Kind: 3}, {Kind: -1}, {Kind: math.MaxInt}, {Kind: math.MinInt},
		{Data: "abcdefgh"}, {Data: "\x00"}, {Ptrs: []impl.Node{{}}}, {Size: 1}, {Count: 1}, {Count: -1}, {Items: []impl.Node{bare}},
		structNode("a"), structNode("abcdefghi"), {Kind: impl.NodeStruct, Size: 1}, {Kind: impl.NodeStruct, Count: 1}, {Kind: impl.NodeStruct, Items: []impl.Node{bare}},
		dataNode(8, 0, ""), dataNode(-1, 0, ""), dataNode(math.MinInt, 0, ""), dataNode(math.MaxInt, 0, ""),
		dataNode(impl.SizeVoid, 1, "a"), dataNode(impl.SizeBit, 1, ""), dataNode(impl.SizeBit, 1, "\x02"), dataNode(impl.SizeBit, 7, "\x80"), dataNode(impl.SizeBit, 9, "\x01"), dataNode(impl.SizeBit, 9, "\x01\x02"), dataNode(impl.SizeBit, 8, "a\x00"),
		dataNode(impl.SizeOne, 3, "hi"), dataNode(impl.SizeOne, 3, "hi\x00\x00\x00\x00\x00\x00"), dataNode(impl.SizeTwo, 1, "a"), dataNode(impl.SizeFour, 1, "abcde"), dataNode(impl.SizeEight, 1, "abcdefghABCDEFGH"),
		dataNode(impl.SizePoint, 1, "abcdefgh"), dataNode(impl.SizePoint, 1, ""), dataNode(impl.SizePoint, 0, "a"), {Kind: impl.NodeList, Size: impl.SizePoint, Count: 1, Ptrs: []impl.Node{{}, {}}}, {Kind: impl.NodeList, Size: impl.SizePoint, Items: []impl.Node{bare}}, {Kind: impl.NodeList, Size: impl.SizePoint, Ptrs: []impl.Node{{}}},
		dataNode(impl.SizeMany, 1, ""), dataNode(impl.SizeMany, 0, "a"), {Kind: impl.NodeList, Size: impl.SizeMany, Count: 2, Items: []impl.Node{word}}, {Kind: impl.NodeList, Size: impl.SizeMany, Ptrs: []impl.Node{{}}}, {Kind: impl.NodeList, Size: impl.SizeMany, Items: []impl.Node{bare}},
		manyNode(none), manyNode(bare, none), manyNode(dataNode(impl.SizeVoid, 0, "")), manyNode(bare, manyNode()), manyNode(word, bare), manyNode(bare, word), manyNode(word, word, structNode("abcdefghABCDEFGH")), manyNode(structNode("", none), bare), manyNode(word, structNode("", none)),
		manyNode(structNode("a")), manyNode(impl.Node{Kind: impl.NodeStruct, Size: 1}), manyNode(impl.Node{Kind: impl.NodeStruct, Items: []impl.Node{bare}}),
		{Kind: impl.NodeList, Count: 1, Ptrs: []impl.Node{{}}}, {Kind: impl.NodeList, Size: impl.SizeOne, Items: []impl.Node{bare}},
	}
	for size := impl.SizeVoid; size <= impl.SizeMany; size++ {
		for _, count := range []int{-1, math.MinInt, math.MaxInt, 64*impl.WordMax + 1, 1 << 61, 1 << 32} {
			out = append(out, dataNode(size, count, ""))
		}
	}
	return out
}

// badNodes are nodes that are not ok.
func badNodes() []impl.Node {
	none, bare := impl.Node{}, structNode("")
	out := []impl.Node{
		manyNode(times(bare, 64*impl.WordMax+1)...), structNode(strings.Repeat("abcdefgh", impl.WordMax)), structNode("", times(none, impl.WordMax)...), pointNode(times(none, impl.WordMax)...),
		structNode(strings.Repeat("abcdefgh", impl.WordMax-1), none), manyNode(times(structNode("abcdefgh"), impl.WordMax-1)...), pointNode(times(manyNode(), 100)...), dataNode(impl.SizeOne, 8*impl.WordMax-7, strings.Repeat("a", 8*impl.WordMax-7)),
		structNode("", structNode(strings.Repeat("abcdefgh", impl.WordMax-1))), dataNode(impl.SizeBit, 64*impl.WordMax, strings.Repeat("abcdefgh", impl.WordMax)),
		chain(impl.DeepMax + 1), manyNode(structNode("", chain(impl.DeepMax))), pointNode(none, chain(impl.DeepMax)), structNode("", none, chain(impl.DeepMax)), chain(10000),
		manyNode(structNode("", none), structNode("", chain(impl.DeepMax))),
	}
	for _, odd := range oddParts() {
		out = append(out, odd, structNode("", odd), structNode("", none, odd), pointNode(odd), manyNode(structNode("", none), structNode("", odd)))
	}
	return append(out, loops()...)
}

// loops are nodes that hold themselves.
func loops() []impl.Node {
	one := structNode("", impl.Node{})
	one.Ptrs[0] = one
	wide := structNode("", times(impl.Node{}, 50)...)
	for i := range wide.Ptrs {
		wide.Ptrs[i] = wide
	}
	list := manyNode(structNode("", impl.Node{}))
	list.Items[0].Ptrs[0] = list
	items := manyNode(structNode(""))
	items.Items[0] = items
	return []impl.Node{one, wide, list, items}
}

// Promise 12: what is ok, and what is not.
func TestWhatNodesAreOk(t *testing.T) {
	for i, n := range okNodes(15, 2000) {
		if !impl.NodeOk(n) || impl.NodeWords(n) != wordsIn(n) {
			t.Errorf("node %d is not ok: %d words, not %d", i, impl.NodeWords(n), wordsIn(n))
		}
	}
	for i, n := range badNodes() {
		if impl.NodeOk(n) || impl.NodeWords(n) != 0 || impl.ReadCost(n) != 0 {
			t.Errorf("bad node %d is ok: %d words, cost %d", i, impl.NodeWords(n), impl.ReadCost(n))
		}
	}
}

// Promise 12.
func TestAllWithinWhatIsOkIsOk(t *testing.T) {
	for i, n := range okNodes(16, 1000) {
		for _, p := range append(append([]impl.Node{}, n.Ptrs...), n.Items...) {
			if !impl.NodeOk(p) {
				t.Fatalf("node %d: not all within is ok", i)
			}
		}
		fits := deepIn(n) < impl.DeepMax && wordsIn(n) < impl.WordMax-1
		wrapped := structNode("", n)
		if impl.NodeOk(wrapped) != fits || fits && impl.NodeWords(wrapped) != impl.NodeWords(n)+1 {
			t.Errorf("node %d: within a struct alone it takes %d words, not one more than %d", i, impl.NodeWords(wrapped), impl.NodeWords(n))
		}
	}
}

// Promise 12: a node is as deep as what it points to, whatever items there are.
func TestHowDeepIsOk(t *testing.T) {
	for deep := 1; deep <= impl.DeepMax+2; deep++ {
		for i, n := range []impl.Node{chain(deep), pointNode(impl.Node{}, chain(deep)), manyNode(structNode("", impl.Node{}), structNode("", chain(deep)))} {
			if want := deepIn(n) <= impl.DeepMax; impl.NodeOk(n) != want {
				t.Errorf("%d, %d: %d deep: not %v", deep, i, deepIn(n), want)
			}
		}
	}
	if n := structNode("", times(impl.Node{}, 3)...); deepIn(n) != 1 || deepIn(chain(8)) != 8 || deepIn(manyNode(structNode("", chain(7)))) != 8 {
		t.Error("the test's own depth")
	}
}

// changed are all nodes that differ from one in one part, somewhere within.
func changed(n impl.Node) []impl.Node {
	var out []impl.Node
	for _, by := range []int{1, -1} {
		kind, size, count := n, n, n
		kind.Kind += by
		size.Size += by
		count.Count += by
		out = append(out, kind, size, count)
	}
	longer, ptrs, items := n, n, n
	longer.Data += "\x00"
	ptrs.Ptrs = append(append([]impl.Node{}, n.Ptrs...), impl.Node{})
	items.Items = append(append([]impl.Node{}, n.Items...), impl.Node{})
	out = append(out, longer, ptrs, items)
	for at := range n.Data {
		other := n
		other.Data = n.Data[:at] + string([]byte{n.Data[at] ^ 1}) + n.Data[at+1:]
		out = append(out, other)
	}
	for at := range n.Ptrs {
		for _, p := range changed(n.Ptrs[at]) {
			other := n
			other.Ptrs = append([]impl.Node{}, n.Ptrs...)
			other.Ptrs[at] = p
			out = append(out, other)
		}
	}
	for at := range n.Items {
		for _, p := range changed(n.Items[at]) {
			other := n
			other.Items = append([]impl.Node{}, n.Items...)
			other.Items[at] = p
			out = append(out, other)
		}
	}
	return out
}

// copied is a node of other memory, with empty lists where there were none, and the other way round.
func copied(n impl.Node) impl.Node {
	flip := func(list []impl.Node) []impl.Node {
		if list == nil {
			return []impl.Node{}
		}
		var out []impl.Node
		for _, p := range list {
			out = append(out, copied(p))
		}
		return out
	}
	n.Data = strings.Clone(n.Data)
	n.Ptrs, n.Items = flip(n.Ptrs), flip(n.Items)
	return n
}

// Promise 13.
func TestSameNodes(t *testing.T) {
	r := rand.New(rand.NewSource(17))
	all := []impl.Node{{}, structNode(""), manyNode(), dataNode(impl.SizeBit, 9, "\xff\x01"), manyNode(structNode("abcdefgh", structNode("", structNode("abcdefgh"))))}
	for range 100 {
		all = append(all, someNode(r))
	}
	for i, n := range append(all, oddParts()...) {
		if !impl.NodeSame(n, n) || !impl.NodeSame(n, copied(n)) || !impl.NodeSame(copied(n), n) {
			t.Errorf("node %d is not the same as itself", i)
		}
		for k, other := range changed(n) {
			if impl.NodeSame(n, other) || impl.NodeSame(other, n) {
				t.Errorf("node %d is the same as what differs from it, %d", i, k)
			}
		}
	}
}

// Promise 13: of each two of different nodes.
func TestDifferentNodes(t *testing.T) {
	all := edgeNodes()
	for i := range all {
		for k := range all {
			a, b := impl.NodeSame(all[i], all[k]), impl.NodeSame(all[k], all[i])
			if a != b || i == k && !a {
				t.Errorf("%d, %d: %v, %v", i, k, a, b)
			}
		}
	}
	if impl.NodeSame(structNode("", impl.Node{}), structNode("", structNode(""))) || impl.NodeSame(structNode(""), structNode(noughts(1))) {
		t.Error("nothing is the same as a struct of nothing")
	}
}

// Promise 13: order counts, and so does each one of several.
func TestSameNodesInOrder(t *testing.T) {
	a, b := structNode("abcdefgh"), structNode("ABCDEFGH")
	for i, pair := range [][2]impl.Node{
		{structNode("", a, b), structNode("", b, a)}, {structNode("", a, b), structNode("", a, a)}, {structNode("", a, b), structNode("", b, b)},
		{manyNode(a, b), manyNode(b, a)}, {manyNode(a, b), manyNode(a, a)}, {structNode("", a), structNode("", a, b)},
		{impl.Node{Ptrs: []impl.Node{a}}, impl.Node{Items: []impl.Node{a}}},
	} {
		if impl.NodeSame(pair[0], pair[1]) || impl.NodeSame(pair[1], pair[0]) {
			t.Errorf("pair %d is the same", i)
		}
	}
}

// Promise 13: nodes that hold themselves, or one list very often, are told too.
func TestSameNodesThatHoldThemselves(t *testing.T) {
	a, b := loops(), loops()
	for i := range a {
		for k := range b {
			if got := impl.NodeSame(a[i], b[k]); got != (i == k) {
				t.Errorf("%d, %d: %v", i, k, got)
			}
		}
	}
	often := func(data string) impl.Node {
		n := structNode(data)
		for range 100 {
			n = structNode("", times(n, 2)...)
		}
		return n
	}
	if !impl.NodeSame(often("a"), often("a")) || impl.NodeSame(often("a"), often("b")) {
		t.Error("what holds one list very often")
	}
	if !impl.NodeSame(chain(100000), chain(100000)) || impl.NodeSame(chain(100000), chain(100001)) {
		t.Error("a long chain")
	}
}

// Promise 85.
func TestReadCost(t *testing.T) {
	for i, n := range okNodes(18, 2000) {
		cost := impl.ReadCost(n)
		if cost != costIn(n) || cost < impl.NodeWords(n) {
			t.Errorf("node %d: cost %d, not %d, of %d words", i, cost, costIn(n), impl.NodeWords(n))
		}
		if wrapped := structNode("", n); impl.NodeOk(wrapped) && impl.ReadCost(wrapped) != cost+1 {
			t.Errorf("node %d: %d within a struct alone, %d without", i, impl.ReadCost(wrapped), cost)
		}
	}
}

// Promises 12 and 85: nothing costs too.
func TestWordsAndCost(t *testing.T) {
	none, bare, word := impl.Node{}, structNode(""), structNode("abcdefgh")
	for i, c := range []struct {
		n           impl.Node
		words, cost int
	}{
		{none, 0, 0}, {bare, 0, 0}, {word, 1, 1}, {structNode("", none), 1, 1}, {structNode("abcdefgh", none, word), 4, 4},
		{dataNode(impl.SizeVoid, 0, ""), 0, 0}, {dataNode(impl.SizeVoid, 7, ""), 0, 7}, {dataNode(impl.SizeVoid, 12800, ""), 0, 12800}, {structNode("", dataNode(impl.SizeVoid, 7, "")), 1, 8},
		{dataNode(impl.SizeBit, 0, ""), 0, 0}, {dataNode(impl.SizeBit, 65, "abcdefgh\x01"), 2, 2}, {dataNode(impl.SizeOne, 3, "hi\x00"), 1, 1}, {dataNode(impl.SizeOne, 9, "abcdefghi"), 2, 2}, {dataNode(impl.SizeEight, 1, "abcdefgh"), 1, 1},
		{pointNode(), 0, 0}, {pointNode(none, word), 3, 3},
		{manyNode(), 1, 1}, {manyNode(bare), 1, 2}, {manyNode(bare, bare, bare), 1, 4}, {manyNode(word), 2, 2}, {manyNode(word, word), 3, 3}, {manyNode(structNode("", none)), 2, 2}, {manyNode(structNode("", word), structNode("", none)), 4, 4},
		{pointNode(times(dataNode(impl.SizeVoid, 12800, ""), 199)...), 199, 199 + 199*12800},
	} {
		if impl.NodeWords(c.n) != c.words || impl.ReadCost(c.n) != c.cost {
			t.Errorf("node %d: %d words, cost %d", i, impl.NodeWords(c.n), impl.ReadCost(c.n))
		}
	}
}
