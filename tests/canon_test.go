package tests

import (
	"math/rand"
	"strings"
	"testing"

	"loop.example/quoin/impl"
)

// ends is how many bytes and pointers a struct needs, told from the document.
func ends(n impl.Node) (int, int) {
	data, ptrs := 0, 0
	for at := 0; at < len(n.Data); at += 8 {
		if n.Data[at:at+8] != noughts(1) {
			data = at + 8
		}
	}
	for i, p := range n.Ptrs {
		if p.Kind != impl.NodeNone {
			ptrs = i + 1
		}
	}
	return data, ptrs
}

// sized is a struct of just so many bytes and pointers.
func sized(n impl.Node, data, ptrs int) impl.Node {
	text := (n.Data + noughts(impl.WordMax))[:data]
	list := append(append([]impl.Node{}, n.Ptrs...), times(impl.Node{}, ptrs)...)
	return structNode(text, list[:ptrs]...)
}

// canonIn is the one form of a node, told from the document.
func canonIn(n impl.Node) impl.Node {
	ptrs := []impl.Node{}
	for _, p := range n.Ptrs {
		ptrs = append(ptrs, canonIn(p))
	}
	n.Ptrs = ptrs
	if n.Kind == impl.NodeStruct {
		data, ptrs := ends(n)
		return sized(n, data, ptrs)
	}
	data, count := 0, 0
	for _, item := range n.Items {
		d, p := ends(item)
		data, count = max(data, d), max(count, p)
	}
	items := []impl.Node{}
	for _, item := range n.Items {
		items = append(items, sized(canonIn(item), data, count))
	}
	n.Items = items
	return n
}

// fatter is what says the same as a node, with more at some ends.
func fatter(r *rand.Rand, n impl.Node) impl.Node {
	ptrs := []impl.Node{}
	for _, p := range n.Ptrs {
		ptrs = append(ptrs, fatter(r, p))
	}
	n.Ptrs = ptrs
	if n.Kind == impl.NodeStruct {
		return sized(n, len(n.Data)+8*r.Intn(3), len(ptrs)+r.Intn(3))
	}
	data, count := 8*r.Intn(3), r.Intn(3)
	items := []impl.Node{}
	for _, item := range n.Items {
		bare := fatter(r, structNode("", item.Ptrs...))
		items = append(items, sized(structNode(item.Data, bare.Ptrs...), len(item.Data)+data, len(item.Ptrs)+count))
	}
	n.Items = items
	return n
}

// sayers are nodes that are ok and say the same as one: it, its one form, and fatter ones.
func sayers(r *rand.Rand, n impl.Node) []impl.Node {
	out := []impl.Node{n, canonIn(n)}
	for range 4 {
		for _, fat := range []impl.Node{fatter(r, n), fatter(r, canonIn(n))} {
			if wordsIn(fat) < impl.WordMax {
				out = append(out, fat)
			}
		}
	}
	return out
}

// smallNodes are all nodes of few parts, of which many say the same.
func smallNodes() []impl.Node {
	zero, word := noughts(1), "abcdefgh"
	parts := []impl.Node{{}, structNode(""), structNode(zero), structNode(word)}
	some := [][]impl.Node{{}}
	for _, p := range parts {
		some = append(some, []impl.Node{p})
		for _, q := range parts {
			some = append(some, []impl.Node{p, q})
		}
	}
	out := []impl.Node{{}, manyNode(), pointNode()}
	for _, ptrs := range some {
		out = append(out, pointNode(ptrs...))
		for _, data := range []string{"", zero, word, zero + word, word + zero} {
			out = append(out, structNode(data, ptrs...))
		}
	}
	structs := out
	for _, a := range structs {
		for _, b := range structs {
			if a.Kind == impl.NodeStruct && len(a.Data) < 9 && len(a.Ptrs) < 2 && impl.NodeOk(manyNode(a, b)) {
				out = append(out, manyNode(a, b))
			}
		}
	}
	for size := impl.SizeVoid; size < impl.SizePoint; size++ {
		out = append(out, dataNode(size, 0, ""), dataNode(size, 2, strings.Repeat("\x00", (2*bitsOf[size]+7)/8)))
	}
	return out
}

// Promise 21.
func TestOneForm(t *testing.T) {
	for i, n := range okNodes(39, 3000) {
		was := copied(n)
		x := impl.Canon(n)
		if !impl.NodeSame(x, canonIn(n)) {
			t.Fatalf("node %d: %+v has the one form %+v", i, n, x)
		}
		if !impl.NodeOk(x) || impl.NodeWords(x) > impl.NodeWords(n) || impl.ReadCost(x) > impl.ReadCost(n) || deepIn(x) != deepIn(n) {
			t.Fatalf("node %d: the one form of %+v is not ok, or more: %+v", i, n, x)
		}
		if !impl.NodeSame(impl.Canon(x), x) || !impl.Alike(x, n) || !impl.Alike(n, x) || !impl.Alike(n, n) {
			t.Fatalf("node %d: the one form of %+v is not its own, or says something else: %+v", i, n, x)
		}
		if !impl.NodeSame(n, was) {
			t.Fatalf("node %d was written into", i)
		}
	}
}

// Promises 21 and 86: just what the one form is, told by hand.
func TestJustWhatTheOneFormIs(t *testing.T) {
	none, bare, zero, word := impl.Node{}, structNode(""), noughts(1), "abcdefgh"
	a, text := structNode(word), dataNode(impl.SizeOne, 3, "hi\x00")
	for i, c := range []struct{ n, form impl.Node }{
		{none, none}, {bare, bare}, {a, a}, {text, text}, {structNode(zero), bare}, {structNode(zero + zero), bare}, {structNode("", none), bare}, {structNode("", none, none), bare},

		// Words of noughts just at the end, whole ones alone.
		{structNode(word + zero), a}, {structNode(zero + word + zero + zero), structNode(zero + word)}, {structNode(word + zero + word), structNode(word + zero + word)}, {structNode("a" + zero[1:] + zero), structNode("a" + zero[1:])}, {structNode(zero[1:] + "a" + zero), structNode(zero[1:] + "a")},

		// A pointer to nothing ahead of another one stays; so does one to a struct of nothing, or to an empty list.
		{structNode("", none, a), structNode("", none, a)}, {structNode("", none, none, a, none), structNode("", none, none, a)}, {structNode(zero, a, none, bare, none), structNode("", a, none, bare)},
		{structNode("", bare), structNode("", bare)}, {structNode("", none, structNode(zero, none)), structNode("", none, bare)}, {structNode("", manyNode()), structNode("", manyNode())}, {structNode("", pointNode(none)), structNode("", pointNode(none))}, {structNode("", dataNode(impl.SizeVoid, 0, "")), structNode("", dataNode(impl.SizeVoid, 0, ""))},

		// A list has as many as it counts, noughts and nothing at its end too.
		{dataNode(impl.SizeOne, 9, "a"+zero), dataNode(impl.SizeOne, 9, "a"+zero)}, {dataNode(impl.SizeEight, 2, zero+zero), dataNode(impl.SizeEight, 2, zero+zero)}, {dataNode(impl.SizeBit, 65, zero+"\x00"), dataNode(impl.SizeBit, 65, zero+"\x00")}, {pointNode(none, none), pointNode(none, none)}, {pointNode(structNode(zero), none), pointNode(bare, none)}, {pointNode(structNode(word+zero, none), structNode("", a)), pointNode(a, structNode("", a))},

		// Items of unlike length are as long as the longest needs, of words and of pointers, be it another one.
		{manyNode(structNode(word+zero), structNode(zero+zero)), manyNode(a, structNode(zero))}, {manyNode(structNode(zero+zero), structNode(word+zero)), manyNode(structNode(zero), a)}, {manyNode(structNode(zero), structNode(zero)), manyNode(bare, bare)}, {manyNode(structNode(zero, none)), manyNode(bare)},
		{manyNode(structNode(zero, a, none), structNode(word, none, none)), manyNode(structNode(zero, a), structNode(word, none))}, {manyNode(structNode(word+zero, none, none), structNode(zero+zero, none, a)), manyNode(structNode(word, none, none), structNode(zero, none, a))}, {manyNode(structNode("", none, a), structNode("", a, none)), manyNode(structNode("", none, a), structNode("", a, none))},
		{manyNode(structNode("", bare, none), structNode("", none, none)), manyNode(structNode("", bare), structNode("", none))}, {manyNode(structNode(zero+word), structNode(word+zero), structNode(zero+zero)), manyNode(structNode(zero+word), structNode(word+zero), structNode(zero+zero))},

		// All within is so too, however deep.
		{structNode(zero, structNode(word+zero, structNode(zero, none))), structNode("", structNode(word, bare))}, {pointNode(pointNode(structNode(zero, manyNode(structNode(zero, none))))), pointNode(pointNode(structNode("", manyNode(bare))))}, {manyNode(structNode(zero, manyNode(structNode(word+zero), structNode(zero+zero)))), manyNode(structNode("", manyNode(a, structNode(zero))))},
	} {
		if x := impl.Canon(c.n); !impl.NodeSame(x, c.form) {
			t.Errorf("case %d: %+v has the one form %+v, not %+v", i, c.n, x, c.form)
		}
		one, _ := impl.BuildOne(c.form)
		if s, ok := impl.CanonPut(c.n); !ok || s != one || !impl.CanonOk(s) || !impl.Alike(c.n, c.form) || !impl.Alike(c.form, c.n) {
			t.Errorf("case %d: %+v is written %x, not %x", i, c.n, s, one)
		}
		if was, ok := impl.BuildOne(c.n); !ok || impl.CanonOk(was) != impl.NodeSame(c.n, c.form) {
			t.Errorf("case %d: %x of %+v is the one form, or is not", i, was, c.n)
		}
	}
}

// Promises 21 and 22: what is not ok has no one form, and says nothing that is the same, not even as itself.
func TestWhatHasNoOneForm(t *testing.T) {
	for i, n := range badNodes() {
		s, ok := impl.CanonPut(n)
		if x := impl.Canon(n); !impl.NodeSame(x, impl.Node{}) || s != "" || ok {
			t.Errorf("bad node %d: %+v, %x, %v", i, x, s, ok)
		}
		for k, m := range []impl.Node{n, {}, structNode(""), structNode("abcdefgh")} {
			if impl.Alike(n, m) || impl.Alike(m, n) {
				t.Errorf("bad node %d is alike, %d", i, k)
			}
		}
	}
	s, ok := impl.CanonPut(impl.Node{})
	if s != noughts(1) || !ok || !impl.Alike(impl.Node{}, impl.Node{}) {
		t.Errorf("nothing: %x, %v", s, ok)
	}
}

// checkAlike checks two nodes that are ok: whether they are alike, and whether their bytes are the same.
func checkAlike(t *testing.T, a, b impl.Node, same bool) {
	t.Helper()
	x, ok := impl.CanonPut(a)
	y, fine := impl.CanonPut(b)
	if !ok || !fine || (x == y) != same || impl.Alike(a, b) != same || impl.Alike(b, a) != same {
		t.Fatalf("%+v and %+v are alike: not %v; %x, %x", a, b, same, x, y)
	}
}

// Promises 22 and 42.
func TestWhatSaysTheSame(t *testing.T) {
	r := rand.New(rand.NewSource(40))
	fat := 0
	for _, n := range okNodes(40, 500) {
		least := impl.NodeWords(impl.Canon(n))
		for _, other := range sayers(r, n) {
			checkAlike(t, n, other, true)
			if impl.NodeWords(other) < least || impl.NodeWords(impl.Canon(other)) != least {
				t.Fatalf("%+v takes fewer words than the one form of %+v", other, n)
			}
			if impl.NodeWords(other) > least {
				fat++
			}
		}
	}
	if fat < 1000 {
		t.Errorf("just %d take more words than the one form", fat)
	}
}

// Promise 22: what is different somewhere.
func TestWhatDoesNotSayTheSame(t *testing.T) {
	r := rand.New(rand.NewSource(41))
	differ := 0
	for range 150 {
		n := someNode(r)
		for _, other := range changed(n) {
			if !impl.NodeOk(other) {
				continue
			}
			same := impl.NodeSame(canonIn(n), canonIn(other))
			checkAlike(t, n, other, same)
			if !same {
				differ++
			}
		}
	}
	if differ < 1000 {
		t.Errorf("just %d differ", differ)
	}
}

// Promises 22 and 42: of each two of all small nodes, and of those at the bounds.
func TestEachTwoSmallNodes(t *testing.T) {
	alike := 0
	all := smallNodes()
	for i, a := range all {
		least := impl.NodeWords(impl.Canon(a))
		for k, b := range all {
			same := impl.NodeSame(canonIn(a), canonIn(b))
			if impl.Alike(a, b) != same || same && impl.NodeWords(b) < least {
				t.Fatalf("%+v and %+v are alike: not %v", a, b, same)
			}
			if same && i != k {
				alike++
			}
		}
	}
	if alike < 500 {
		t.Errorf("just %d are alike", alike)
	}
	none, bare := impl.Node{}, structNode("")
	unlike := []impl.Node{none, bare, pointNode(), manyNode(), manyNode(bare), manyNode(bare, bare), pointNode(none), pointNode(bare), structNode("", bare), structNode("", none, bare), structNode(noughts(1) + "abcdefgh"), structNode("abcdefgh"), manyNode(structNode("", none, bare)), manyNode(structNode("", bare, none)), dataNode(impl.SizeEight, 1, noughts(1)), dataNode(impl.SizeFour, 2, noughts(1)), dataNode(impl.SizeVoid, 1, ""), dataNode(impl.SizeVoid, 0, ""), dataNode(impl.SizeBit, 0, "")}
	for i, a := range unlike {
		for k, b := range unlike {
			checkAlike(t, a, b, i == k)
		}
	}
}

// Promise 23: the one form of a node, if it may be read, is found to be so.
func TestOneFormIsFound(t *testing.T) {
	for i, n := range okNodes(42, 2000) {
		s, ok := impl.CanonPut(n)
		one, fine := impl.BuildOne(canonIn(n))
		if !ok || !fine || s != one {
			t.Fatalf("node %d: %x, not %x", i, s, one)
		}
		if impl.CanonOk(s) != (costIn(canonIn(n)) <= impl.ReadMax) {
			t.Fatalf("node %d: %x is the one form: %v", i, s, impl.CanonOk(s))
		}
		if was, _ := impl.BuildOne(n); impl.CanonOk(was) && was != s {
			t.Fatalf("node %d: %x is the one form, and so is %x", i, was, s)
		}
	}
	for i, c := range []struct {
		n  impl.Node
		ok bool
	}{
		{dataNode(impl.SizeVoid, 1000, ""), true}, {dataNode(impl.SizeVoid, 1001, ""), false}, {manyNode(times(structNode(""), 999)...), true}, {manyNode(times(structNode(""), 1000)...), false}, {manyNode(times(structNode(noughts(1)), 198)...), true},
		{structNode(strings.Repeat("abcdefgh", 199)), true}, {chain(impl.DeepMax), true}, {structNode("", dataNode(impl.SizeVoid, 999, "")), true}, {structNode("", dataNode(impl.SizeVoid, 1000, "")), false},
	} {
		if s, ok := impl.CanonPut(c.n); !ok || impl.CanonOk(s) != c.ok {
			t.Errorf("case %d: %v, %x", i, ok, s)
		}
	}
}

// Promise 23: words that are read, and are not the one form of what they say.
func TestWordsThatAreNotTheOneForm(t *testing.T) {
	a, b, zero := "aaaaaaaa", "bbbbbbbb", noughts(1)
	for i, c := range []struct {
		text string
		ok   bool
	}{
		{zero, true}, {zero + zero, false}, {zero + a, false}, {toStruct(0, 1, 0) + a, true}, {toStruct(0, 1, 0) + a + zero, false}, {toStruct(0, 1, 0) + a + a, false}, {toStruct(1, 1, 0) + zero + a, false}, {toStruct(0, 1, 0) + zero, false}, {toStruct(0, 2, 0) + a + zero, false}, {toStruct(0, 2, 0) + zero + a, true}, {toStruct(0, 0, 1) + zero, false},

		// What has no words stands just where it is built.
		{toStruct(-1, 0, 0), true}, {toStruct(-1, 0, 0) + zero, false}, {toList(0, impl.SizeVoid, 3), true}, {toList(-1, impl.SizeVoid, 3), false}, {toList(0, impl.SizeEight, 0), true}, {toList(-1, impl.SizeEight, 0), false}, {toList(0, impl.SizeMany, 0) + zero, true}, {toList(1, impl.SizeMany, 0) + zero + zero, false}, {toList(0, impl.SizeMany, 0) + toStruct(0, 1, 0), false}, {toList(0, impl.SizeMany, 0) + toStruct(2, 0, 0), true},
		{toStruct(0, 0, 2) + toStruct(-1, 0, 0) + toStruct(-1, 0, 0), true}, {toStruct(0, 0, 2) + toStruct(0, 0, 0) + toStruct(-1, 0, 0), false}, {toStruct(0, 0, 2) + toStruct(-2, 0, 0) + toStruct(-1, 0, 0), false}, {toStruct(0, 0, 2) + zero + toStruct(-1, 0, 0), true}, {toStruct(0, 0, 2) + toStruct(-1, 0, 0) + zero, false},

		// In order, side by side, each once.
		{toStruct(0, 0, 2) + toStruct(1, 1, 0) + toStruct(1, 1, 0) + a + b, true}, {toStruct(0, 0, 2) + toStruct(2, 1, 0) + toStruct(0, 1, 0) + a + b, false}, {toStruct(0, 0, 2) + toStruct(1, 1, 0) + toStruct(0, 1, 0) + a, false}, {toStruct(0, 0, 2) + toStruct(1, 1, 0) + toStruct(1, 1, 0) + a + a, true}, {toStruct(0, 0, 2) + toStruct(1, 1, 0) + toStruct(2, 1, 0) + a + zero + b, false},

		// No far pointer is needed, to where it is either.
		{toFar(0, 1) + toStruct(0, 1, 0) + a, false}, {toFar(1, 0), false}, {toTwo(0, 1) + toFar(0, 3) + toStruct(0, 1, 0) + a, false},

		// Bits and bytes behind a list that are not used.
		{toList(0, impl.SizeOne, 3) + "hi\x00\x00\x00\x00\x00\x00", true}, {toList(0, impl.SizeOne, 3) + "hi\x00\x00\x00\x00\x00\x01", false}, {toList(0, impl.SizeBit, 9) + "\xff\x01" + zero[2:], true}, {toList(0, impl.SizeBit, 9) + "\xff\x03" + zero[2:], false}, {toList(0, impl.SizePoint, 1) + zero, true},

		// Items that are longer than one of them needs.
		{toList(0, impl.SizeMany, 2) + toStruct(2, 1, 0) + a + zero, true}, {toList(0, impl.SizeMany, 2) + toStruct(2, 1, 0) + zero + a, true}, {toList(0, impl.SizeMany, 2) + toStruct(2, 1, 0) + zero + zero, false}, {toList(0, impl.SizeMany, 4) + toStruct(2, 2, 0) + a + zero + a + zero, false}, {toList(0, impl.SizeMany, 4) + toStruct(2, 2, 0) + a + zero + zero + a, true},
		{toList(0, impl.SizeMany, 4) + toStruct(2, 0, 2) + zero + toStruct(-1, 0, 0) + zero + zero, true}, {toList(0, impl.SizeMany, 4) + toStruct(2, 0, 2) + toStruct(-1, 0, 0) + zero + zero + zero, false}, {toList(0, impl.SizeMany, 2) + toStruct(2, 0, 1) + zero + zero, false},

		// What is not read.
		{"", false}, {"x", false}, {a[1:], false}, {badWord, false}, {toStruct(0, 1, 0), false}, {toStruct(-1, 0, 1), false}, {toList(0, impl.SizeMany, 1) + toStruct(2, 1, 0) + a, false}, {strings.Repeat(zero, impl.WordMax), false}, {strings.Repeat(zero, impl.WordMax+1), false}, {toStruct(0, 199, 0) + strings.Repeat(a, 199), true}, {toStruct(0, 199, 0) + strings.Repeat(a, 200), false}, {toStruct(0, 200, 0) + strings.Repeat(a, 200), false}, {toStruct(0, 1, 0) + a + "x", false}, {toStruct(0, 1, 0) + a[1:], false},
	} {
		if impl.CanonOk(c.text) != c.ok {
			t.Errorf("case %d: %x is the one form: not %v", i, c.text, c.ok)
		}
	}
	for _, text := range noWords() {
		if impl.CanonOk(text) {
			t.Errorf("%d bytes are the one form", len(text))
		}
	}
}

// Promise 23: of any words, none but those of the one form of what is read.
func TestWhatIsFoundToBeTheOneForm(t *testing.T) {
	r := rand.New(rand.NewSource(43))
	found, read := 0, 0
	for _, segs := range messages(43, 4000) {
		texts := []string{segs[0], strings.Join(segs, "")}
		n, code := impl.Read(segs, impl.ReadMax)
		if one, ok := impl.CanonPut(n); code == impl.ReadFine && ok {
			byBit, _ := impl.BitPut(one, r.Intn(8*len(one)), r.Intn(2))
			texts = append(texts, one, one+noughts(1), byBit)
		}
		for _, text := range texts {
			n, code := impl.Read([]string{text}, impl.ReadMax)
			want := false
			if code == impl.ReadFine && wordsIn(n) < impl.WordMax {
				one, _ := impl.BuildOne(canonIn(n))
				want = one == text
				read++
			}
			if impl.CanonOk(text) != want {
				t.Fatalf("%x is the one form: not %v", text, want)
			}
			if s, ok := impl.CanonPut(n); want && (!ok || s != text) {
				t.Fatalf("%x is found, and %x is the one form", text, s)
			}
			if want {
				found++
			}
		}
	}
	if found < 3000 || read-found < 3000 {
		t.Errorf("%d were found, of %d that were read", found, read)
	}
}

// Promise 41.
func TestOneFormOfWhatWasSent(t *testing.T) {
	taken := 0
	sendable(44, 1000, func(n impl.Node, size int, text string) {
		if costIn(n) > impl.ReadMax {
			return
		}
		x, _ := impl.Take(text, impl.ReadMax)
		s, ok := impl.CanonPut(x)
		want, fine := impl.CanonPut(n)
		if !ok || !fine || s != want || !impl.Alike(x, n) {
			t.Fatalf("%+v by %d: %x, not %x", n, size, s, want)
		}
		if short, ok := impl.Send(impl.Canon(n), size); ok {
			x, _ := impl.Take(short, impl.ReadMax)
			if s, ok := impl.CanonPut(x); !ok || s != want {
				t.Fatalf("the one form of %+v by %d: %x, not %x", n, size, s, want)
			}
		}
		taken++
	})
	if taken < 2000 {
		t.Errorf("just %d were taken", taken)
	}
}

// asNeeded says whether structs, all that stand in one list, are just as long as the longest needs.
func asNeeded(structs []impl.Node) bool {
	data, ptrs := 0, 0
	for _, n := range structs {
		d, p := ends(n)
		data, ptrs = max(data, d), max(ptrs, p)
	}
	for _, n := range structs {
		if len(n.Data) != data || len(n.Ptrs) != ptrs {
			return false
		}
	}
	return true
}

// needed says whether no struct within is longer than it needs, and no items than one of them.
func needed(n impl.Node) bool {
	if !asNeeded(n.Items) || n.Kind == impl.NodeStruct && !asNeeded([]impl.Node{n}) {
		return false
	}
	inner := append([]impl.Node{}, n.Ptrs...)
	for _, item := range n.Items {
		inner = append(inner, item.Ptrs...)
	}
	for _, p := range inner {
		if !needed(p) {
			return false
		}
	}
	return true
}

// Promise 86.
func TestItemsOfTheOneForm(t *testing.T) {
	r := rand.New(rand.NewSource(45))
	long := 0
	for i, n := range append(okNodes(45, 1000), smallNodes()...) {
		for _, other := range sayers(r, n) {
			x := impl.Canon(other)
			if !needed(x) || len(x.Items) != len(other.Items) || x.Count != other.Count {
				t.Fatalf("node %d: %+v has the one form %+v", i, other, x)
			}
			if !needed(other) {
				long++
			}
		}
	}
	if long < 1000 {
		t.Errorf("just %d were longer than needed", long)
	}
}

// Promises 21 and 86: the one form is new memory, and nothing is written behind the lists of a node, where other ones may stand.
func TestOneFormSharesNoMemory(t *testing.T) {
	all := append(okNodes(46, 500), smallNodes()...)
	for i, n := range all {
		x := impl.Canon(n)
		if share(&x) {
			t.Fatalf("node %d: two lists of the one form share memory", i)
		}
		other := copied(n)
		if y := impl.Canon(other); share(&y, &other) {
			t.Fatalf("node %d: its one form shares memory with it", i)
		}
	}
	a, none := structNode("abcdefgh"), impl.Node{}
	ptrs := []impl.Node{none, a, none, none, a, a}
	items := []impl.Node{structNode(noughts(2), ptrs[0:2]...), structNode("abcdefgh"+noughts(1), ptrs[2:4]...), a, a}
	n := structNode("", manyNode(items[:2]...), structNode("", ptrs[:4]...), pointNode(ptrs[:2]...))
	n.Ptrs = append(n.Ptrs, none, a)[:4]
	was, wasItems, wasPtrs := copied(structNode("", n.Ptrs[:5]...)), copied(structNode("", items...)), copied(structNode("", ptrs...))
	impl.Canon(n)
	impl.CanonPut(n)
	impl.Alike(n, n)
	if !impl.NodeSame(structNode("", n.Ptrs[:5]...), was) || !impl.NodeSame(structNode("", items...), wasItems) || !impl.NodeSame(structNode("", ptrs...), wasPtrs) {
		t.Error("the node was written into")
	}
}
