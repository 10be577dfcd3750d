package tests

import (
	"math/rand"
	"strings"
	"testing"

	"loop.example/quoin/impl"
)

// badWord is a word that is no pointer.
const badWord = "\x03\x00\x00\x00\x00\x00\x00\x00"

// toStruct is the word that points to a struct.
func toStruct(off, data, ptrs int) string {
	return impl.PointPut(impl.Point{Kind: impl.PointStruct, Off: off, Data: data, Ptrs: ptrs})
}

// toList is the word that points to a list.
func toList(off, size, count int) string {
	return impl.PointPut(impl.Point{Kind: impl.PointList, Off: off, Size: size, Count: count})
}

// toFar is the word that points to a pointer elsewhere.
func toFar(seg, off int) string {
	return impl.PointPut(impl.Point{Kind: impl.PointFar, Seg: seg, Off: off})
}

// toTwo is the word that points to two words elsewhere.
func toTwo(seg, off int) string {
	return impl.PointPut(impl.Point{Kind: impl.PointFar, Seg: seg, Off: off, Two: true})
}

// chained are words of so many structs, the last of which points on by a word.
func chained(count int, word string) string {
	return strings.Repeat(toStruct(0, 0, 1), count) + word
}

// somePointer is a word that points somewhere near, or is anything.
func somePointer(r *rand.Rand) string {
	near := r.Intn(8) - 2
	switch r.Intn(14) {
	case 0, 1, 2, 3:
		return toStruct(near, r.Intn(3), 1+r.Intn(2))
	case 4:
		return toStruct(r.Intn(4), 1+r.Intn(2), 0)
	case 5, 6:
		return toList(near, r.Intn(7), r.Intn(12))
	case 7, 8:
		return toList(near, impl.SizeMany, r.Intn(6))
	case 9:
		return toFar(r.Intn(3), r.Intn(8))
	case 10:
		return toTwo(r.Intn(3), r.Intn(8))
	case 11:
		return noughts(1)
	case 12:
		return []string{badWord, toStruct(-1, 0, 0), toList(0, impl.SizeVoid, r.Intn(1100)), toStruct(r.Intn(1100), 0, 0), toStruct(r.Intn(4), 0, 0)}[r.Intn(5)]
	}
	return someBytes(r, 8)
}

// someMessage is segments of such words.
func someMessage(r *rand.Rand) []string {
	var out []string
	for range 1 + r.Intn(3) {
		var seg strings.Builder
		for range 1 + r.Intn(12) {
			seg.WriteString(somePointer(r))
		}
		out = append(out, seg.String())
	}
	return out
}

// messages are many such, and what nodes are built into by several sizes.
func messages(seed int64, count int) [][]string {
	r := rand.New(rand.NewSource(seed))
	var out [][]string
	for range count {
		out = append(out, someMessage(r))
		if segs, ok := impl.Build(someNode(r), 1+r.Intn(40)); ok {
			out = append(out, segs)
		}
	}
	for _, n := range edgeNodes() {
		if segs, ok := impl.Build(n, impl.WordMax); ok {
			out = append(out, segs)
		}
	}
	return out
}

// wordsOver is how many words segments have.
func wordsOver(segs []string) int {
	return len(strings.Join(segs, "")) / 8
}

// lessWord is segments without the last word of the last one, if it has one.
func lessWord(segs []string) ([]string, bool) {
	out := append([]string{}, segs...)
	last := len(out) - 1
	if out[last] == "" {
		return nil, false
	}
	out[last] = out[last][:len(out[last])-8]
	return out, true
}

// moreWord is segments with a word more behind the last one.
func moreWord(segs []string, word string) []string {
	out := append([]string{}, segs...)
	out[len(out)-1] += word
	return out
}

// Promises 17 and 79.
func TestWhatIsReadIsOkOrAnError(t *testing.T) {
	codes := map[int]int{}
	for _, segs := range messages(19, 6000) {
		for _, limit := range []int{0, 3, 20, 100, impl.ReadMax} {
			n, code := impl.Read(segs, limit)
			most, all := impl.Read(segs, impl.ReadMax)
			codes[code]++
			if code != impl.ReadFine {
				if !impl.NodeSame(n, impl.Node{}) || code < 0 || code > impl.ReadMuch {
					t.Fatalf("%x by %d: code %d, and %+v", segs, limit, code, n)
				}
				continue
			}
			if all != impl.ReadFine || !impl.NodeSame(n, most) || costIn(n) > limit || deepIn(n) > impl.DeepMax {
				t.Fatalf("%x by %d: %+v, by ReadMax %d, %+v", segs, limit, n, all, most)
			}
			if impl.NodeOk(n) != (wordsIn(n) < impl.WordMax) {
				t.Fatalf("%x: %+v is not ok", segs, n)
			}
			if !impl.NodeOk(n) {
				continue
			}
			one, ok := impl.BuildOne(n)
			back, again := impl.Read([]string{one}, impl.ReadMax)
			if !ok || again != impl.ReadFine || !impl.NodeSame(back, n) || impl.ReadCost(n) > limit {
				t.Fatalf("%x: %+v is built as %x, and that is read as %d, %+v", segs, n, one, again, back)
			}
		}
	}
	for code := impl.ReadFine; code <= impl.ReadMuch; code++ {
		if codes[code] < 50 {
			t.Errorf("code %d was seen %d times", code, codes[code])
		}
	}
}

// Promise 17: any bytes at all.
func TestReadOfAnyBytes(t *testing.T) {
	r := rand.New(rand.NewSource(20))
	for range 20000 {
		var segs []string
		for range r.Intn(4) {
			seg := make([]byte, r.Intn(5)*8+r.Intn(20)/19)
			for i := range seg {
				seg[i] = []byte{0, 0, 0, 1, 2, 4, 5, 252, 255, byte(r.Intn(256))}[r.Intn(10)]
			}
			segs = append(segs, string(seg))
		}
		n, code := impl.Read(segs, impl.ReadMax)
		if !impl.FrameOk(segs) && code != impl.ReadRange || code != impl.ReadFine && !impl.NodeSame(n, impl.Node{}) {
			t.Fatalf("%x: code %d, %+v", segs, code, n)
		}
		if code == impl.ReadFine && !impl.NodeOk(n) && wordsIn(n) < impl.WordMax {
			t.Fatalf("%x: %+v is not ok", segs, n)
		}
	}
}

// Promise 17: what may not be read at all.
func TestReadOfWhatMayNotBe(t *testing.T) {
	for i, segs := range append(badSegs(), []string{""}, []string{"", toStruct(0, 0, 1)}, []string{"", "", "", "", "", ""}) {
		for _, limit := range []int{0, 1, impl.ReadMax} {
			if n, code := impl.Read(segs, limit); code != impl.ReadRange || !impl.NodeSame(n, impl.Node{}) {
				t.Errorf("segments %d: code %d, %+v", i, code, n)
			}
		}
	}
	for _, limit := range append(strange(), impl.ReadMax+1) {
		for _, word := range []string{noughts(1), badWord, toStruct(-1, 0, 0)} {
			if n, code := impl.Read([]string{word}, limit); code != impl.ReadRange || !impl.NodeSame(n, impl.Node{}) {
				t.Errorf("limit %d: code %d, %+v", limit, code, n)
			}
		}
	}
}

// Promises 17 and 18: where what a pointer tells stands, and what is there.
func TestReadOfPointers(t *testing.T) {
	word := "abcdefgh"
	for i, c := range []struct {
		segs []string
		code int
		n    impl.Node
	}{
		{[]string{badWord}, impl.ReadKind, impl.Node{}},
		{[]string{"\x07" + badWord[1:]}, impl.ReadKind, impl.Node{}},
		{[]string{toStruct(-1, 0, 0)}, 0, structNode("")},
		{[]string{toStruct(-1, 1, 0)}, 0, structNode(toStruct(-1, 1, 0))},
		{[]string{toStruct(-2, 1, 0)}, impl.ReadRange, impl.Node{}},
		{[]string{toStruct(0, 1, 0)}, impl.ReadRange, impl.Node{}},
		{[]string{toStruct(0, 1, 0) + word}, 0, structNode(word)},
		{[]string{toStruct(1, 1, 0) + word}, impl.ReadRange, impl.Node{}},
		{[]string{toStruct(1, 1, 0) + word + "ABCDEFGH"}, 0, structNode("ABCDEFGH")},
		{[]string{toStruct(0, 1, 1) + word, word}, impl.ReadRange, impl.Node{}},
		{[]string{toStruct(0, 65535, 65535) + word}, impl.ReadRange, impl.Node{}},
		{[]string{toStruct(offTop, 1, 0) + word}, impl.ReadRange, impl.Node{}},
		{[]string{toStruct(-offTop-1, 1, 0) + word}, impl.ReadRange, impl.Node{}},
		{[]string{toStruct(1, 0, 0)}, impl.ReadRange, impl.Node{}},
		{[]string{toStruct(-2, 0, 0)}, impl.ReadRange, impl.Node{}},
		{[]string{toStruct(1, 0, 0) + word}, 0, structNode("")},
		{[]string{toStruct(0, 1, 2) + word + noughts(1) + toStruct(-4, 1, 0)}, 0, structNode(word, impl.Node{}, structNode(toStruct(0, 1, 2)))},
		{[]string{toList(0, impl.SizeVoid, 5)}, 0, dataNode(impl.SizeVoid, 5, "")},
		{[]string{toList(1, impl.SizeVoid, 5)}, impl.ReadRange, impl.Node{}},
		{[]string{toList(0, impl.SizeBit, 0)}, 0, dataNode(impl.SizeBit, 0, "")},
		{[]string{toList(0, impl.SizeBit, 1)}, impl.ReadRange, impl.Node{}},
		{[]string{toList(0, impl.SizeBit, 9) + strings.Repeat("\xff", 8)}, 0, dataNode(impl.SizeBit, 9, "\xff\x01")},
		{[]string{toList(0, impl.SizeBit, 64) + strings.Repeat("\xff", 8)}, 0, dataNode(impl.SizeBit, 64, strings.Repeat("\xff", 8))},
		{[]string{toList(0, impl.SizeBit, 65) + word}, impl.ReadRange, impl.Node{}},
		{[]string{toList(0, impl.SizeOne, 3) + word}, 0, dataNode(impl.SizeOne, 3, "abc")},
		{[]string{toList(0, impl.SizeOne, 9) + word}, impl.ReadRange, impl.Node{}},
		{[]string{toList(0, impl.SizeTwo, 3) + word}, 0, dataNode(impl.SizeTwo, 3, "abcdef")},
		{[]string{toList(0, impl.SizeFour, 2) + word}, 0, dataNode(impl.SizeFour, 2, word)},
		{[]string{toList(0, impl.SizeFour, 3) + word}, impl.ReadRange, impl.Node{}},
		{[]string{toList(0, impl.SizeEight, 1) + word}, 0, dataNode(impl.SizeEight, 1, word)},
		{[]string{toList(0, impl.SizeEight, offTop) + word}, impl.ReadRange, impl.Node{}},
		{[]string{toList(0, impl.SizePoint, 2) + noughts(1) + toStruct(-1, 0, 0)}, 0, pointNode(impl.Node{}, structNode(""))},
		{[]string{toList(0, impl.SizePoint, 2) + noughts(1)}, impl.ReadRange, impl.Node{}},
		{[]string{toList(0, impl.SizePoint, 2) + noughts(1) + badWord}, impl.ReadKind, impl.Node{}},
	} {
		n, code := impl.Read(c.segs, impl.ReadMax)
		if code != c.code || !impl.NodeSame(n, c.n) {
			t.Errorf("case %d: code %d, %+v", i, code, n)
		}
	}
}

// Promise 17: lists of structs, of which the word ahead tells how many they are, and of what shape.
func TestReadOfManyStructs(t *testing.T) {
	word, other := "abcdefgh", "ABCDEFGH"
	for i, c := range []struct {
		seg  string
		code int
		n    impl.Node
	}{
		{toList(0, impl.SizeMany, 0), impl.ReadRange, impl.Node{}},
		{toList(0, impl.SizeMany, 0) + noughts(1), 0, manyNode()},
		{toList(0, impl.SizeMany, 0) + toStruct(0, 5, 5), 0, manyNode()},
		{toList(0, impl.SizeMany, 0) + toStruct(3, 0, 0), 0, manyNode(times(structNode(""), 3)...)},
		{toList(0, impl.SizeMany, 0) + toStruct(999, 0, 0), 0, manyNode(times(structNode(""), 999)...)},
		{toList(0, impl.SizeMany, 0) + toStruct(1000, 0, 0), impl.ReadMuch, impl.Node{}},
		{toList(0, impl.SizeMany, 0) + toStruct(offTop, 0, 0), impl.ReadMuch, impl.Node{}},
		{toList(0, impl.SizeMany, 0) + toStruct(-1, 0, 0), impl.ReadKind, impl.Node{}},
		{toList(0, impl.SizeMany, 0) + toStruct(1, 1, 0), impl.ReadKind, impl.Node{}},
		{toList(0, impl.SizeMany, 0) + toList(0, 0, 0), impl.ReadKind, impl.Node{}},
		{toList(0, impl.SizeMany, 0) + toFar(0, 0), impl.ReadKind, impl.Node{}},
		{toList(0, impl.SizeMany, 0) + badWord, impl.ReadKind, impl.Node{}},
		{toList(0, impl.SizeMany, 1) + noughts(1) + word, impl.ReadKind, impl.Node{}},
		{toList(0, impl.SizeMany, 1) + toStruct(1, 0, 0) + word, impl.ReadKind, impl.Node{}},
		{toList(0, impl.SizeMany, 1) + toStruct(1, 1, 0), impl.ReadRange, impl.Node{}},
		{toList(0, impl.SizeMany, 1) + badWord, impl.ReadRange, impl.Node{}},
		{toList(0, impl.SizeMany, 1) + toStruct(-1, 1, 0) + word, impl.ReadKind, impl.Node{}},
		{toList(0, impl.SizeMany, 1) + toStruct(0, 1, 0) + word, impl.ReadKind, impl.Node{}},
		{toList(0, impl.SizeMany, 1) + toStruct(1, 1, 0) + word, 0, manyNode(structNode(word))},
		{toList(0, impl.SizeMany, 2) + toStruct(1, 1, 0) + word + other, impl.ReadKind, impl.Node{}},
		{toList(0, impl.SizeMany, 2) + toStruct(2, 1, 0) + word + other, 0, manyNode(structNode(word), structNode(other))},
		{toList(0, impl.SizeMany, 2) + toStruct(1, 2, 0) + word + other, 0, manyNode(structNode(word + other))},
		{toList(0, impl.SizeMany, 2) + toStruct(1, 1, 1) + word + noughts(1), 0, manyNode(structNode(word, impl.Node{}))},
		{toList(0, impl.SizeMany, 2) + toStruct(1, 1, 1) + word + badWord, impl.ReadKind, impl.Node{}},
		{toList(0, impl.SizeMany, 4) + toStruct(2, 1, 1) + word + toStruct(-1, 0, 0) + other + toList(-2, impl.SizeOne, 2), 0, manyNode(structNode(word, structNode("")), structNode(other, dataNode(impl.SizeOne, 2, "AB")))},
		{toList(1, impl.SizeMany, 1) + other + toStruct(1, 1, 0) + word, 0, manyNode(structNode(word))},
		{toList(-1, impl.SizeMany, 0), impl.ReadKind, impl.Node{}},
		{toList(0, impl.SizeMany, offTop) + toStruct(1, 1, 0) + word, impl.ReadRange, impl.Node{}},
	} {
		n, code := impl.Read([]string{c.seg}, impl.ReadMax)
		if code != c.code || !impl.NodeSame(n, c.n) {
			t.Errorf("case %d: code %d, %+v", i, code, n)
		}
	}
}

// Promises 39 and 40: what far pointers may lead to.
func TestReadOfFarPointers(t *testing.T) {
	word := "abcdefgh"
	for i, c := range []struct {
		segs []string
		code int
		n    impl.Node
	}{
		{[]string{toFar(1, 0)}, impl.ReadRange, impl.Node{}},
		{[]string{toFar(segTop, 0), word}, impl.ReadRange, impl.Node{}},
		{[]string{toFar(1, 0), ""}, impl.ReadRange, impl.Node{}},
		{[]string{toFar(1, 1), word}, impl.ReadRange, impl.Node{}},
		{[]string{toFar(1, offTop), word}, impl.ReadRange, impl.Node{}},
		{[]string{toFar(1, 0), noughts(1)}, impl.ReadKind, impl.Node{}},
		{[]string{toFar(1, 0), badWord}, impl.ReadKind, impl.Node{}},
		{[]string{toFar(1, 0), toFar(2, 0), toStruct(-1, 0, 0)}, impl.ReadKind, impl.Node{}},
		{[]string{toFar(1, 0), toTwo(2, 0), toStruct(-1, 0, 0)}, impl.ReadKind, impl.Node{}},
		{[]string{toFar(0, 0)}, impl.ReadKind, impl.Node{}},
		{[]string{toFar(1, 0), toStruct(-1, 0, 0)}, 0, structNode("")},
		{[]string{toFar(1, 0), toStruct(0, 1, 0)}, impl.ReadRange, impl.Node{}},
		{[]string{toFar(1, 0) + word, toStruct(0, 1, 0)}, impl.ReadRange, impl.Node{}},
		{[]string{toFar(1, 0), toStruct(0, 1, 0) + word}, 0, structNode(word)},
		{[]string{toFar(1, 1), word + toStruct(-2, 1, 0)}, 0, structNode(word)},
		{[]string{toFar(0, 2) + word + toStruct(-2, 1, 0)}, 0, structNode(word)},
		{[]string{toFar(1, 0), toList(0, impl.SizeOne, 2) + word}, 0, dataNode(impl.SizeOne, 2, "ab")},
		{[]string{toStruct(0, 0, 1) + toFar(1, 0), toStruct(0, 0, 1) + toFar(0, 2)}, impl.ReadRange, impl.Node{}},
		{[]string{toStruct(0, 0, 1) + toFar(1, 0) + toStruct(-1, 0, 0), toStruct(0, 0, 1) + toFar(0, 2)}, 0, structNode("", structNode("", structNode("")))},

		{[]string{toTwo(1, 0), toFar(2, 0)}, impl.ReadRange, impl.Node{}},
		{[]string{toTwo(1, 0), badWord, word}, impl.ReadRange, impl.Node{}},
		{[]string{toTwo(3, 0), toFar(2, 0) + toStruct(0, 1, 0), word}, impl.ReadRange, impl.Node{}},
		{[]string{toTwo(1, 0), toFar(2, 0) + toStruct(0, 1, 0), word}, 0, structNode(word)},
		{[]string{toTwo(1, 1), word + toFar(2, 1) + toStruct(0, 1, 0), word + "ABCDEFGH"}, 0, structNode("ABCDEFGH")},
		{[]string{toTwo(1, 0), toFar(0, 0) + toStruct(0, 1, 0)}, 0, structNode(toTwo(1, 0))},
		{[]string{toTwo(1, 0), toFar(2, 1) + toStruct(0, 1, 0), word}, impl.ReadRange, impl.Node{}},
		{[]string{toTwo(1, 0), toFar(3, 0) + toStruct(0, 1, 0), word}, impl.ReadRange, impl.Node{}},
		{[]string{toTwo(1, 0), toFar(3, 0) + toList(0, impl.SizeVoid, 1), word}, impl.ReadRange, impl.Node{}},
		{[]string{toTwo(1, 0), toFar(2, 0) + toList(0, impl.SizeVoid, 4), ""}, 0, dataNode(impl.SizeVoid, 4, "")},
		{[]string{toTwo(1, 0), toFar(2, 0) + toList(0, impl.SizeOne, 2), word}, 0, dataNode(impl.SizeOne, 2, "ab")},
		{[]string{toTwo(1, 0), toFar(2, 0) + toList(0, impl.SizeMany, 1), toStruct(1, 1, 0) + word}, 0, manyNode(structNode(word))},
		{[]string{toTwo(1, 0), toTwo(2, 0) + toStruct(0, 1, 0), word}, impl.ReadKind, impl.Node{}},
		{[]string{toTwo(1, 0), toStruct(0, 1, 0) + toStruct(0, 1, 0), word}, impl.ReadKind, impl.Node{}},
		{[]string{toTwo(1, 0), noughts(1) + toStruct(0, 1, 0), word}, impl.ReadKind, impl.Node{}},
		{[]string{toTwo(1, 0), toFar(2, 0) + toStruct(1, 1, 0), word + word}, impl.ReadKind, impl.Node{}},
		{[]string{toTwo(1, 0), toFar(2, 0) + toStruct(-1, 0, 0), word}, impl.ReadKind, impl.Node{}},
		{[]string{toTwo(1, 0), toFar(2, 0) + toList(1, impl.SizeOne, 1), word + word}, impl.ReadKind, impl.Node{}},
		{[]string{toTwo(1, 0), toFar(2, 0) + noughts(1), word}, impl.ReadKind, impl.Node{}},
		{[]string{toTwo(1, 0), toFar(2, 0) + toFar(2, 0), toStruct(-1, 0, 0)}, impl.ReadKind, impl.Node{}},
		{[]string{toTwo(1, 0), toFar(2, 0) + badWord, word}, impl.ReadKind, impl.Node{}},
	} {
		n, code := impl.Read(c.segs, impl.ReadMax)
		if code != c.code || !impl.NodeSame(n, c.n) {
			t.Errorf("case %d: code %d, %+v", i, code, n)
		}
	}
}

// Promise 17: the first thing that is wrong, in the order in which it is read.
func TestReadTellsWhatIsWrongFirst(t *testing.T) {
	gone, self := toStruct(900, 1, 0), toStruct(-1, 0, 1)
	for i, c := range []struct {
		segs  []string
		limit int
		code  int
	}{
		{[]string{toStruct(0, 0, 2) + badWord + gone}, 1000, impl.ReadKind},
		{[]string{toStruct(0, 0, 2) + gone + badWord}, 1000, impl.ReadRange},
		{[]string{toStruct(0, 0, 2) + toStruct(1, 0, 1) + gone + badWord}, 1000, impl.ReadKind}, // all within the first comes ahead of the second
		{[]string{toStruct(0, 0, 2) + self + badWord}, 1000, impl.ReadDeep},
		{[]string{toStruct(0, 0, 2) + toList(1, impl.SizeVoid, 1000) + badWord}, 1000, impl.ReadMuch},
		{[]string{toList(0, impl.SizePoint, 2) + badWord + gone}, 1000, impl.ReadKind},
		{[]string{toList(0, impl.SizePoint, 2) + gone + badWord}, 1000, impl.ReadRange},
		{[]string{toList(0, impl.SizeMany, 2) + toStruct(2, 0, 1) + badWord + gone}, 1000, impl.ReadKind},
		{[]string{toList(0, impl.SizeMany, 2) + toStruct(2, 0, 1) + gone + badWord}, 1000, impl.ReadRange},

		{[]string{self}, 1000, impl.ReadDeep}, {[]string{self}, 8, impl.ReadDeep}, {[]string{self}, 7, impl.ReadMuch}, {[]string{self}, 0, impl.ReadMuch},
		{[]string{chained(8, noughts(1))}, 1000, impl.ReadFine}, {[]string{chained(8, toStruct(-1, 0, 0))}, 1000, impl.ReadDeep}, {[]string{chained(7, toStruct(-1, 0, 0))}, 1000, impl.ReadFine},
		{[]string{chained(8, toList(0, impl.SizeVoid, 0))}, 1000, impl.ReadDeep}, {[]string{chained(7, toList(0, impl.SizeVoid, 0))}, 1000, impl.ReadFine},
		{[]string{chained(7, toList(0, impl.SizeMany, 1)+toStruct(1, 0, 1)+noughts(1))}, 1000, impl.ReadFine}, {[]string{chained(7, toList(0, impl.SizeMany, 1)+toStruct(1, 0, 1)+toStruct(-1, 0, 0))}, 1000, impl.ReadDeep},
		{[]string{chained(8, gone)}, 1000, impl.ReadDeep}, {[]string{chained(7, gone)}, 1000, impl.ReadRange},
		{[]string{chained(8, badWord)}, 1000, impl.ReadKind}, {[]string{chained(8, toFar(1, 0))}, 1000, impl.ReadRange}, {[]string{chained(8, toFar(1, 0)), noughts(1)}, 1000, impl.ReadKind}, {[]string{chained(8, toFar(1, 0)), gone}, 1000, impl.ReadDeep},
		{[]string{chained(8, toTwo(1, 0)), toFar(9, 9)}, 1000, impl.ReadRange}, {[]string{chained(8, toTwo(1, 0)), toFar(9, 9) + toStruct(1, 1, 0)}, 1000, impl.ReadKind}, {[]string{chained(8, toTwo(1, 0)), toFar(9, 9) + toStruct(0, 1, 0)}, 1000, impl.ReadDeep}, {[]string{chained(7, toTwo(1, 0)), toFar(9, 9) + toStruct(0, 1, 0)}, 1000, impl.ReadRange},
		{[]string{chained(8, toTwo(1, 0)), toFar(9, 9) + badWord}, 1000, impl.ReadKind}, {[]string{chained(8, toTwo(1, 0)), toFar(9, 9) + noughts(1)}, 1000, impl.ReadKind}, {[]string{chained(8, toTwo(1, 0)), toTwo(9, 9) + toStruct(0, 1, 0)}, 1000, impl.ReadKind},
		{[]string{chained(8, toList(0, impl.SizeMany, 0)+badWord)}, 1000, impl.ReadDeep}, {[]string{chained(8, toList(0, impl.SizeVoid, 5))}, 8, impl.ReadDeep}, {[]string{chained(7, toList(0, impl.SizeVoid, 5))}, 8, impl.ReadMuch},

		{[]string{toStruct(0, 1, 0)}, 0, impl.ReadRange}, {[]string{toStruct(0, 1, 0) + noughts(1)}, 0, impl.ReadMuch}, {[]string{toList(0, impl.SizeOne, 1)}, 0, impl.ReadRange}, {[]string{toList(0, impl.SizeOne, 1) + noughts(1)}, 0, impl.ReadMuch},
		{[]string{toList(0, impl.SizeMany, 0)}, 0, impl.ReadRange}, {[]string{toList(0, impl.SizeMany, 0) + badWord}, 0, impl.ReadKind}, {[]string{toList(0, impl.SizeMany, 0) + noughts(1)}, 0, impl.ReadMuch},
		{[]string{toStruct(0, 0, 1) + badWord}, 0, impl.ReadMuch}, {[]string{toStruct(0, 0, 1) + badWord}, 1, impl.ReadKind}, {[]string{toList(0, impl.SizePoint, 1) + badWord}, 0, impl.ReadMuch}, {[]string{toList(0, impl.SizeMany, 1) + toStruct(1, 0, 1) + badWord}, 1, impl.ReadMuch}, {[]string{toList(0, impl.SizeMany, 1) + toStruct(1, 0, 1) + badWord}, 2, impl.ReadKind},
		{[]string{badWord}, 0, impl.ReadKind}, {[]string{toFar(1, 0)}, 0, impl.ReadRange},
	} {
		if n, code := impl.Read(c.segs, c.limit); code != c.code || code != 0 && !impl.NodeSame(n, impl.Node{}) {
			t.Errorf("case %d: code %d, not %d", i, code, c.code)
		}
	}
}

// Promises 15 and 79: what each kind of thing takes of the limit, nothing and structs without words too.
func TestReadByLimit(t *testing.T) {
	full := strings.Repeat("abcdefgh", 199)
	for i, c := range []struct {
		seg  string
		cost int
	}{
		{noughts(1), 0}, {toStruct(-1, 0, 0), 0}, {toStruct(0, 1, 0) + "abcdefgh", 1}, {toStruct(0, 199, 0) + full, 199}, {toStruct(0, 1, 2) + noughts(3), 3},
		{toStruct(0, 0, 2) + toFar(0, 2) + toStruct(-1, 0, 0), 2},
		{toList(0, impl.SizeVoid, 0), 0}, {toList(0, impl.SizeVoid, 1), 1}, {toList(0, impl.SizeVoid, 1000), 1000},
		{toList(0, impl.SizeBit, 0), 0}, {toList(0, impl.SizeBit, 64) + noughts(1), 1}, {toList(0, impl.SizeBit, 65) + noughts(2), 2}, {toList(0, impl.SizeOne, 9) + noughts(2), 2}, {toList(0, impl.SizeTwo, 4) + noughts(1), 1}, {toList(0, impl.SizeFour, 3) + noughts(2), 2}, {toList(0, impl.SizeEight, 199) + full, 199},
		{toList(0, impl.SizePoint, 0), 0}, {toList(0, impl.SizePoint, 3) + noughts(3), 3}, {toList(0, impl.SizePoint, 2) + toList(1, impl.SizeVoid, 7) + noughts(1), 9},
		{toList(0, impl.SizeMany, 0) + noughts(1), 1}, {toList(0, impl.SizeMany, 0) + toStruct(0, 2, 0), 1}, {toList(0, impl.SizeMany, 0) + toStruct(1, 0, 0), 2}, {toList(0, impl.SizeMany, 0) + toStruct(999, 0, 0), 1000}, {toList(0, impl.SizeMany, 2) + toStruct(2, 1, 0) + noughts(2), 3}, {toList(0, impl.SizeMany, 4) + toStruct(2, 1, 1) + noughts(4), 5},
		{toStruct(0, 0, 2) + toStruct(1, 1, 0) + toStruct(0, 1, 0) + "abcdefgh", 4}, // one word read twice costs twice
	} {
		_, fine := impl.Read([]string{c.seg}, c.cost)
		_, less := impl.Read([]string{c.seg}, c.cost-1)
		if fine != impl.ReadFine || c.cost > 0 && less != impl.ReadMuch {
			t.Errorf("case %d by %d: %d, by one less %d", i, c.cost, fine, less)
		}
	}
	again := toStruct(0, 0, 6)
	for i := range 6 {
		again += toStruct(-1-i, 199, 0) // all the same words, again and again
	}
	for i, seg := range []string{toList(0, impl.SizeVoid, 1001), toList(0, impl.SizeVoid, offTop), toList(0, impl.SizeMany, 0) + toStruct(1000, 0, 0), again + full[:193*8]} {
		if n, code := impl.Read([]string{seg}, impl.ReadMax); code != impl.ReadMuch || !impl.NodeSame(n, impl.Node{}) {
			t.Errorf("more than ReadMax %d: %d", i, code)
		}
	}
}

// Promise 18.
func TestSegmentsThatBreakOff(t *testing.T) {
	for i, segs := range messages(21, 4000) {
		less, ok := lessWord(segs)
		if !ok {
			continue
		}
		for _, limit := range []int{0, 5, 30, impl.ReadMax} {
			n, code := impl.Read(segs, limit)
			cut, lower := impl.Read(less, limit)
			if lower != impl.ReadRange && (lower != code || !impl.NodeSame(cut, n)) || lower == impl.ReadRange && !impl.NodeSame(cut, impl.Node{}) {
				t.Fatalf("message %d, %x: %d, and %d with a word less", i, segs, code, lower)
			}
		}
	}
}

// Promise 18: no word is taken from the next segment, nor from nowhere.
func TestNothingIsReadBeyondTheEnd(t *testing.T) {
	for i, n := range okNodes(22, 300) {
		one, ok := impl.BuildOne(n)
		if !ok {
			t.Fatalf("node %d is not built", i)
		}
		if impl.ReadCost(n) > impl.ReadMax {
			continue
		}
		for size := 0; size < len(one); size += 8 {
			for _, segs := range [][]string{{one[:size]}, {one[:size], one[size:]}, {one[:size], one}} {
				if _, code := impl.Read(segs, impl.ReadMax); code != impl.ReadRange && impl.FrameOk(segs) {
					t.Fatalf("node %d, %d bytes of %d: %d", i, size, len(one), code)
				}
			}
		}
	}
}

// Promise 38.
func TestWordMoreBehindAll(t *testing.T) {
	read := 0
	for _, segs := range messages(23, 4000) {
		n, code := impl.Read(segs, impl.ReadMax)
		if code == impl.ReadRange || wordsOver(segs) == impl.WordMax {
			continue
		}
		read++
		for _, word := range []string{noughts(1), "abcdefgh", toStruct(-1, 0, 0), badWord} {
			m, more := impl.Read(moreWord(segs, word), impl.ReadMax)
			if more != code || !impl.NodeSame(m, n) {
				t.Fatalf("%x: %d, and %d with a word more", segs, code, more)
			}
		}
	}
	if read < 2000 {
		t.Errorf("just %d were read", read)
	}
}

// Promise 39.
func TestFarPointerLeadsElsewhere(t *testing.T) {
	for i, n := range okNodes(24, 1000) {
		one, ok := impl.BuildOne(n)
		for _, segs := range [][]string{{toFar(1, 0), one}, {toFar(2, 0), "abcdefgh", one}, {toFar(1, 1), "abcdefgh" + one}, {toFar(0, 2) + "abcdefgh" + one}} {
			if !ok || n.Kind == impl.NodeNone || costIn(n) > impl.ReadMax || wordsOver(segs) > impl.WordMax {
				continue
			}
			if back, code := impl.Read(segs, impl.ReadCost(n)); code != impl.ReadFine || !impl.NodeSame(back, n) {
				t.Errorf("node %d: %d, %+v", i, code, back)
			}
			in := append([]string{toStruct(0, 0, 1) + segs[0]}, segs[1:]...)
			if deepIn(n) < impl.DeepMax && len(segs) > 1 && wordsOver(in) <= impl.WordMax && costIn(n) < impl.ReadMax {
				if back, code := impl.Read(in, impl.ReadCost(n)+1); code != impl.ReadFine || !impl.NodeSame(back, structNode("", n)) {
					t.Errorf("node %d in a struct: %d, %+v", i, code, back)
				}
			}
		}
	}
}

// Promise 40.
func TestFarPointerToTwoWords(t *testing.T) {
	read := 0
	for i, n := range okNodes(25, 1000) {
		one, ok := impl.BuildOne(n)
		if !ok || n.Kind == impl.NodeNone || costIn(n) > impl.ReadMax || impl.PointGet(one[:8]).Off != 0 {
			continue
		}
		for _, segs := range [][]string{{toTwo(1, 0), toFar(2, 1) + one[:8], one}, {toTwo(1, 1), "abcdefgh" + toFar(2, 0) + one[:8], one[8:]}, {toTwo(1, 0), toFar(0, 1) + one[:8]}} {
			if len(segs) == 2 {
				segs[0] += one[8:]
			}
			if wordsOver(segs) > impl.WordMax {
				continue
			}
			read++
			if back, code := impl.Read(segs, impl.ReadCost(n)); code != impl.ReadFine || !impl.NodeSame(back, n) {
				t.Errorf("node %d: %d, %+v", i, code, back)
			}
		}
	}
	if read < 1500 {
		t.Errorf("just %d were read", read)
	}
}

// without is how many things without words there are within a node, as far as they cost.
func without(n impl.Node) int {
	sum := 0
	if n.Kind == impl.NodeList && n.Size == impl.SizeVoid {
		sum = n.Count
	}
	for _, p := range n.Ptrs {
		sum += without(p)
	}
	for _, item := range n.Items {
		if item.Data == "" && len(item.Ptrs) == 0 {
			sum++
		}
		sum += without(item)
	}
	return sum
}

// Promise 79.
func TestLimitThatIsEnough(t *testing.T) {
	for i, n := range okNodes(26, 500) {
		enough := impl.NodeWords(n) + without(n)
		if impl.ReadCost(n) > enough {
			t.Errorf("node %d costs %d, not %d", i, impl.ReadCost(n), enough)
		}
		one, _ := impl.BuildOne(n)
		if enough > impl.ReadMax {
			if _, code := impl.Read([]string{one}, impl.ReadMax); code != impl.ReadMuch {
				t.Errorf("node %d by ReadMax: %d", i, code)
			}
			continue
		}
		if back, code := impl.Read([]string{one}, enough); code != impl.ReadFine || !impl.NodeSame(back, n) {
			t.Errorf("node %d by %d: %d", i, enough, code)
		}
	}
	for _, segs := range messages(27, 1000) {
		n, code := impl.Read(segs, impl.ReadMax)
		enough := false
		for limit := 0; limit <= impl.ReadMax; limit += 1 + limit/20 {
			m, lower := impl.Read(segs, limit)
			same := lower == code && impl.NodeSame(m, n)
			if !same && (lower != impl.ReadMuch || enough) {
				t.Fatalf("%x: %d by %d, %d by ReadMax", segs, lower, limit, code)
			}
			enough = same && code != impl.ReadMuch
		}
	}
}

// Promise 80.
func TestNothingIsReadBehindNothing(t *testing.T) {
	r := rand.New(rand.NewSource(28))
	all := [][]string{{noughts(1)}, {noughts(200)}, {noughts(1) + badWord, badWord}, {noughts(1), "", ""}, {noughts(1), toStruct(0, 0, 1)}}
	for range 500 {
		segs := someMessage(r)
		segs[0] = noughts(1) + segs[0]
		all = append(all, segs)
	}
	for _, segs := range all {
		for _, limit := range []int{0, 1, impl.ReadMax} {
			if n, code := impl.Read(segs, limit); code != impl.ReadFine || !impl.NodeSame(n, impl.Node{}) {
				t.Errorf("%x by %d: %d, %+v", segs, limit, code, n)
			}
		}
	}
}

// listsIn are all lists within a node, each with its spare room.
func listsIn(n *impl.Node) []*[]impl.Node {
	out := []*[]impl.Node{&n.Ptrs, &n.Items}
	for i := range n.Ptrs {
		out = append(out, listsIn(&n.Ptrs[i])...)
	}
	for i := range n.Items {
		out = append(out, listsIn(&n.Items[i])...)
	}
	return out
}

// share says whether two lists within nodes share memory.
func share(nodes ...*impl.Node) bool {
	seen := map[*impl.Node]bool{}
	for _, n := range nodes {
		for _, list := range listsIn(n) {
			whole := (*list)[:cap(*list)]
			for i := range whole {
				if seen[&whole[i]] {
					return true
				}
				seen[&whole[i]] = true
			}
		}
	}
	return false
}

// Promise 15: what is read twice is two nodes, so that who changes one does not change the other.
func TestWhatIsReadSharesNoMemory(t *testing.T) {
	r := rand.New(rand.NewSource(29))
	shared := toStruct(0, 0, 3) + strings.Repeat(toStruct(2, 0, 2), 3) + toStruct(1, 1, 0) + toList(0, impl.SizeMany, 0) + noughts(1)
	all := [][]string{{shared}}
	for range 500 {
		all = append(all, someMessage(r))
	}
	for _, segs := range all {
		if n, _ := impl.Read(segs, impl.ReadMax); share(&n) {
			t.Fatalf("%x: two lists share memory", segs)
		}
	}
}
