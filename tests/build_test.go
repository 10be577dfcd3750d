package tests

import (
	"math/rand"
	"strings"
	"testing"

	"loop.example/quoin/impl"
)

// sizes are sizes of segments, small ones all.
func sizes() []int {
	var out []int
	for size := 1; size <= impl.WordMax; size += 1 + size/30 {
		out = append(out, size)
	}
	return append(out, impl.WordMax)
}

// Promises 14 and 16.
func TestWhatIsBuiltIntoOneSegment(t *testing.T) {
	for i, n := range okNodes(30, 2000) {
		one, ok := impl.BuildOne(n)
		if !ok || len(one) != 8*(wordsIn(n)+1) || len(one) != 8*(impl.NodeWords(n)+1) {
			t.Fatalf("node %d of %d words: %d bytes, %v", i, wordsIn(n), len(one), ok)
		}
		segs, ok := impl.Build(n, impl.WordMax)
		if !ok || !sameTexts(segs, []string{one}) {
			t.Fatalf("node %d is built by WordMax as %x", i, segs)
		}
		back, code := impl.Read([]string{one}, impl.ReadMax)
		if costIn(n) <= impl.ReadMax && (code != impl.ReadFine || !impl.NodeSame(back, n)) {
			t.Fatalf("node %d: %d, %+v", i, code, back)
		}
	}
}

// Promises 14 and 16: what may not be built.
func TestWhatIsNotBuilt(t *testing.T) {
	for i, n := range badNodes() {
		one, ok := impl.BuildOne(n)
		segs, fine := impl.Build(n, impl.WordMax)
		text, sent := impl.Send(n, impl.WordMax)
		if ok || fine || sent || one != "" || len(segs) != 0 || text != "" {
			t.Errorf("bad node %d: %x, %x, %x", i, one, segs, text)
		}
	}
	for _, size := range append(strange(), 0, impl.WordMax+1) {
		segs, ok := impl.Build(structNode(""), size)
		text, sent := impl.Send(structNode(""), size)
		if ok || sent || len(segs) != 0 || text != "" {
			t.Errorf("size %d: %x, %x", size, segs, text)
		}
	}
}

// Promise 15.
func TestWhatWasBuiltIsRead(t *testing.T) {
	built, cut := 0, 0
	for i, n := range okNodes(31, 300) {
		was := copied(n)
		for _, size := range sizes() {
			segs, ok := impl.Build(n, size)
			if !ok {
				if len(segs) != 0 {
					t.Fatalf("node %d by %d: %x", i, size, segs)
				}
				continue
			}
			built++
			if len(segs) > 1 {
				cut++
			}
			cost := impl.ReadCost(n)
			if cost > impl.ReadMax {
				continue
			}
			back, code := impl.Read(segs, cost)
			if code != impl.ReadFine || !impl.NodeSame(back, n) {
				t.Fatalf("node %d by %d: %d, %+v", i, size, code, back)
			}
			if none, less := impl.Read(segs, cost-1); cost > 0 && (less != impl.ReadMuch || !impl.NodeSame(none, impl.Node{})) {
				t.Fatalf("node %d by %d: %d by one less", i, size, less)
			}
		}
		if !impl.NodeSame(n, was) {
			t.Fatalf("node %d was written into", i)
		}
	}
	if built < 5000 || cut < 1000 {
		t.Errorf("just %d were built, %d into several segments", built, cut)
	}
}

// Promise 70.
func TestHowManySegmentsAreBuilt(t *testing.T) {
	for i, n := range okNodes(32, 500) {
		words := wordsIn(n) + 1
		for _, size := range append(sizes(), words, words-1, words+1) {
			segs, ok := impl.Build(n, size)
			if size < 1 || size > impl.WordMax {
				continue
			}
			if size >= words && (!ok || len(segs) != 1 || wordsOver(segs) != words) {
				t.Fatalf("node %d of %d words by %d: %x", i, words, size, segs)
			}
			if size < words && ok && (len(segs) < 2 || wordsOver(segs) < words) || ok && wordsOver(segs) > 2*words {
				t.Fatalf("node %d of %d words by %d: %x", i, words, size, segs)
			}
			if ok && !impl.FrameOk(segs) {
				t.Fatalf("node %d by %d: %x is no segments", i, size, segs)
			}
		}
	}
}

// Promises 15, 16 and 70: just where everything stands.
func TestWhereBuiltThingsStand(t *testing.T) {
	none, bare, a, b, c := impl.Node{}, structNode(""), structNode("aaaaaaaa"), structNode("bbbbbbbb"), structNode("cccccccc")
	for i, x := range []struct {
		n    impl.Node
		size int
		segs []string
	}{
		{none, 1, []string{noughts(1)}}, {bare, 1, []string{toStruct(-1, 0, 0)}}, {dataNode(impl.SizeVoid, 9, ""), 1, []string{toList(0, impl.SizeVoid, 9)}}, {dataNode(impl.SizeVoid, 0, ""), 1, []string{toList(0, impl.SizeVoid, 0)}}, {dataNode(impl.SizeEight, 0, ""), 1, []string{toList(0, impl.SizeEight, 0)}}, {pointNode(), 1, []string{toList(0, impl.SizePoint, 0)}},
		{manyNode(), 2, []string{toList(0, impl.SizeMany, 0) + noughts(1)}}, {manyNode(), 1, []string{toFar(1, 0), toList(0, impl.SizeMany, 0) + noughts(1)}}, {manyNode(bare, bare), 2, []string{toList(0, impl.SizeMany, 0) + toStruct(2, 0, 0)}},

		// Nothing more than Off -1 stands in the way of the next one.
		{structNode("", bare, dataNode(impl.SizeVoid, 3, ""), a), 5, []string{toStruct(0, 0, 3) + toStruct(-1, 0, 0) + toList(0, impl.SizeVoid, 3) + toStruct(0, 1, 0) + "aaaaaaaa"}},
		{dataNode(impl.SizeBit, 9, "\xff\x01"), 200, []string{toList(0, impl.SizeBit, 9) + "\xff\x01" + noughts(1)[2:]}}, {dataNode(impl.SizeTwo, 5, "abcdefghij"), 3, []string{toList(0, impl.SizeTwo, 5) + "abcdefghij" + noughts(1)[2:]}},

		// A segment that is just full, and one that is not.
		{a, 2, []string{toStruct(0, 1, 0) + "aaaaaaaa"}}, {a, 1, []string{toFar(1, 0), toStruct(0, 1, 0) + "aaaaaaaa"}},
		{structNode("", a, b), 5, []string{toStruct(0, 0, 2) + toStruct(1, 1, 0) + toStruct(1, 1, 0) + "aaaaaaaabbbbbbbb"}},
		{structNode("", a, b), 4, []string{toStruct(0, 0, 2) + toStruct(1, 1, 0) + toFar(1, 0) + "aaaaaaaa", toStruct(0, 1, 0) + "bbbbbbbb"}},
		{structNode("", a, b), 3, []string{toStruct(0, 0, 2) + toFar(1, 0) + toFar(2, 0), toStruct(0, 1, 0) + "aaaaaaaa", toStruct(0, 1, 0) + "bbbbbbbb"}},
		{structNode("", a, b), 2, []string{toFar(1, 0), toStruct(0, 0, 2) + toFar(2, 0) + toFar(3, 0), toStruct(0, 1, 0) + "aaaaaaaa", toStruct(0, 1, 0) + "bbbbbbbb"}},
		{structNode("", a, b), 1, []string{toFar(1, 0), toStruct(0, 0, 2) + toFar(2, 0) + toFar(3, 0), toStruct(0, 1, 0) + "aaaaaaaa", toStruct(0, 1, 0) + "bbbbbbbb"}},

		// The last segment, if it is another one: just full, and one word too small.
		{structNode("", a, b, c), 4, []string{toStruct(0, 0, 3) + toFar(1, 0) + toFar(1, 2) + toFar(2, 0), toStruct(0, 1, 0) + "aaaaaaaa" + toStruct(0, 1, 0) + "bbbbbbbb", toStruct(0, 1, 0) + "cccccccc"}},
		{structNode("", a, structNode("bbbbbbbbBBBBBBBB"), c), 4, []string{toStruct(0, 0, 3) + toFar(1, 0) + toFar(2, 0) + toFar(3, 0), toStruct(0, 1, 0) + "aaaaaaaa", toStruct(0, 2, 0) + "bbbbbbbbBBBBBBBB", toStruct(0, 1, 0) + "cccccccc"}},

		// The pointer's own segment comes ahead of the last one; one that is neither is not gone back to.
		{structNode("", structNode("", structNode("xxxxxxxxXXXXXXXX")), b), 5, []string{toStruct(0, 0, 2) + toStruct(1, 0, 1) + toStruct(1, 1, 0) + toFar(1, 0) + "bbbbbbbb", toStruct(0, 2, 0) + "xxxxxxxxXXXXXXXX"}},
		{structNode("", structNode(strings.Repeat("x", 24), structNode("yyyyyyyy")), b), 6, []string{toStruct(0, 0, 2) + toFar(1, 0) + toStruct(0, 1, 0) + "bbbbbbbb", toStruct(0, 3, 1) + strings.Repeat("x", 24) + toStruct(0, 1, 0) + "yyyyyyyy"}},

		// Items stand together; what is within them follows, item by item.
		{manyNode(structNode("aaaaaaaa", b), structNode("AAAAAAAA", c)), 8, []string{toList(0, impl.SizeMany, 4) + toStruct(2, 1, 1) + "aaaaaaaa" + toStruct(2, 1, 0) + "AAAAAAAA" + toStruct(1, 1, 0) + "bbbbbbbbcccccccc"}},
		{manyNode(structNode("aaaaaaaa", b), structNode("AAAAAAAA", c)), 7, []string{toList(0, impl.SizeMany, 4) + toStruct(2, 1, 1) + "aaaaaaaa" + toStruct(2, 1, 0) + "AAAAAAAA" + toFar(1, 0) + "bbbbbbbb", toStruct(0, 1, 0) + "cccccccc"}},
		{manyNode(structNode("", structNode("", a), b), structNode("", c, none)), 200, []string{toList(0, impl.SizeMany, 4) + toStruct(2, 0, 2) + toStruct(3, 0, 1) + toStruct(4, 1, 0) + toStruct(4, 1, 0) + noughts(1) + toStruct(0, 1, 0) + "aaaaaaaabbbbbbbbcccccccc"}},
		{pointNode(structNode("", a), none, b), 7, []string{toList(0, impl.SizePoint, 3) + toStruct(2, 0, 1) + noughts(1) + toStruct(2, 1, 0) + toStruct(0, 1, 0) + "aaaaaaaabbbbbbbb"}},
		{pointNode(structNode("", a), none, b), 6, []string{toList(0, impl.SizePoint, 3) + toStruct(2, 0, 1) + noughts(1) + toFar(1, 0) + toStruct(0, 1, 0) + "aaaaaaaa", toStruct(0, 1, 0) + "bbbbbbbb"}},
	} {
		if segs, ok := impl.Build(x.n, x.size); !ok || !sameTexts(segs, x.segs) {
			t.Errorf("case %d: %v, %x, not %x", i, ok, segs, x.segs)
		}
	}
}

// Promise 70: too many segments, or too many words.
func TestTooMuchToBuild(t *testing.T) {
	one := structNode("abcdefgh")
	wide := func(data, count int) impl.Node {
		return structNode(strings.Repeat("abcdefgh", data), times(one, count)...)
	}
	for i, c := range []struct {
		n    impl.Node
		size int
		segs int
	}{
		{wide(0, 4), 1, 6}, {wide(0, 5), 1, 0}, {wide(0, 4), 2, 6}, {wide(0, 5), 2, 0}, {wide(0, 5), 6, 3}, {wide(0, 5), 5, 5}, {wide(0, 99), 199, 1},
		{wide(1, 66), 68, 3}, {wide(2, 66), 69, 0}, {wide(0, 66), 67, 3}, {wide(0, 67), 68, 0}, {wide(2, 66), 200, 1}, {wide(0, 67), 200, 1},
		{structNode(strings.Repeat("abcdefgh", 198)), 1, 2}, {structNode(strings.Repeat("abcdefgh", 199)), 1, 0}, {structNode(strings.Repeat("abcdefgh", 199)), 199, 0}, {structNode(strings.Repeat("abcdefgh", 199)), 200, 1},
		{chain(6), 1, 6}, {chain(7), 1, 0}, {chain(7), 2, 6}, {chain(8), 2, 0}, {chain(8), 3, 4},
	} {
		segs, ok := impl.Build(c.n, c.size)
		if ok != (c.segs > 0) || len(segs) != c.segs {
			t.Errorf("case %d: %d segments, %v", i, len(segs), ok)
		}
		if text, sent := impl.Send(c.n, c.size); sent && !ok || !sent && text != "" {
			t.Errorf("case %d: %x is sent, %v", i, text, sent)
		}
	}
	for i, n := range okNodes(33, 300) {
		for size := 1; size < 9; size++ {
			if segs, ok := impl.Build(n, size); ok != impl.FrameOk(segs) || !ok && len(segs) != 0 {
				t.Fatalf("node %d by %d: %v, %d segments", i, size, ok, len(segs))
			}
		}
	}
}

// Promises 14 and 16: items without words, as many as there may be, take a word.
func TestBuiltListsWithoutWords(t *testing.T) {
	bare := structNode("")
	for i, n := range []impl.Node{manyNode(), manyNode(bare), manyNode(times(bare, 64*impl.WordMax)...), dataNode(impl.SizeVoid, 64*impl.WordMax, "")} {
		one, ok := impl.BuildOne(n)
		want := 8 * (1 + wordsIn(n))
		if !ok || len(one) != want {
			t.Errorf("node %d: %x", i, one)
		}
	}
	if one, _ := impl.BuildOne(manyNode(times(bare, 64*impl.WordMax)...)); one != toList(0, impl.SizeMany, 0)+toStruct(64*impl.WordMax, 0, 0) {
		t.Errorf("%x", one)
	}
}

// sendable are nodes, and sizes, by which they are sent.
func sendable(seed int64, count int, do func(n impl.Node, size int, text string)) {
	r := rand.New(rand.NewSource(seed))
	for _, n := range okNodes(seed, count) {
		for _, size := range []int{1, 2 + r.Intn(8), 2 + r.Intn(40), impl.WordMax} {
			if text, ok := impl.Send(n, size); ok {
				do(n, size, text)
			}
		}
	}
}

// Promise 19.
func TestWhatWasSentIsTaken(t *testing.T) {
	taken := 0
	sendable(34, 1000, func(n impl.Node, size int, text string) {
		if costIn(n) > impl.ReadMax {
			if x, code := impl.Take(text, impl.ReadMax); code != impl.ReadMuch || !impl.NodeSame(x, impl.Node{}) {
				t.Fatalf("%+v by %d: %d", n, size, code)
			}
			return
		}
		taken++
		x, code := impl.Take(text, impl.ReadCost(n))
		if code != impl.ReadFine || !impl.NodeSame(x, n) {
			t.Fatalf("%+v by %d: %d, %+v", n, size, code, x)
		}
		if x, code := impl.Take(text, impl.ReadCost(n)-1); costIn(n) > 0 && (code != impl.ReadMuch || !impl.NodeSame(x, impl.Node{})) {
			t.Fatalf("%+v by %d: %d by one less", n, size, code)
		}
		for _, word := range []string{noughts(1), "abcdefgh", noughts(1)[1:] + "a"} {
			if x, code := impl.Take(text+impl.Pack(word), impl.ReadMax); code != impl.ReadKind || !impl.NodeSame(x, impl.Node{}) {
				t.Fatalf("%+v by %d: %d with a word behind", n, size, code)
			}
		}
	})
	if taken < 2000 {
		t.Errorf("just %d were taken", taken)
	}
}

// Promise 19: what was not sent.
func TestTakeOfWhatWasNotSent(t *testing.T) {
	frame := func(segs ...string) string { return impl.Pack(impl.FramePut(segs)) }
	word := toStruct(0, 1, 0) + "abcdefgh"
	for i, c := range []struct {
		text  string
		limit int
		code  int
	}{
		{"", 1000, impl.ReadRange}, {"", -1, impl.ReadRange},
		{"\x00", 1000, impl.ReadKind}, {"\x01", 1000, impl.ReadKind}, {"\xffabcdefgh", 1000, impl.ReadKind}, {"\x01", -1, impl.ReadKind}, {"\x00\xc8", 1000, impl.ReadKind},
		{impl.Pack("\x06" + noughts(4)[1:]), 1000, impl.ReadKind}, {impl.Pack("\x00\x00\x00\x00\xc9\x00\x00\x00"), 1000, impl.ReadKind}, {impl.Pack("\x01" + noughts(2)[1:15] + "\x01"), 1000, impl.ReadKind},
		{impl.Pack("\x00\x00\x00\x00\x01\x00\x00\x00"), 1000, impl.ReadKind}, {impl.Pack("\x00\x00\x00\x00\x02\x00\x00\x00" + word[:8]), 1000, impl.ReadKind}, {impl.Pack("\x01" + noughts(1)[1:]), 1000, impl.ReadKind},
		{frame(""), 1000, impl.ReadRange}, {frame("", word), 1000, impl.ReadRange}, {frame(word[:8]), 1000, impl.ReadRange}, {frame(noughts(1)), 0, impl.ReadFine}, {frame(word), 1, impl.ReadFine}, {frame(word), 0, impl.ReadMuch}, {frame(word), -1, impl.ReadRange}, {frame(word), 1001, impl.ReadRange}, {frame(badWord), 1000, impl.ReadKind}, {frame(toStruct(-1, 0, 1)), 1000, impl.ReadDeep},
		{frame(word) + impl.Pack(noughts(1)), 1000, impl.ReadKind}, {frame(word) + frame(word), 1000, impl.ReadKind}, {frame(word) + impl.Pack(noughts(1)), -1, impl.ReadKind}, {frame(word) + "\x01", 1000, impl.ReadKind},
		{impl.FramePut([]string{word}), 1000, impl.ReadKind},
	} {
		n, code := impl.Take(c.text, c.limit)
		if code != c.code || code != impl.ReadFine && !impl.NodeSame(n, impl.Node{}) {
			t.Errorf("case %d: %d, %+v", i, code, n)
		}
	}
}

// Promise 20.
func TestWhatIsTakenIsSentAgain(t *testing.T) {
	again := 0
	for _, segs := range messages(35, 4000) {
		frame := impl.FramePut(segs)
		n, code := impl.Take(impl.Pack(frame), impl.ReadMax)
		if len(frame) > 8*impl.WordMax {
			continue
		}
		read, want := impl.Read(segs, impl.ReadMax)
		if code != want || !impl.NodeSame(n, read) {
			t.Fatalf("%x is taken as %d, %+v", segs, code, n)
		}
		for _, size := range []int{1, 5, 20, impl.WordMax} {
			text, ok := impl.Send(n, size)
			if code != impl.ReadFine || !ok {
				continue
			}
			again++
			if x, code := impl.Take(text, impl.ReadMax); code != impl.ReadFine || !impl.NodeSame(x, n) {
				t.Fatalf("%x by %d: %d, %+v, not %+v", segs, size, code, x, n)
			}
		}
	}
	if again < 5000 {
		t.Errorf("just %d were sent again", again)
	}
}

// Promise 20: of any bytes.
func TestTakeOfAnyBytes(t *testing.T) {
	r := rand.New(rand.NewSource(36))
	for range 20000 {
		text := []byte(impl.Pack(impl.FramePut(someMessage(r))))
		for range 1 + r.Intn(3) {
			text[r.Intn(len(text))] = byte(r.Intn(256))
		}
		n, code := impl.Take(string(text), impl.ReadMax)
		if code != impl.ReadFine && !impl.NodeSame(n, impl.Node{}) || code == impl.ReadFine && !impl.NodeOk(n) && wordsIn(n) < impl.WordMax {
			t.Fatalf("%x: %d, %+v", text, code, n)
		}
		if sent, ok := impl.Send(n, 10); ok {
			if x, code := impl.Take(sent, impl.ReadMax); code != impl.ReadFine || !impl.NodeSame(x, n) {
				t.Fatalf("%x: %d, %+v", text, code, x)
			}
		}
	}
}

// Promise 81.
func TestWhatIsSentIsNotLonger(t *testing.T) {
	sendable(37, 1000, func(n impl.Node, size int, text string) {
		segs, ok := impl.Build(n, size)
		frame, fine := impl.Unpack(text)
		if !ok || !fine || frame != impl.FramePut(segs) || text != impl.Pack(frame) || 4*len(text) > 5*len(frame) {
			t.Fatalf("%+v by %d: %x", n, size, text)
		}
	})
}

// Promise 81: the frame has at most WordMax words, its head too.
func TestWhatIsTooLongToSend(t *testing.T) {
	for i, n := range okNodes(38, 500) {
		for _, size := range sizes() {
			segs, ok := impl.Build(n, size)
			fits := ok && len(impl.FramePut(segs)) <= 8*impl.WordMax
			if text, sent := impl.Send(n, size); sent != fits || !sent && text != "" {
				t.Fatalf("node %d by %d: %v", i, size, sent)
			}
		}
	}
	for _, c := range []struct {
		words, size int
		sent        bool
	}{{197, 200, true}, {198, 200, true}, {199, 200, false}, {196, 1, true}, {197, 1, false}, {198, 1, false}} {
		n := structNode(strings.Repeat("abcdefgh", c.words))
		if text, ok := impl.Send(n, c.size); ok != c.sent || ok != (text != "") {
			t.Errorf("%d words by %d: %v", c.words, c.size, ok)
		}
	}
}
