package tests

import (
	"math"
	"math/rand"
	"slices"
	"testing"

	"loop.example/quoin/impl"
)

// bitsIn is how many bits a size of data has, told from the document.
func bitsIn(size int) int {
	return map[int]int{impl.SizeBit: 1, impl.SizeOne: 8, impl.SizeTwo: 16, impl.SizeFour: 32, impl.SizeEight: 64}[size]
}

// span is some bits: from one to ahead of another one.
type span struct{ from, to int }

// meets says whether two spans have a bit that is the same.
func (s span) meets(o span) bool {
	return s.from < o.to && o.from < s.to
}

// land is words of which some bits are taken, and all others are holes.
type land struct {
	words int
	holes []span
}

// room takes room of so many bits, told from the document.
func (l *land) room(bits int) int {
	best := -1
	for i, h := range l.holes {
		if h.to-h.from >= bits && (best < 0 || h.to-h.from < l.holes[best].to-l.holes[best].from) {
			best = i
		}
	}
	if best < 0 {
		from := 64 * l.words
		l.words++
		for hole := bits; hole < 64; hole *= 2 {
			l.holes = append(l.holes, span{from + hole, from + 2*hole})
		}
		return from
	}
	h := l.holes[best]
	l.holes = slices.Delete(l.holes, best, best+1)
	for h.to-h.from > bits {
		half := (h.from + h.to) / 2
		l.holes = append(l.holes, span{half, h.to})
		h.to = half
	}
	return h.from
}

// layoutIn is where fields stand, told from the document.
func layoutIn(list []impl.Field) impl.Layout {
	out := impl.Layout{Tag: -1}
	l, rooms, choices, pointer := land{}, []span{}, 0, -1
	for _, f := range list {
		if f.Choice {
			choices++
		}
		if f.Choice && choices == 2 {
			out.Tag = l.room(16) / 16
		}
		if f.Size == impl.SizePoint && f.Choice && pointer >= 0 {
			out.Slots = append(out.Slots, impl.Slot{At: pointer})
			continue
		}
		if f.Size == impl.SizePoint {
			if f.Choice {
				pointer = out.Ptrs
			}
			out.Slots = append(out.Slots, impl.Slot{At: out.Ptrs})
			out.Ptrs++
			continue
		}
		bits := bitsIn(f.Size)
		first := slices.IndexFunc(rooms, func(r span) bool { return f.Choice && r.to-r.from >= bits })
		from := 0
		if first >= 0 {
			from = rooms[first].from
		} else if from = l.room(bits); f.Choice {
			rooms = append(rooms, span{from, from + bits})
		}
		out.Slots = append(out.Slots, impl.Slot{At: from / bits})
	}
	out.Data = l.words
	return out
}

// sameLayout says whether two layouts are the same.
func sameLayout(a, b impl.Layout) bool {
	return a.Data == b.Data && a.Ptrs == b.Ptrs && a.Tag == b.Tag && slices.Equal(a.Slots, b.Slots)
}

// fieldsAll is all lists of so many fields at most, without Else.
func fieldsAll(most int) [][]impl.Field {
	all := [][]impl.Field{nil}
	for from := 0; most > 0; most-- {
		to := len(all)
		for _, list := range all[from:to] {
			for size := impl.SizeBit; size <= impl.SizePoint; size++ {
				for _, choice := range []bool{false, true} {
					all = append(all, append(slices.Clone(list), impl.Field{Size: size, Choice: choice}))
				}
			}
		}
		from = to
	}
	return all
}

// someFields is fields, of which about one of so many is a choice (none, if that is 0), each with some Else.
func someFields(r *rand.Rand, choices int) []impl.Field {
	var list []impl.Field
	for range r.Intn(impl.FieldMax + 1) {
		f := impl.Field{Size: impl.SizeBit + r.Intn(6)}
		f.Choice = choices > 0 && r.Intn(choices) == 0
		switch f.Size {
		case impl.SizeEight:
			f.Else = int(r.Uint64())
		case impl.SizePoint:
		default:
			f.Else = r.Intn(1 << bitsIn(f.Size))
		}
		list = append(list, f)
	}
	return list
}

// fieldsMany is all lists of up to four fields, and some longer ones.
func fieldsMany(seed int64) [][]impl.Field {
	r := rand.New(rand.NewSource(seed))
	all := fieldsAll(4)
	for i := range 20000 {
		all = append(all, someFields(r, i%4))
	}
	return all
}

// badFields is lists that are not ok.
func badFields() [][]impl.Field {
	bit := impl.Field{Size: impl.SizeBit}
	all := [][]impl.Field{times(bit, impl.FieldMax+1), times(bit, 1000), times(impl.Field{Size: impl.SizePoint}, impl.FieldMax+1), {{}}}
	bad := []impl.Field{{Size: impl.SizeVoid}, {Size: impl.SizeMany}, {Size: impl.SizeVoid, Else: 1}, {Size: impl.SizeMany, Else: 1}, {Size: impl.SizeVoid, Choice: true}, {Size: impl.SizePoint, Else: 1}, {Size: impl.SizePoint, Else: -1}, {Size: impl.SizePoint, Choice: true, Else: 1}}
	for _, size := range []int{impl.SizeBit, impl.SizeOne, impl.SizeTwo, impl.SizeFour} {
		end := 1 << bitsIn(size)
		for _, n := range []int{-1, -end, end, end + 1, math.MinInt, math.MaxInt} {
			bad = append(bad, impl.Field{Size: size, Else: n}, impl.Field{Size: size, Choice: true, Else: n})
		}
	}
	for _, n := range append(strange(), 8, 9) {
		bad = append(bad, impl.Field{Size: n}, impl.Field{Size: n, Choice: true}, impl.Field{Size: impl.SizePoint, Else: n})
	}
	for _, f := range bad {
		all = append(all, []impl.Field{f}, []impl.Field{f, bit}, []impl.Field{bit, bit, f}, append(times(bit, impl.FieldMax-1), f))
	}
	return all
}

// spansOf is the bits of each field of data, and the places of pointers, by their places among the fields.
func spansOf(list []impl.Field, l impl.Layout) (map[int]span, map[int]int) {
	data, ptrs := map[int]span{}, map[int]int{}
	for i, f := range list {
		if f.Size == impl.SizePoint {
			ptrs[i] = l.Slots[i].At
			continue
		}
		from, to := impl.LayoutBits(list, i)
		data[i] = span{from, to}
	}
	return data, ptrs
}

// layout is LayoutOf of fields that are ok.
func layout(t *testing.T, list []impl.Field) impl.Layout {
	t.Helper()
	l, ok := impl.LayoutOf(list)
	if !ok || !impl.FieldsOk(list) || len(l.Slots) != len(list) {
		t.Fatalf("%+v has the layout %+v, %v", list, l, ok)
	}
	return l
}

// Shorter names for fields, of the cases below: data by its bits, and a pointer.
var (
	f1, f8, f16, f32, f64, fp = impl.Field{Size: impl.SizeBit}, impl.Field{Size: impl.SizeOne}, impl.Field{Size: impl.SizeTwo}, impl.Field{Size: impl.SizeFour}, impl.Field{Size: impl.SizeEight}, impl.Field{Size: impl.SizePoint}
	c1, c8, c16, c32, c64, cp = choiceOf(f1), choiceOf(f8), choiceOf(f16), choiceOf(f32), choiceOf(f64), choiceOf(fp)
)

// choiceOf is a field as a choice.
func choiceOf(f impl.Field) impl.Field {
	f.Choice = true
	return f
}

// layoutCase is fields, and how many words and pointers they have, where their tag is, and where they stand.
type layoutCase struct {
	list            []impl.Field
	data, ptrs, tag int
	at              []int
}

// checkLayouts checks cases.
func checkLayouts(t *testing.T, cases []layoutCase) {
	t.Helper()
	for i, c := range cases {
		want := impl.Layout{Data: c.data, Ptrs: c.ptrs, Tag: c.tag}
		for _, at := range c.at {
			want.Slots = append(want.Slots, impl.Slot{At: at})
		}
		if l := layout(t, c.list); !sameLayout(l, want) {
			t.Errorf("case %d: %+v has the layout %+v, not %+v", i, c.list, l, want)
		}
	}
}

// Promises 24, 26 and 82: holes are taken, the least first, and halved.
func TestHoles(t *testing.T) {
	checkLayouts(t, []layoutCase{
		{nil, 0, 0, -1, nil}, {[]impl.Field{f1}, 1, 0, -1, []int{0}}, {[]impl.Field{f64}, 1, 0, -1, []int{0}}, {[]impl.Field{fp}, 0, 1, -1, []int{0}}, {[]impl.Field{fp, f8, fp, fp}, 1, 3, -1, []int{0, 0, 1, 2}},

		// What is left of a new word: each power of two once.
		{[]impl.Field{f1, f32, f16, f8, f1}, 1, 0, -1, []int{0, 1, 1, 1, 1}}, {[]impl.Field{f1, f8, f16, f32, f8}, 2, 0, -1, []int{0, 1, 1, 1, 8}}, {[]impl.Field{f8, f8, f16, f32, f1}, 2, 0, -1, []int{0, 1, 1, 1, 64}}, {[]impl.Field{f32, f32, f32}, 2, 0, -1, []int{0, 1, 2}}, {[]impl.Field{f16, f16, f16, f16, f16}, 2, 0, -1, []int{0, 1, 2, 3, 4}}, {[]impl.Field{f16, f32, f16, f8}, 2, 0, -1, []int{0, 1, 1, 8}},

		// A hole that is halved: once, and several times, the second halves being holes.
		{[]impl.Field{f32, f16, f16}, 1, 0, -1, []int{0, 2, 3}}, {[]impl.Field{f32, f8, f8, f16}, 1, 0, -1, []int{0, 4, 5, 3}}, {[]impl.Field{f32, f1, f16, f8, f1}, 1, 0, -1, []int{0, 32, 3, 5, 33}}, {[]impl.Field{f32, f8, f16, f1, f8}, 2, 0, -1, []int{0, 4, 3, 40, 8}}, {[]impl.Field{f1, f1, f1, f1, f1, f1, f8}, 1, 0, -1, []int{0, 1, 2, 3, 4, 5, 1}}, {[]impl.Field{f8, f1, f8, f1}, 1, 0, -1, []int{0, 8, 2, 9}}, {[]impl.Field{f8, f1, f16, f8, f32, f8}, 2, 0, -1, []int{0, 8, 1, 4, 2, 5}},

		// The least that is great enough, be another one ahead.
		{[]impl.Field{f32, f64, f8, f32, f16}, 3, 0, -1, []int{0, 1, 4, 4, 3}}, {[]impl.Field{f1, f32, f64, f16, f16}, 3, 0, -1, []int{0, 1, 1, 1, 8}}, {[]impl.Field{f1, f64, f32, f32}, 3, 0, -1, []int{0, 1, 1, 4}}, {[]impl.Field{f64, f1, f64, f16}, 3, 0, -1, []int{0, 64, 2, 5}},
		{times(f64, 12), 12, 0, -1, []int{0, 1, 2, 3, 4, 5, 6, 7, 8, 9, 10, 11}}, {times(fp, 12), 0, 12, -1, []int{0, 1, 2, 3, 4, 5, 6, 7, 8, 9, 10, 11}},
	})
}

// Promise 69: choices share rooms, and their tag stands ahead of the second one.
func TestChoicesShareRooms(t *testing.T) {
	checkLayouts(t, []layoutCase{
		// One alone is told by nothing.
		{[]impl.Field{c1}, 1, 0, -1, []int{0}}, {[]impl.Field{cp}, 0, 1, -1, []int{0}}, {[]impl.Field{f8, c8, f8}, 1, 0, -1, []int{0, 1, 2}}, {[]impl.Field{fp, cp, fp}, 0, 3, -1, []int{0, 1, 2}},

		// The second one: its tag is ahead of it, just once.
		{[]impl.Field{c8, c8}, 1, 0, 1, []int{0, 0}}, {[]impl.Field{c8, c8, c8, f16}, 1, 0, 1, []int{0, 0, 0, 2}}, {[]impl.Field{c1, c32}, 1, 0, 1, []int{0, 1}}, {[]impl.Field{c16, c32, f16}, 2, 0, 1, []int{0, 1, 4}}, {[]impl.Field{c64, c16}, 2, 0, 4, []int{0, 0}}, {[]impl.Field{c32, f1, c1}, 1, 0, 3, []int{0, 32, 0}}, {[]impl.Field{c32, f32, c32}, 2, 0, 4, []int{0, 1, 0}},
		{[]impl.Field{c16, f16, f16, c64}, 2, 0, 3, []int{0, 1, 2, 1}}, {[]impl.Field{f8, c8, f8, c8, f8, c8, f8}, 1, 0, 2, []int{0, 1, 2, 1, 3, 1, 6}}, {[]impl.Field{c8, c16, c8, f8}, 1, 0, 1, []int{0, 2, 0, 1}},

		// A choice that is greater than those ahead has room of its own, which those behind have too.
		{[]impl.Field{c1, c8, c64, c32, c16, c1}, 2, 0, 1, []int{0, 1, 1, 2, 4, 0}}, {[]impl.Field{c8, c64, c32}, 2, 0, 1, []int{0, 1, 2}}, {[]impl.Field{c8, c16, c16, c8, c1, c32, c32}, 2, 0, 1, []int{0, 2, 2, 0, 0, 2, 2}}, {[]impl.Field{c1, c1, c8, c1, c8, c16}, 1, 0, 1, []int{0, 0, 1, 0, 1, 2}}, {[]impl.Field{c32, f8, c16, c8, f8, c64, c1, c64}, 2, 0, 3, []int{0, 4, 0, 0, 5, 1, 0, 1}}, {[]impl.Field{c64, c32, c16, c8, c1}, 2, 0, 4, []int{0, 0, 0, 0, 0}},

		// Room that others have is none of choices.
		{[]impl.Field{f64, c8, c8}, 2, 0, 5, []int{0, 8, 8}}, {[]impl.Field{c8, c8, f8, f8}, 1, 0, 1, []int{0, 0, 1, 4}}, {[]impl.Field{f64, c32, f64, c64, c64, c32}, 4, 0, 6, []int{0, 2, 2, 3, 3, 2}},

		// Pointers have one, of the first one on; the tag counts all choices.
		{[]impl.Field{cp, cp}, 1, 1, 0, []int{0, 0}}, {[]impl.Field{fp, cp, fp, cp, fp}, 1, 4, 0, []int{0, 1, 2, 1, 3}}, {[]impl.Field{cp, c32}, 1, 1, 0, []int{0, 1}}, {[]impl.Field{c64, cp, c8, cp}, 2, 1, 4, []int{0, 0, 0, 0}}, {[]impl.Field{c8, fp, cp, c8, fp, cp}, 1, 3, 1, []int{0, 0, 1, 0, 2, 1}},
		{times(c64, 12), 2, 0, 4, make([]int, 12)}, {times(cp, 12), 1, 1, 0, make([]int, 12)}, {append(times(f64, 10), c64, c64), 12, 0, 44, []int{0, 1, 2, 3, 4, 5, 6, 7, 8, 9, 10, 10}},
	})
}

// Promises 24 to 26, 69 and 82: each layout is as the document tells it, whatever Else is.
func TestLayoutIsAsTold(t *testing.T) {
	for _, list := range fieldsMany(47) {
		l, want := layout(t, list), layoutIn(list)
		if !sameLayout(l, want) {
			t.Fatalf("%+v has the layout %+v, not %+v", list, l, want)
		}
		bare := slices.Clone(list)
		for i := range bare {
			bare[i].Else = 0
		}
		if !sameLayout(layout(t, bare), l) {
			t.Fatalf("%+v has another layout without Else", list)
		}
	}
}

// Promise 24.
func TestNoTwoFieldsMeet(t *testing.T) {
	for _, list := range fieldsMany(48) {
		l := layout(t, list)
		data, ptrs := spansOf(list, l)
		tag := span{l.Tag * 16, l.Tag*16 + 16}
		if l.Tag < -1 || l.Tag >= 0 && tag.to > 64*l.Data {
			t.Fatalf("%+v has its tag outside: %+v", list, l)
		}
		for i, s := range data {
			if s.from < 0 || s.to > 64*l.Data || l.Tag >= 0 && s.meets(tag) {
				t.Fatalf("%+v has field %d outside, or at the tag: %+v", list, i, l)
			}
			for k, o := range data {
				if i != k && s.meets(o) && !(list[i].Choice && list[k].Choice) {
					t.Fatalf("%+v has fields %d and %d in one place: %+v", list, i, k, l)
				}
			}
		}
		for i, at := range ptrs {
			if at < 0 || at >= l.Ptrs {
				t.Fatalf("%+v has pointer %d outside: %+v", list, i, l)
			}
			for k, other := range ptrs {
				if i != k && at == other && !(list[i].Choice && list[k].Choice) {
					t.Fatalf("%+v has pointers %d and %d in one place: %+v", list, i, k, l)
				}
			}
		}
	}
}

// Promise 25.
func TestFieldMoreLeavesAllOthers(t *testing.T) {
	for _, list := range fieldsMany(49) {
		l := layout(t, list)
		for most := range list {
			few := layout(t, list[:most])
			if !slices.Equal(few.Slots, l.Slots[:most]) || few.Tag >= 0 && few.Tag != l.Tag || few.Data > l.Data || few.Ptrs > l.Ptrs {
				t.Fatalf("%+v has the layout %+v, and the first %d have %+v", list, l, most, few)
			}
			for at := range most {
				from, to := impl.LayoutBits(list[:most], at)
				if a, b := impl.LayoutBits(list, at); a != from || b != to {
					t.Fatalf("%+v has field %d elsewhere than the first %d have it", list, at, most)
				}
			}
		}
	}
}

// Promise 26.
func TestFieldHasTheBitsOfItsSize(t *testing.T) {
	for _, list := range fieldsMany(50) {
		l := layout(t, list)
		for at, f := range list {
			want := span{l.Slots[at].At * bitsIn(f.Size), (l.Slots[at].At + 1) * bitsIn(f.Size)}
			if f.Size == impl.SizePoint {
				want = span{}
			}
			if from, to := impl.LayoutBits(list, at); (span{from, to}) != want {
				t.Fatalf("%+v has field %d from %d to %d, not %+v", list, at, from, to, want)
			}
		}
	}
}

// Promise 26: what is no field of data has no bits.
func TestNoFieldHasNoBits(t *testing.T) {
	for i, list := range badFields() {
		for _, at := range []int{-1, 0, 1, len(list) - 1, len(list)} {
			if from, to := impl.LayoutBits(list, at); from != 0 || to != 0 {
				t.Errorf("bad fields %d: field %d from %d to %d", i, at, from, to)
			}
		}
	}
	for _, list := range [][]impl.Field{nil, {f64}, {f8, f8}, {c8, cp, f32}, times(f64, impl.FieldMax)} {
		for _, at := range append(strange(), len(list), len(list)+1, impl.FieldMax, impl.FieldMax+1) {
			if from, to := impl.LayoutBits(list, at); from != 0 || to != 0 {
				t.Errorf("%+v: field %d from %d to %d", list, at, from, to)
			}
		}
	}
	for _, list := range [][]impl.Field{{f64, fp}, {f64, cp}, {f64, cp, cp}} {
		if from, to := impl.LayoutBits(list, len(list)-1); from != 0 || to != 0 {
			t.Errorf("%+v: a pointer from %d to %d", list, from, to)
		}
	}
}

// Promise 43.
func TestLessThanAWordIsLeft(t *testing.T) {
	r := rand.New(rand.NewSource(51))
	var all [][]impl.Field
	for range 20000 {
		all = append(all, someFields(r, 0))
	}
	for _, list := range fieldsAll(4) {
		if !slices.ContainsFunc(list, func(f impl.Field) bool { return f.Choice }) {
			all = append(all, list)
		}
	}
	most := 0
	for _, list := range all {
		left := 64 * layout(t, list).Data
		for _, f := range list {
			left -= bitsIn(f.Size)
		}
		if left < 0 || left >= 64 {
			t.Fatalf("%+v leaves %d bits", list, left)
		}
		most = max(most, left)
	}
	if most != 63 {
		t.Errorf("at most %d bits are left", most)
	}
}

// sharesRoom says whether a choice has room that one of those ahead had, from its beginning on; ok is false if it meets one of them otherwise.
func sharesRoom(s span, ahead []span) (shares, ok bool) {
	meets := false
	for _, o := range ahead {
		if s.meets(o) && s.from != o.from {
			return false, false
		}
		meets = meets || s.meets(o)
		shares = shares || s.from == o.from && s.to <= o.to
	}
	return shares, shares == meets
}

// Promise 69.
func TestChoicesBeginTogether(t *testing.T) {
	shared, own, pointers := 0, 0, 0
	for _, list := range fieldsMany(52) {
		l := layout(t, list)
		data, ptrs := spansOf(list, l)
		var spans []span
		var places []int
		for i, f := range list {
			if f.Choice && f.Size == impl.SizePoint {
				places = append(places, ptrs[i])
				continue
			}
			if !f.Choice {
				continue
			}
			shares, ok := sharesRoom(data[i], spans)
			if !ok {
				t.Fatalf("%+v has choice %d where another one is: %+v", list, i, l)
			}
			if shares {
				shared++
			} else {
				own++
			}
			spans = append(spans, data[i])
		}
		if len(slices.Compact(places)) > 1 {
			t.Fatalf("%+v has choices of pointers in several places: %+v", list, l)
		}
		if choices := len(spans) + len(places); (l.Tag >= 0) != (choices >= 2) || l.Tag < -1 {
			t.Fatalf("%+v, of %d choices, has the tag %d", list, choices, l.Tag)
		}
		pointers += len(places)
	}
	if shared < 10000 || own < 10000 || pointers < 10000 {
		t.Errorf("%d share their room, %d do not; %d are pointers", shared, own, pointers)
	}
}

// Promise 82.
func TestFieldsOfOneSizeStandSideBySide(t *testing.T) {
	for size := impl.SizeBit; size <= impl.SizePoint; size++ {
		for count := range impl.FieldMax + 1 {
			list := times(impl.Field{Size: size}, count)
			l := layout(t, list)
			for i, s := range l.Slots {
				if s.At != i {
					t.Errorf("%d of size %d: field %d stands at %d", count, size, i, s.At)
				}
			}
			want := impl.Layout{Data: (count*bitsIn(size) + 63) / 64, Slots: l.Slots, Tag: -1}
			if size == impl.SizePoint {
				want.Ptrs = count
			}
			if !sameLayout(l, want) {
				t.Errorf("%d of size %d: %+v, not %+v", count, size, l, want)
			}
		}
	}
}

// Promises 24, 25, 26, 43, 69 and 82: what is not ok has no layout.
func TestFieldsThatAreNotOk(t *testing.T) {
	for i, list := range badFields() {
		l, ok := impl.LayoutOf(list)
		if impl.FieldsOk(list) || ok || !sameLayout(l, impl.Layout{}) {
			t.Errorf("bad fields %d: %+v, %v", i, l, ok)
		}
	}
}

// Promises 24 and 26: what is ok at its bounds.
func TestFieldsThatAreJustOk(t *testing.T) {
	for _, size := range []int{impl.SizeBit, impl.SizeOne, impl.SizeTwo, impl.SizeFour} {
		for _, n := range []int{0, 1, 1<<bitsIn(size) - 1} {
			layout(t, []impl.Field{{Size: size, Else: n}})
			layout(t, []impl.Field{f1, {Size: size, Choice: true, Else: n}})
		}
	}
	for _, n := range append(strange(), 0, 1) {
		layout(t, []impl.Field{{Size: impl.SizeEight, Else: n}})
		layout(t, []impl.Field{fp, {Size: impl.SizeEight, Choice: true, Else: n}})
	}
	for size := impl.SizeBit; size <= impl.SizePoint; size++ {
		layout(t, times(impl.Field{Size: size}, impl.FieldMax))
		layout(t, times(impl.Field{Size: size, Choice: true}, impl.FieldMax))
	}
}

// Promises 24 and 25: a layout is new memory, and nothing is kept, nor written into the fields or behind them.
func TestLayoutsShareNoMemory(t *testing.T) {
	r := rand.New(rand.NewSource(53))
	for i := range 1000 {
		list := someFields(r, 1+i%3)
		was := slices.Clone(list)
		few := list[:len(list)/2]
		a, b := layout(t, list), layout(t, list)
		half := layout(t, few)
		for k := range a.Slots {
			a.Slots[k].At = -1
		}
		a.Slots = append(a.Slots, impl.Slot{At: -1})
		if !sameLayout(b, layoutIn(list)) || !sameLayout(half, layoutIn(few)) || !sameLayout(layout(t, list), b) {
			t.Fatalf("layouts of %+v share memory", list)
		}
		for at := range list {
			impl.LayoutBits(few, at)
		}
		if !slices.Equal(list, was) {
			t.Fatalf("%+v was written into: %+v", was, list)
		}
	}
}
