package impl

// Kinds of pointers.
const (
	PointNone   = 0
	PointStruct = 1
	PointList   = 2
	PointFar    = 3
	PointBad    = 4
)

// Sizes of what lists have: nothing, a bit, one, two, four, eight bytes, a pointer, or several words.
const (
	SizeVoid  = 0
	SizeBit   = 1
	SizeOne   = 2
	SizeTwo   = 3
	SizeFour  = 4
	SizeEight = 5
	SizePoint = 6
	SizeMany  = 7
)

// Point is where something stands, from the word behind on, and what it is: a struct of Data words and Ptrs pointers, a list of Count of a Size, or, in segment Seg at word Off, where that is told, or (Two) both where it stands and what it is.
type Point struct {
	Kind  int
	Off   int
	Data  int
	Ptrs  int
	Size  int
	Count int
	Seg   int
	Two   bool
}

// Bounds of the parts of a pointer: one more than the greatest.
const (
	offEnd   = 1 << 29
	countEnd = 1 << 29
	wideEnd  = 1 << 16
	segEnd   = 1 << 32
)

// listEnd is one more than what ListWords counts at most.
const listEnd = 1000001

// pointer is what a word that points says.
type pointer interface {
	// fits says whether each part has room in the word, and the word is read as this kind again.
	fits() bool
	// bits is the word as a number.
	bits() uint64
}

// noPointer points to nothing.
type noPointer struct{}

// structPointer points to words and pointers, off words behind itself.
type structPointer struct{ off, data, ptrs int }

// listPointer points to count of a size, off words behind itself.
type listPointer struct{ off, size, count int }

// farPointer points to a word of a segment, where one pointer stands, or two words.
type farPointer struct {
	off, seg int
	two      bool
}

// badPointer is what no pointer says.
type badPointer struct{}

func (noPointer) fits() bool { return true }

func (noPointer) bits() uint64 { return 0 }

func (p structPointer) fits() bool {
	// All three 0 would be read as nothing.
	return offFits(p.off) && within(p.data, wideEnd) && within(p.ptrs, wideEnd) && p != structPointer{}
}

func (p structPointer) bits() uint64 {
	return offBits(p.off) | uint64(p.data)<<32 | uint64(p.ptrs)<<48
}

func (p listPointer) fits() bool {
	return offFits(p.off) && within(p.size, SizeMany+1) && within(p.count, countEnd)
}

func (p listPointer) bits() uint64 {
	return 1 | offBits(p.off) | uint64(p.size)<<32 | uint64(p.count)<<35
}

func (p farPointer) fits() bool {
	return within(p.off, offEnd) && within(p.seg, segEnd)
}

func (p farPointer) bits() uint64 {
	n := 2 | uint64(p.off)<<3 | uint64(p.seg)<<32
	if p.two {
		n |= 4
	}
	return n
}

func (badPointer) fits() bool { return false }

func (badPointer) bits() uint64 { return 3 }

// within says whether a number is at least 0, and below an end.
func within(n int, end int) bool {
	return n >= 0 && n < end
}

// offFits says whether a distance that may be below 0 has room.
func offFits(off int) bool {
	return off >= -offEnd && off < offEnd
}

// offBits is a distance in the bits where it stands; below 0 it is as 2^30 more.
func offBits(off int) uint64 {
	return uint64(uint32(off) << 2)
}

// readPointer is what a word says.
func readPointer(w word) pointer {
	low, high := uint32(w.number(0, 4)), uint32(w.number(4, 4))
	off := int(int32(low) >> 2) // the shift keeps the sign
	switch low & 3 {
	case 0:
		if w == (word{}) {
			return noPointer{}
		}
		return structPointer{off: off, data: int(high & 0xffff), ptrs: int(high >> 16)}
	case 1:
		return listPointer{off: off, size: int(high & 7), count: int(high >> 3)}
	case 2:
		return farPointer{off: int(low >> 3), seg: int(high), two: low&4 != 0}
	}
	return badPointer{}
}

// pointerOf is a Point as the pointer of its kind; what other kinds have is left out.
func pointerOf(p Point) pointer {
	switch p.Kind {
	case PointNone:
		return noPointer{}
	case PointStruct:
		return structPointer{off: p.Off, data: p.Data, ptrs: p.Ptrs}
	case PointList:
		return listPointer{off: p.Off, size: p.Size, count: p.Count}
	case PointFar:
		return farPointer{off: p.Off, seg: p.Seg, two: p.Two}
	}
	return badPointer{}
}

// pointOf is a pointer as a Point.
func pointOf(p pointer) Point {
	switch x := p.(type) {
	case noPointer:
		return Point{Kind: PointNone}
	case structPointer:
		return Point{Kind: PointStruct, Off: x.off, Data: x.data, Ptrs: x.ptrs}
	case listPointer:
		return Point{Kind: PointList, Off: x.off, Size: x.size, Count: x.count}
	case farPointer:
		return Point{Kind: PointFar, Off: x.off, Seg: x.seg, Two: x.two}
	}
	return Point{Kind: PointBad}
}

// PointOk says whether a pointer can be written.
func PointOk(p Point) bool {
	x := pointerOf(p)
	// What its kind has not was left out, so that it differs if that was not 0.
	return pointOf(x) == p && x.fits()
}

// PointPut writes a pointer: a word.
func PointPut(p Point) string {
	if !PointOk(p) {
		return ""
	}
	return wordOf(pointerOf(p).bits()).text()
}

// PointGet reads a pointer.
func PointGet(word string) Point {
	if len(word) != wordBytes {
		return Point{Kind: PointBad}
	}
	return pointOf(readPointer(wordAt(word, 0)))
}

// sizeBits is how many bits one of a size has; of SizeMany it is not said by the size.
func sizeBits(size int) int {
	switch size {
	case SizeBit:
		return 1
	case SizeOne:
		return 8
	case SizeTwo:
		return 16
	case SizeFour:
		return 32
	case SizeEight, SizePoint:
		return 64
	}
	return 0
}

// wordsFor is how many words so many of a size other than SizeMany take, of any count that a pointer may tell.
func wordsFor(size int, count int) int {
	return (count*sizeBits(size) + wordBits - 1) / wordBits
}

// ListWords is how many words so many of a size take.
func ListWords(size int, count int) int {
	if !within(size, SizeMany) || !within(count, listEnd) {
		return -1
	}
	return wordsFor(size, count)
}
