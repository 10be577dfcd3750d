package tests

import (
	"fmt"
	"math"
	"math/rand"
	"slices"
	"strings"
	"testing"

	"loop.example/quoin/impl"
)

// spanIn is the bits of an access that is no pointer, told from the document.
func spanIn(a impl.Access) span {
	if a.Kind == impl.AccessBit {
		return span{a.At, a.At + 1}
	}
	return span{8 * a.At, 8 * (a.At + a.Size)}
}

// bytesOf is the bytes in which some bits are, as bits.
func bytesOf(s span) span {
	return span{s.from / 8 * 8, (s.to + 7) / 8 * 8}
}

// accessOkIn says whether an access is ok, told from the document.
func accessOkIn(a impl.Access) bool {
	if !nameForm.MatchString(a.Name) || a.At < 0 || a.At > 12799 {
		return false
	}
	switch {
	case a.Tag == -1 && a.Place == 0:
	case a.Tag >= 0 && a.Tag <= 1598 && a.Tag%2 == 0 && a.Place >= 0 && a.Place <= 65535:
	default:
		return false
	}
	meets := func() bool {
		return a.Tag >= 0 && bytesOf(spanIn(a)).meets(span{8 * a.Tag, 8 * (a.Tag + 2)})
	}
	switch a.Kind {
	case impl.AccessBit:
		return (a.Turn == 0 || a.Turn == 1) && a.Size == 0 && !meets()
	case impl.AccessNum:
		if !slices.Contains([]int{1, 2, 4, 8}, a.Size) || a.At%a.Size != 0 || a.Turn > mostNumber || a.Turn < -mostNumber {
			return false
		}
		return (a.Size == 8 || a.Turn >= 0 && a.Turn < 1<<(8*a.Size)) && !meets()
	case impl.AccessPoint:
		return a.Size == 0 && a.Turn == 0
	}
	return false
}

// lineIn is the line of an access, told from the document.
func lineIn(a impl.Access) string {
	line := map[int]string{
		impl.AccessBit:   fmt.Sprintf("%s is bit %d turned %d", a.Name, a.At, a.Turn),
		impl.AccessNum:   fmt.Sprintf("%s is bytes %d size %d turned %d", a.Name, a.At, a.Size, a.Turn),
		impl.AccessPoint: fmt.Sprintf("%s is pointer %d", a.Name, a.At),
	}[a.Kind]
	if a.Tag != -1 {
		line += fmt.Sprintf(" if %d tells %d", a.Tag, a.Place)
	}
	return line
}

// toldIn says whether the tag of an access tells its place, told from the document.
func toldIn(a impl.Access, n impl.Node) bool {
	return a.Tag == -1 || numberIn(n.Data, 8*a.Tag, 16, 0) == a.Place
}

// gotIn is what an access gets, told from the document.
func gotIn(a impl.Access, n impl.Node) (impl.Val, bool) {
	switch {
	case !toldIn(a, n):
		return impl.Val{}, false
	case a.Kind != impl.AccessPoint:
		s := spanIn(a)
		return impl.Val{Num: numberIn(n.Data, s.from, s.to-s.from, a.Turn)}, true
	case a.At < len(n.Ptrs):
		return impl.Val{Node: n.Ptrs[a.At]}, true
	}
	return impl.Val{}, true
}

// putByIn is what an access puts, and whether it does, told from the document.
func putByIn(a impl.Access, n impl.Node, num int) (impl.Node, bool) {
	if a.Kind == impl.AccessPoint {
		return n, false
	}
	s, end := spanIn(a), 8*len(n.Data)
	bits := s.to - s.from
	if s.to > end || a.Tag != -1 && 8*(a.Tag+2) > end || bits < 64 && (num < 0 || num >= 1<<bits) {
		return n, false
	}
	n.Data = withNumber(n.Data, s.from, bits, a.Turn, num)
	if a.Tag != -1 {
		n.Data = withNumber(n.Data, 8*a.Tag, 16, 0, a.Place)
	}
	return n, true
}

// accessesIn is how each field of a struct is got, told from the document.
func accessesIn(s impl.Schema, name string) []impl.Access {
	var out []impl.Access
	fields := fieldsIn(s, name)
	l := layoutIn(fields)
	places, choices := placesIn(fields)
	for at, d := range declsIn(s, name) {
		a := impl.Access{Name: d.Name, At: l.Slots[at].At, Turn: d.Else, Tag: -1}
		switch bits := bitsIn(fields[at].Size); bits {
		case 0:
			a.Kind = impl.AccessPoint
		case 1:
			a.Kind = impl.AccessBit
		default:
			a.Kind, a.Size, a.At = impl.AccessNum, bits/8, a.At*bits/8
		}
		if d.Choice && choices > 1 {
			a.Tag, a.Place = 2*l.Tag, places[at]
		}
		out = append(out, a)
	}
	return out
}

// someAccess is an access that is ok, mostly of what short records have.
func someAccess(r *rand.Rand) impl.Access {
	for {
		a := impl.Access{Name: fieldPool[r.Intn(len(fieldPool))], Kind: 1 + r.Intn(3), Tag: -1, At: r.Intn(40)}
		if r.Intn(5) == 0 {
			a.At = []int{12799, 12792, 1599, 1598, 1592, 1600, 6400, r.Intn(12800)}[r.Intn(8)]
		}
		switch a.Kind {
		case impl.AccessBit:
			a.Turn = r.Intn(2)
		case impl.AccessNum:
			a.Size = 1 << r.Intn(4)
			a.At -= a.At % a.Size
			nums := numbersOf(r, a.Size)
			a.Turn = nums[r.Intn(len(nums))]
		}
		if r.Intn(2) == 0 {
			a.Tag, a.Place = 2*r.Intn(20), []int{0, 0, 1, 2, 256, 65535}[r.Intn(6)]
			if r.Intn(5) == 0 {
				a.Tag = []int{1598, 1596, 2 * r.Intn(800)}[r.Intn(3)]
			}
		}
		if accessOkIn(a) {
			return a
		}
	}
}

// changedAccess is an access with one part that is another one, so that it need not be ok.
func changedAccess(r *rand.Rand, a impl.Access) impl.Access {
	numbers := append(strange(), 0, 1, 2, 3, 4, 5, 8, 16, 255, 256, 1597, 1598, 1599, 1600, 12799, 12800, 65535, 65536, 1<<32-1, mostNumber, mostNumber+1, -mostNumber, -mostNumber-1, a.At+1, a.At-1, a.At+2, a.At-2, a.At/8, a.At/8+1, a.At/8-1, a.Tag+1, a.Tag+2, a.Tag-1, 8*a.Tag, 8*a.Tag+15, 8*a.Tag+16)
	number := numbers[r.Intn(len(numbers))]
	switch r.Intn(7) {
	case 0:
		names := []string{"", "a", "1a", "a b", "a-b", "abcdefghij", "abcdefghijk", "is", " a", "\xe9", "a\n"}
		a.Name = names[r.Intn(len(names))]
	case 1:
		a.Kind = number
	case 2:
		a.At = number
	case 3:
		a.Size = number
	case 4:
		a.Turn = number
	case 5:
		a.Tag = number
	case 6:
		a.Place = number
	}
	return a
}

// recordFor is a record for an access: it often ends about where that gets something, and often has its place at its tag.
func recordFor(r *rand.Rand, a impl.Access) impl.Node {
	last := spanIn(a).from / 64
	ends := []int{0, 1, 2, 5, a.Tag/8 + 1, last, last + 1, last + 1, max(last, a.Tag/8) + 1, 190}
	data := someBytes(r, 8*min(ends[r.Intn(len(ends))], 190))
	if a.Tag >= 0 && a.Tag < len(data) && r.Intn(3) > 0 {
		data = withNumber(data, 8*a.Tag, 16, 0, a.Place)
	}
	ptrs := []int{0, 1, 3, a.At, a.At + 1}
	n := structNode(data, somePtrs(r, min(ptrs[r.Intn(len(ptrs))], 40), 2)...)
	if !okIn(n) {
		return structNode(data)
	}
	return n
}

// checkGot checks that an access gets from a record what the document tells, and says whether it is there.
func checkGot(t *testing.T, a impl.Access, n impl.Node) bool {
	t.Helper()
	v, ok := impl.AccessGet(a, n)
	if want, there := gotIn(a, n); ok != there || !sameVal(v, want) {
		t.Fatalf("%+v gets of %+v %+v, %v, not %+v, %v", a, n, v, ok, want, there)
	}
	return ok
}

// checkPut checks that an access puts a number into a struct, or not, as the document tells, and says whether it does.
func checkPut(t *testing.T, a impl.Access, n impl.Node, num int) bool {
	t.Helper()
	m, ok := impl.AccessPut(a, n, num)
	if want, puts := putByIn(a, n, num); ok != puts || !impl.NodeSame(m, want) {
		t.Fatalf("%+v puts %d into %+v: %+v, %v, not %+v, %v", a, num, n, m, ok, want, puts)
	}
	return ok
}

// checkNoAccess checks that an access that is not ok does nothing.
func checkNoAccess(t *testing.T, a impl.Access) {
	t.Helper()
	if impl.AccessOk(a) || impl.AccessText(a) != "" {
		t.Errorf("%+v is ok, or written as %q", a, impl.AccessText(a))
	}
	for _, n := range []impl.Node{{}, structNode(""), structNode(noughts(20), times(impl.Node{}, 20)...), structNode(strings.Repeat("\xff", 80), structNode(""))} {
		v, got := impl.AccessGet(a, n)
		m, puts := impl.AccessPut(a, n, 0)
		if got || puts || !sameVal(v, impl.Val{}) || !isNothing(m) {
			t.Errorf("%+v does %+v, %v, %+v, %v with %+v", a, v, got, m, puts, n)
		}
	}
}

// accessOf is an access of such parts.
func accessOf(name string, kind, at, size, turn, tag, place int) impl.Access {
	return impl.Access{Name: name, Kind: kind, At: at, Size: size, Turn: turn, Tag: tag, Place: place}
}

// edgeAccesses are accesses at the bounds of what is ok, by their lines.
func edgeAccesses() map[string]impl.Access {
	return map[string]impl.Access{
		"a is bit 0 turned 0":                             accessOf("a", impl.AccessBit, 0, 0, 0, -1, 0),
		"abcdefghi9 is bit 12799 turned 1":                accessOf("abcdefghi9", impl.AccessBit, 12799, 0, 1, -1, 0),
		"Z is bit 16 turned 1 if 0 tells 65535":           accessOf("Z", impl.AccessBit, 16, 0, 1, 0, 65535),
		"a is bit 15 turned 0 if 2 tells 0":               accessOf("a", impl.AccessBit, 15, 0, 0, 2, 0),
		"a is bit 32 turned 0 if 2 tells 1":               accessOf("a", impl.AccessBit, 32, 0, 0, 2, 1),
		"a is bit 12783 turned 0 if 1598 tells 1":         accessOf("a", impl.AccessBit, 12783, 0, 0, 1598, 1),
		"a is bytes 0 size 1 turned 0":                    accessOf("a", impl.AccessNum, 0, 1, 0, -1, 0),
		"a is bytes 1 size 1 turned 255":                  accessOf("a", impl.AccessNum, 1, 1, 255, -1, 0),
		"a is bytes 12799 size 1 turned 255":              accessOf("a", impl.AccessNum, 12799, 1, 255, -1, 0),
		"a is bytes 12798 size 2 turned 65535":            accessOf("a", impl.AccessNum, 12798, 2, 65535, -1, 0),
		"a is bytes 12796 size 4 turned 4294967295":       accessOf("a", impl.AccessNum, 12796, 4, 1<<32-1, -1, 0),
		"a is bytes 12792 size 8 turned -1":               accessOf("a", impl.AccessNum, 12792, 8, -1, -1, 0),
		"a is bytes 8 size 8 turned 999999999999999999":   accessOf("a", impl.AccessNum, 8, 8, mostNumber, -1, 0),
		"a is bytes 8 size 8 turned -999999999999999999":  accessOf("a", impl.AccessNum, 8, 8, -mostNumber, -1, 0),
		"a is bytes 1600 size 8 turned 0":                 accessOf("a", impl.AccessNum, 1600, 8, 0, -1, 0),
		"a is bytes 1 size 1 turned 0 if 2 tells 0":       accessOf("a", impl.AccessNum, 1, 1, 0, 2, 0),
		"a is bytes 4 size 1 turned 0 if 2 tells 0":       accessOf("a", impl.AccessNum, 4, 1, 0, 2, 0),
		"a is bytes 0 size 2 turned 0 if 2 tells 0":       accessOf("a", impl.AccessNum, 0, 2, 0, 2, 0),
		"a is bytes 4 size 4 turned 0 if 2 tells 0":       accessOf("a", impl.AccessNum, 4, 4, 0, 2, 0),
		"a is bytes 8 size 8 turned 0 if 6 tells 3":       accessOf("a", impl.AccessNum, 8, 8, 0, 6, 3),
		"a is bytes 0 size 8 turned -5 if 8 tells 3":      accessOf("a", impl.AccessNum, 0, 8, -5, 8, 3),
		"a is bytes 1598 size 2 turned 0 if 1596 tells 3": accessOf("a", impl.AccessNum, 1598, 2, 0, 1596, 3),
		"a is pointer 0":                                  accessOf("a", impl.AccessPoint, 0, 0, 0, -1, 0),
		"a is pointer 12799 if 1598 tells 65535":          accessOf("a", impl.AccessPoint, 12799, 0, 0, 1598, 65535),
		"a is pointer 2 if 2 tells 0":                     accessOf("a", impl.AccessPoint, 2, 0, 0, 2, 0),
		"is is bit 1 turned 1":                            accessOf("is", impl.AccessBit, 1, 0, 1, -1, 0),
		"bit is bytes 2 size 1 turned 1":                  accessOf("bit", impl.AccessNum, 2, 1, 1, -1, 0),
		"if is pointer 1 if 4 tells 5":                    accessOf("if", impl.AccessPoint, 1, 0, 0, 4, 5),
		"pointer is pointer 1":                            accessOf("pointer", impl.AccessPoint, 1, 0, 0, -1, 0),
	}
}

// Promise 75.
func TestAccessIsReadBackFromItsLine(t *testing.T) {
	checkLine := func(a impl.Access, line string) {
		t.Helper()
		if !impl.AccessOk(a) || !accessOkIn(a) || impl.AccessText(a) != line {
			t.Fatalf("%+v is ok %v, and written as %q, not %q", a, impl.AccessOk(a), impl.AccessText(a), line)
		}
		if x, ok := impl.AccessRead(line); !ok || x != a {
			t.Fatalf("%q is read as %+v, %v", line, x, ok)
		}
	}
	for line, a := range edgeAccesses() {
		checkLine(a, line)
	}
	r := rand.New(rand.NewSource(110))
	not := 0
	for range 20000 {
		a := someAccess(r)
		checkLine(a, lineIn(a))
		x := changedAccess(r, a)
		if accessOkIn(x) {
			checkLine(x, lineIn(x))
			continue
		}
		not++
		checkNoAccess(t, x)
		if y, ok := impl.AccessRead(lineIn(x)); ok && (y == x || lineIn(y) != lineIn(x)) {
			t.Fatalf("%q is read as %+v", lineIn(x), y)
		}
	}
	if not < 5000 {
		t.Errorf("just %d are not ok", not)
	}
}

// Promise 75: what is no access.
func TestAccessesThatAreNotOk(t *testing.T) {
	bit, num, point := accessOf("a", impl.AccessBit, 0, 0, 0, -1, 0), accessOf("a", impl.AccessNum, 0, 2, 0, -1, 0), accessOf("a", impl.AccessPoint, 0, 0, 0, -1, 0)
	for _, a := range []impl.Access{bit, num, point} {
		if !impl.AccessOk(a) {
			t.Errorf("%+v is not ok", a)
		}
		for _, name := range []string{"", "1", "1a", "a b", "a-b", "a_b", "abcdefghijk", " a", "a ", "\xe9", "\x00", "a\n", "-"} {
			x := a
			x.Name = name
			checkNoAccess(t, x)
		}
		for _, at := range append(strange(), 12800, 12801, 100000) {
			x := a
			x.At = at
			checkNoAccess(t, x)
		}
		for _, tag := range append(strange(), -2, -3, 5, 7, 9, 1597, 1599, 1600, 1602, 12800) {
			x := a
			if x.Tag = tag; tag != -1 {
				checkNoAccess(t, x)
			}
		}
		for _, place := range append(strange(), 65536, 65537) {
			x := a
			x.Tag, x.Place = 8, place
			checkNoAccess(t, x)
		}
		for _, place := range append(strange(), 1, 65535) {
			x := a
			x.Place = place
			checkNoAccess(t, x)
		}
		for _, kind := range append(strange(), 0, 4, 5) {
			x := a
			x.Kind = kind
			checkNoAccess(t, x)
		}
		for _, size := range append(strange(), 3, 5, 6, 7, 9, 12, 16, 64) {
			x := a
			x.Size = size
			checkNoAccess(t, x)
		}
	}
	checkNoAccess(t, impl.Access{})
	checkNoAccess(t, impl.Access{Tag: -1})
	for _, a := range []impl.Access{
		accessOf("a", impl.AccessBit, 0, 1, 0, -1, 0), accessOf("a", impl.AccessBit, 0, 0, 2, -1, 0), accessOf("a", impl.AccessBit, 0, 0, -1, -1, 0), accessOf("a", impl.AccessBit, 0, 0, math.MinInt, -1, 0),
		accessOf("a", impl.AccessNum, 0, 0, 0, -1, 0), accessOf("a", impl.AccessNum, 1, 2, 0, -1, 0), accessOf("a", impl.AccessNum, 2, 4, 0, -1, 0), accessOf("a", impl.AccessNum, 4, 8, 0, -1, 0), accessOf("a", impl.AccessNum, 12799, 8, 0, -1, 0), accessOf("a", impl.AccessNum, 0, 1, 256, -1, 0), accessOf("a", impl.AccessNum, 0, 1, -1, -1, 0), accessOf("a", impl.AccessNum, 0, 2, 65536, -1, 0), accessOf("a", impl.AccessNum, 0, 4, 1<<32, -1, 0), accessOf("a", impl.AccessNum, 0, 4, -1, -1, 0), accessOf("a", impl.AccessNum, 0, 8, mostNumber+1, -1, 0), accessOf("a", impl.AccessNum, 0, 8, -mostNumber-1, -1, 0), accessOf("a", impl.AccessNum, 0, 8, math.MinInt, -1, 0), accessOf("a", impl.AccessNum, 0, 8, math.MaxInt, -1, 0),
		accessOf("a", impl.AccessPoint, 0, 1, 0, -1, 0), accessOf("a", impl.AccessPoint, 0, 0, 1, -1, 0), accessOf("a", impl.AccessPoint, 0, 0, -1, -1, 0),

		// Bits and bytes that are those of the tag.
		accessOf("a", impl.AccessBit, 0, 0, 0, 0, 0), accessOf("a", impl.AccessBit, 15, 0, 0, 0, 0), accessOf("a", impl.AccessBit, 16, 0, 0, 2, 0), accessOf("a", impl.AccessBit, 24, 0, 0, 2, 0), accessOf("a", impl.AccessBit, 31, 0, 0, 2, 0), accessOf("a", impl.AccessBit, 12784, 0, 0, 1598, 0), accessOf("a", impl.AccessNum, 0, 1, 0, 0, 0), accessOf("a", impl.AccessNum, 1, 1, 0, 0, 0), accessOf("a", impl.AccessNum, 2, 2, 0, 2, 1), accessOf("a", impl.AccessNum, 0, 4, 0, 0, 1), accessOf("a", impl.AccessNum, 0, 4, 0, 2, 1), accessOf("a", impl.AccessNum, 0, 8, 0, 0, 1), accessOf("a", impl.AccessNum, 0, 8, 0, 6, 1), accessOf("a", impl.AccessNum, 8, 8, 0, 12, 1), accessOf("a", impl.AccessNum, 1592, 8, 0, 1598, 1),
	} {
		checkNoAccess(t, a)
	}
}

// Promise 75: what no access is written as.
func TestLinesThatAreNoAccess(t *testing.T) {
	for _, line := range []string{
		"", " ", "a", "a is", "a is ", "is bit 0 turned 0", " is bit 0 turned 0", "a bit 0 turned 0", "a is 0", "a is bit", "a is bit ", "a is bit 0", "a is bit 0 ", "a is bit 0 turned", "a is bit 0 turned ", "a is bit turned 0", "a is bit 0 turned 0 ", " a is bit 0 turned 0", "a is bit 0 turned 0\n", "a  is bit 0 turned 0", "a is  bit 0 turned 0", "a is bit  0 turned 0", "a is bit 0  turned 0", "a is bit 0 turned  0", "a is bit 0\tturned 0", "a is Bit 0 turned 0", "A Is bit 0 turned 0", "a is bits 0 turned 0", "a is bit 0 size 1 turned 0", "a is bit 0 turned 0 turned 0", "a is bit 0turned 0", "a is bit0 turned 0", "a is bit 0 turned 2", "a is bit 0 turned -1", "a is bit -1 turned 0", "a is bit 12800 turned 0", "a is bit 00 turned 0", "a is bit -0 turned 0", "a is bit +0 turned 0", "a is bit 0 turned 00", "a is bit 0 turned 01", "a is bit 0 turned -0", "a is bit x turned 0", "a is bit 0 turned x", "a is bit 0 turned 0 a", "1 is bit 0 turned 0", "a-b is bit 0 turned 0", "- is bit 0 turned 0", "abcdefghijk is bit 0 turned 0", "\xe9 is bit 0 turned 0", "a b is bit 0 turned 0",
		"a is bytes 0", "a is bytes 0 turned 0", "a is bytes 0 size 0 turned 0", "a is bytes 0 size 3 turned 0", "a is bytes 0 size 16 turned 0", "a is bytes 1 size 2 turned 0", "a is bytes 4 size 8 turned 0", "a is bytes 0 size 01 turned 0", "a is bytes 0 size 1 turned 256", "a is bytes 0 size 1 turned -1", "a is bytes 0 size 8 turned 1000000000000000000", "a is bytes 0 size 8 turned -1000000000000000000", "a is bytes 0 size 8 turned 9223372036854775807", "a is bytes 0 size 8 turned 99999999999999999999", "a is bytes 0 size 8 turned --1", "a is bytes 0 size 8 turned 0x1", "a is bytes 0 turned 0 size 1", "a is byte 0 size 1 turned 0", "a is bytes 0 size 1", "a is bytes size 1 turned 0", "a is bytes 12800 size 1 turned 0", "a is bytes 18446744073709551616 size 1 turned 0",
		"a is pointer", "a is pointer ", "a is pointer 0 ", "a is pointer 00", "a is pointer -1", "a is pointer 12800", "a is pointer 0 turned 0", "a is pointers 0", "a is pointer 0 if", "a is pointer 0 if ", "a is pointer 0 if 2", "a is pointer 0 if 2 ", "a is pointer 0 if 2 tells", "a is pointer 0 if 2 tells ", "a is pointer 0 if tells 0", "a is pointer 0 if 2 tell 0", "a is pointer 0 tells 0", "a is pointer 0 if 2 tells 0 ", "a is pointer 0 if 2 tells 0 if 2 tells 0", "a is pointer 0  if 2 tells 0", "a is pointer 0 if 2 tells 00", "a is pointer 0 if 02 tells 0", "a is pointer 0 if -0 tells 0", "a is pointer 0 if -1 tells 0", "a is pointer 0 if -1 tells 1", "a is pointer 0 if -2 tells 0", "a is pointer 0 if 1 tells 0", "a is pointer 0 if 1599 tells 0", "a is pointer 0 if 1600 tells 0", "a is pointer 0 if 2 tells 65536", "a is pointer 0 if 2 tells -1", "a is pointer 0if 2 tells 0", "a is pointer 0 IF 2 tells 0",
		"a is bit 16 turned 0 if 2 tells 0", "a is bit 31 turned 0 if 2 tells 0", "a is bytes 2 size 2 turned 0 if 2 tells 0", "a is bytes 0 size 8 turned 0 if 2 tells 0", "a is bytes 3 size 1 turned 0 if 2 tells 0", "a is nothing 0", "a is 1 0", "a are bit 0 turned 0",
	} {
		if a, ok := impl.AccessRead(line); ok || a != (impl.Access{}) {
			t.Errorf("%q is read as %+v, %v", line, a, ok)
		}
	}
	for _, long := range []string{strings.Repeat("a", 1000000), "a is bit " + strings.Repeat("1", 1000000), strings.Repeat("a is bit 0 turned 0 ", 50000)} {
		if a, ok := impl.AccessRead(long); ok || a != (impl.Access{}) {
			t.Errorf("a long line is read as %+v, %v", a, ok)
		}
	}
}

// Promise 75: what is read of any line is written as that line.
func TestWhatIsReadOfAnyLine(t *testing.T) {
	r := rand.New(rand.NewSource(111))
	bits := []string{" ", "  ", "0", "1", "2", "-", "-1", "a", "is", " is ", "bit", "bytes", "pointer", " turned ", " size ", " if ", " tells ", "\x00", "\n", "8", "00"}
	read := 0
	for range 100000 {
		line := lineIn(someAccess(r))
		for range r.Intn(3) {
			at := r.Intn(len(line) + 1)
			line = line[:at] + bits[r.Intn(len(bits))] + line[min(len(line), at+r.Intn(3)):]
		}
		a, ok := impl.AccessRead(line)
		if !ok {
			if a != (impl.Access{}) {
				t.Fatalf("%q is not read, but as %+v", line, a)
			}
			continue
		}
		read++
		if !accessOkIn(a) || lineIn(a) != line || impl.AccessText(a) != line {
			t.Fatalf("%q is read as %+v", line, a)
		}
	}
	if read < 20000 {
		t.Errorf("just %d were read", read)
	}
}

// someAccesses does something with the accesses of structs of schemas that are fine.
func someAccesses(t *testing.T, seed int64, count int, do func(r *rand.Rand, fields []impl.Field, list []impl.Access)) {
	t.Helper()
	r := rand.New(rand.NewSource(seed))
	all := append(someSchemas(t, seed, count), schemaOf(t, edgeSchema))
	for _, s := range all {
		for _, x := range s.Structs {
			list, ok := impl.AccessOf(s, x.Name)
			if want := accessesIn(s, x.Name); !ok || !slices.Equal(list, want) {
				t.Fatalf("%s of %q is got by %+v, not %+v", x.Name, textIn(s), list, want)
			}
			do(r, fieldsIn(s, x.Name), list)
		}
	}
}

// Promise 71.
func TestWhatAProgramWouldDoToGetAField(t *testing.T) {
	got, not := 0, 0
	none := append(badNodes()[:3], manyNode(structNode("abcdefgh")), pointNode(), dataNode(impl.SizeEight, 1, "abcdefgh"), chain(9))
	someAccesses(t, 112, 400, func(r *rand.Rand, fields []impl.Field, list []impl.Access) {
		nodes := append(recordsOf(r, fields), none...)
		for at, a := range list {
			if !impl.AccessOk(a) || !accessOkIn(a) {
				t.Fatalf("%+v is not ok", a)
			}
			for _, n := range nodes {
				v, ok := impl.AccessGet(a, n)
				want, there := impl.RecordGet(fields, n, at)
				if ok != there || !sameVal(v, want) {
					t.Fatalf("%+v gets of %+v %+v, %v, and the field is %+v, %v", a, n, v, ok, want, there)
				}
				if ok {
					got++
				} else {
					not++
				}
			}
		}
	})
	if got < 10000 || not < 5000 {
		t.Errorf("%d were got, %d were not", got, not)
	}
}

// Promise 71: just these, and those of no struct.
func TestAccessesOfStructs(t *testing.T) {
	s := schemaOf(t, "struct A { b @1 :Bool = 1; a @0 :U8 = 5; or c @2 :I64 = -7; or d @3 :Text; e @4 :E = 1; or f @5 :Bool; l @6 :List(U8); p @7 :A; } struct B { or a @0 :U16; x @1 :U32 = 9; } enum E { q r }")
	for name, want := range map[string][]string{
		"A": {"a is bytes 0 size 1 turned 5", "b is bit 8 turned 1", "c is bytes 8 size 8 turned -7 if 2 tells 0", "d is pointer 0 if 2 tells 1", "e is bytes 4 size 2 turned 1", "f is bit 64 turned 0 if 2 tells 2", "l is pointer 1", "p is pointer 2"},
		"B": {"a is bytes 0 size 2 turned 0", "x is bytes 4 size 4 turned 9"},
	} {
		list, ok := impl.AccessOf(s, name)
		if !ok || len(list) != len(want) {
			t.Fatalf("%s has %+v", name, list)
		}
		for i, a := range list {
			if impl.AccessText(a) != want[i] {
				t.Errorf("field %d of %s: %q, not %q", i, name, impl.AccessText(a), want[i])
			}
		}
	}
	none := func(s impl.Schema, name string) {
		t.Helper()
		if list, ok := impl.AccessOf(s, name); ok || len(list) != 0 {
			t.Errorf("%q of %q has %+v, %v", name, textIn(s), list, ok)
		}
	}
	for _, name := range []string{"", "E", "a", "C", "U8", "Text", "List", "A ", "AB"} {
		none(s, name)
	}
	none(impl.Schema{}, "A")
	none(impl.Schema{}, "")
	r := rand.New(rand.NewSource(113))
	for range 2000 {
		if x := changedSchema(r, someSchema(r)); checkIn(x) != impl.IdlFine && len(x.Structs) > 0 {
			none(x, x.Structs[r.Intn(len(x.Structs))].Name)
		}
	}
}

// Promises 71 and 72: any access, and any record.
func TestWhatIsGotByAnyAccess(t *testing.T) {
	r := rand.New(rand.NewSource(114))
	got, not := 0, 0
	for range 20000 {
		a := someAccess(r)
		n := recordFor(r, a)
		was := copied(n)
		if checkGot(t, a, n) {
			got++
		} else {
			not++
		}
		checkGot(t, a, impl.Node{})
		if !impl.NodeSame(n, was) {
			t.Fatalf("%+v has changed to %+v", was, n)
		}
	}
	if got < 5000 || not < 2000 {
		t.Errorf("%d were got, %d were not", got, not)
	}
	for _, a := range edgeAccesses() {
		for _, n := range append(badNodes(), manyNode(), pointNode(structNode("")), dataNode(impl.SizeOne, 8, "abcdefgh")) {
			v, ok := impl.AccessGet(a, n)
			m, puts := impl.AccessPut(a, n, 0)
			if ok || puts || !sameVal(v, impl.Val{}) || !isNothing(m) {
				t.Errorf("%+v does %+v, %v, %+v, %v with what is no record", a, v, ok, m, puts)
			}
		}
		for words := range 199 {
			checkGot(t, a, structNode(strings.Repeat("\x81\xff\x7f\x00\x01\x02\x03\x80", words)))
		}
	}
}

// Promise 72.
func TestFieldIsGotIfItsTagTellsSo(t *testing.T) {
	tagged := 0
	someAccesses(t, 115, 300, func(r *rand.Rand, fields []impl.Field, list []impl.Access) {
		l := layoutIn(fields)
		data := someBytes(r, 8*l.Data)
		for _, tag := range []int{0, 1, 2, 3, 7, 8, 255, 256, 257, 32768, 65535} {
			n := structNode(data, somePtrs(r, l.Ptrs, 1)...)
			if l.Tag >= 0 {
				n.Data = withNumber(data, 16*l.Tag, 16, 0, tag)
			}
			for _, a := range list {
				ok := checkGot(t, a, n)
				if ok != (a.Tag == -1 || a.Place == tag) {
					t.Fatalf("%+v is got by %d: %v", a, tag, ok)
				}
				if a.Tag != -1 {
					tagged++
				}
			}
		}
		for _, a := range list {
			for _, n := range []impl.Node{{}, structNode(""), structNode(noughts(l.Data), times(impl.Node{}, l.Ptrs)...)} {
				v, ok := impl.AccessGet(a, n)
				want := impl.Val{Num: a.Turn}
				if a.Place != 0 {
					want = impl.Val{}
				}
				if ok != (a.Place == 0) || !sameVal(v, want) {
					t.Fatalf("%+v gets of nothing %+v, %v", a, v, ok)
				}
			}
		}
	})
	if tagged < 10000 {
		t.Errorf("just %d have a tag", tagged)
	}
}

// Promise 72: a tag that is there in part only may not be, as words are whole; one behind the end tells 0.
func TestTagThatIsNotThere(t *testing.T) {
	for _, tag := range []int{0, 2, 6, 8, 14, 16, 1590, 1592, 1598} {
		for _, place := range []int{0, 1, 255, 256, 65535} {
			for _, a := range []impl.Access{accessOf("a", impl.AccessBit, 800, 0, 1, tag, place), accessOf("a", impl.AccessNum, 800, 4, 77, tag, place), accessOf("a", impl.AccessPoint, 0, 0, 0, tag, place)} {
				for words := range 198 {
					n := structNode(noughts(words), structNode("abcdefgh"))
					if checkGot(t, a, n) != (place == 0) {
						t.Fatalf("%+v is got of %d words by a tag that tells 0", a, words)
					}
					if tag/8 < words {
						n.Data = withNumber(n.Data, 8*tag, 16, 0, place)
						if !checkGot(t, a, n) {
							t.Fatalf("%+v is not got of %d words", a, words)
						}
						n.Data = withNumber(n.Data, 8*tag, 16, 0, place^256)
						if checkGot(t, a, n) {
							t.Fatalf("%+v is got of %d words by another tag", a, words)
						}
					}
				}
			}
		}
	}
}

// numbersFor are numbers of which some fit what an access puts into, and some do not.
func numbersFor(r *rand.Rand, a impl.Access) []int {
	bits := 64
	if a.Kind == impl.AccessBit {
		bits = 1
	} else if a.Kind == impl.AccessNum {
		bits = 8 * a.Size
	}
	if bits == 64 {
		return []int{0, 1, -1, math.MinInt, math.MaxInt, a.Turn, ^a.Turn, mostNumber + 1, int(r.Uint64())}
	}
	end := 1 << bits
	return []int{0, 1, end - 1, end / 2, a.Turn, r.Intn(end), end, end + 1, 2 * end, -1, -end, end | a.Turn, math.MinInt, math.MaxInt}
}

// Promise 73.
func TestNumberThatWasPutIntoAField(t *testing.T) {
	r := rand.New(rand.NewSource(116))
	puts, not := 0, 0
	for range 5000 {
		a := someAccess(r)
		n := recordFor(r, a)
		keep := copied(n)
		was, there := impl.AccessGet(a, n)
		for _, num := range numbersFor(r, a) {
			if !checkPut(t, a, n, num) {
				not++
				continue
			}
			puts++
			m, _ := impl.AccessPut(a, n, num)
			if v, ok := impl.AccessGet(a, m); !ok || !sameVal(v, impl.Val{Num: num}) {
				t.Fatalf("%+v puts %d into %+v, and gets %+v, %v", a, num, n, v, ok)
			}
			if back, ok := impl.AccessPut(a, m, was.Num); there && (!ok || !impl.NodeSame(back, n)) {
				t.Fatalf("%+v puts %d back into %+v: %+v, %v, not %+v", a, was.Num, m, back, ok, n)
			}
		}
		if !impl.NodeSame(n, keep) {
			t.Fatalf("%+v has changed to %+v", keep, n)
		}
	}
	if puts < 8000 || not < 8000 {
		t.Errorf("%d were put, %d were not", puts, not)
	}
}

// Promise 73: what is not there, or does not fit, or is no struct.
func TestEdgesOfWhatIsPutIntoAField(t *testing.T) {
	for _, a := range edgeAccesses() {
		for words := range 198 {
			n := structNode(strings.Repeat("\x81\xff\x7f\x00\x01\x02\x03\x80", words), structNode("abcdefgh"))
			for _, num := range []int{0, 1, 2, -1, 255, 256} {
				checkPut(t, a, n, num)
			}
		}
		if m, ok := impl.AccessPut(a, impl.Node{}, 0); ok || !isNothing(m) {
			t.Errorf("%+v puts into nothing: %+v, %v", a, m, ok)
		}
	}
	ff := structNode(strings.Repeat("\xff", 8))
	for _, c := range []struct {
		line string
		num  int
		hex  string
	}{
		{"a is bit 9 turned 0", 0, "fffdffffffffffff"}, {"a is bit 9 turned 1", 1, "fffdffffffffffff"}, {"a is bit 9 turned 1", 0, "ffffffffffffffff"}, {"a is bit 63 turned 0", 0, "ffffffffffffff7f"}, {"a is bit 64 turned 0", 0, ""}, {"a is bit 9 turned 0", 2, ""}, {"a is bit 9 turned 1", 2, ""}, {"a is bit 9 turned 1", 3, ""}, {"a is bit 9 turned 0", -1, ""}, {"a is bit 9 turned 1", -2, ""},
		{"a is bytes 2 size 2 turned 0", 258, "ffff0201ffffffff"}, {"a is bytes 2 size 2 turned 3", 258, "ffff0101ffffffff"}, {"a is bytes 2 size 2 turned 3", 65536, ""}, {"a is bytes 2 size 2 turned 3", -1, ""}, {"a is bytes 7 size 1 turned 255", 255, "ffffffffffffff00"}, {"a is bytes 8 size 1 turned 255", 255, ""}, {"a is bytes 0 size 8 turned -1", math.MinInt, "ffffffffffffff7f"}, {"a is bytes 0 size 8 turned 0", math.MinInt, "0000000000000080"}, {"a is bytes 8 size 8 turned 0", 1, ""}, {"a is bytes 0 size 4 turned 0", 1 << 32, ""}, {"a is bytes 4 size 4 turned 0", 1, "ffffffff01000000"},
		{"a is bit 0 turned 0 if 2 tells 258", 0, "feff0201ffffffff"}, {"a is bytes 4 size 4 turned 0 if 0 tells 1", 7, "0100ffff07000000"}, {"a is bytes 4 size 4 turned 0 if 8 tells 1", 7, ""}, {"a is bytes 8 size 4 turned 0 if 0 tells 1", 7, ""}, {"a is bytes 4 size 1 turned 0 if 0 tells 1", 256, ""}, {"a is bit 64 turned 0 if 2 tells 1", 0, ""},
		{"a is pointer 0", 0, ""}, {"a is pointer 0", 1, ""}, {"a is pointer 1 if 2 tells 1", 0, ""},
	} {
		a, read := impl.AccessRead(c.line)
		want := c.hex
		if want == "" {
			want = impl.Hex(ff.Data)
		}
		m, ok := impl.AccessPut(a, ff, c.num)
		if !read || ok != (c.hex != "") || impl.Hex(m.Data) != want || m.Kind != impl.NodeStruct {
			t.Errorf("%s puts %d: %x, %v", c.line, c.num, m.Data, ok)
		}
		checkPut(t, a, ff, c.num)
	}
}

// Promise 74.
func TestWhatIsPutByAnAccessIsSetByTheFields(t *testing.T) {
	puts, not := 0, 0
	someAccesses(t, 117, 400, func(r *rand.Rand, fields []impl.Field, list []impl.Access) {
		l := layoutIn(fields)
		for range 3 {
			n := structNode(someBytes(r, 8*(l.Data+r.Intn(3))), somePtrs(r, l.Ptrs+r.Intn(2), 2)...)
			if !okIn(n) {
				continue
			}
			for at, a := range list {
				if fields[at].Choice || a.Kind == impl.AccessPoint {
					continue
				}
				for _, num := range numbersFor(r, a) {
					m, ok := impl.AccessPut(a, n, num)
					want, set := impl.RecordSet(fields, n, at, impl.Val{Num: num})
					if ok != set || !impl.NodeSame(m, want) {
						t.Fatalf("%+v puts %d into %+v: %+v, %v, and what is set is %+v, %v", a, num, n, m, ok, want, set)
					}
					if ok {
						puts++
					} else {
						not++
					}
				}
			}
		}
	})
	if puts < 10000 || not < 10000 {
		t.Errorf("%d were put, %d were not", puts, not)
	}
}

// Promises 73 and 74: a choice that is put is the one that is there, and a record that is too short does not grow.
func TestChoiceThatIsPut(t *testing.T) {
	someAccesses(t, 118, 300, func(r *rand.Rand, fields []impl.Field, list []impl.Access) {
		l := layoutIn(fields)
		n := structNode(someBytes(r, 8*l.Data), times(impl.Node{}, l.Ptrs)...)
		for at, a := range list {
			if a.Kind == impl.AccessPoint {
				checkPut(t, a, n, 0)
				continue
			}
			m, ok := impl.AccessPut(a, n, a.Turn)
			v, there := impl.RecordGet(fields, m, at)
			if !ok || !there || !sameVal(v, impl.Val{Num: a.Turn}) || a.Tag != -1 && impl.RecordChoice(fields, m) != a.Place {
				t.Fatalf("%+v puts %d into %+v: %+v, %v, of which the field is %+v, %v", a, a.Turn, n, m, ok, v, there)
			}
			for words := range l.Data {
				short := sized(n, 8*words, 0)
				if checkPut(t, a, short, a.Turn) {
					m, _ := impl.AccessPut(a, short, a.Turn)
					if len(m.Data) != 8*words || len(m.Ptrs) != 0 {
						t.Fatalf("%+v puts %d into %+v: %+v", a, a.Turn, short, m)
					}
				}
			}
		}
	})
}

// What accesses answer shares no memory with what they were asked.
func TestAccessesShareNoMemory(t *testing.T) {
	n := structNode(noughts(2), pointNode(structNode("abcdefgh"), structNode("")), manyNode(structNode("", structNode(""))))
	was := copied(n)
	for at := range n.Ptrs {
		v, ok := impl.AccessGet(accessOf("a", impl.AccessPoint, at, 0, 0, -1, 0), n)
		if !ok || share(&n, &v.Node) {
			t.Errorf("pointer %d is got with shared memory", at)
		}
	}
	for _, num := range []int{0, 1, 2} {
		m, _ := impl.AccessPut(accessOf("a", impl.AccessBit, 0, 0, 0, -1, 0), n, num)
		p, _ := impl.AccessPut(accessOf("a", impl.AccessPoint, 0, 0, 0, -1, 0), n, num)
		if share(&n, &m, &p) {
			t.Errorf("%d is put with shared memory", num)
		}
	}
	if !impl.NodeSame(n, was) {
		t.Errorf("%+v has changed to %+v", was, n)
	}
	s := schemaOf(t, edgeSchema)
	one, _ := impl.AccessOf(s, "A")
	clear(one[:cap(one)])
	if two, _ := impl.AccessOf(s, "A"); !slices.Equal(two, accessesIn(s, "A")) {
		t.Errorf("again it is %+v", two)
	}
}
