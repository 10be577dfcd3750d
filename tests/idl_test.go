package tests

import (
	"fmt"
	"math"
	"math/rand"
	"regexp"
	"runtime"
	"slices"
	"strings"
	"testing"
	"time"

	"loop.example/quoin/impl"
)

// baseSizes are the sizes of the bases that no schema names.
var baseSizes = map[string]int{"Bool": impl.SizeBit, "U8": impl.SizeOne, "U16": impl.SizeTwo, "U32": impl.SizeFour, "I64": impl.SizeEight, "Text": impl.SizePoint}

// baseNames are these bases.
var baseNames = []string{"Bool", "U8", "U16", "U32", "I64", "Text"}

// topPool and fieldPool are names of structs and enums, and of fields and words. Some of them are words of a schema's text too.
var (
	topPool   = []string{"A", "B", "Part", "Main", "or", "List", "struct", "enum", "Abcdefghij", "z9", "Bool1", "text", "u8"}
	fieldPool = []string{"a", "b", "or", "List", "struct", "enum", "Text", "U8", "abcdefghi9", "A", "Part", "void", "Z"}
)

// shuffled is a list in another order.
func shuffled[T any](r *rand.Rand, list []T) []T {
	out := slices.Clone(list)
	r.Shuffle(len(out), func(i, k int) { out[i], out[k] = out[k], out[i] })
	return out
}

// enumIn is the words of the enum of a name; none of another one.
func enumIn(s impl.Schema, name string) []string {
	for _, e := range s.Enums {
		if e.Name == name {
			return e.Words
		}
	}
	return nil
}

// declsIn is the fields of the struct of a name by their numbers; none of another one.
func declsIn(s impl.Schema, name string) []impl.Decl {
	for _, x := range s.Structs {
		if x.Name == name {
			out := slices.Clone(x.Decls)
			slices.SortFunc(out, func(a, b impl.Decl) int { return a.Ord - b.Ord })
			return out
		}
	}
	return nil
}

// sizeIn is the size of a type, told from the document; -1 of none.
func sizeIn(s impl.Schema, t impl.Type) int {
	size, ok := baseSizes[t.Base]
	switch {
	case declsIn(s, t.Base) != nil || ok && t.List:
		return impl.SizePoint
	case enumIn(s, t.Base) != nil && t.List:
		return impl.SizePoint
	case enumIn(s, t.Base) != nil:
		return impl.SizeTwo
	case ok:
		return size
	}
	return -1
}

// fieldsIn is the fields of a struct as a layout has them, told from the document.
func fieldsIn(s impl.Schema, name string) []impl.Field {
	var out []impl.Field
	for _, d := range declsIn(s, name) {
		out = append(out, impl.Field{Size: sizeIn(s, d.Type), Choice: d.Choice, Else: d.Else})
	}
	return out
}

// endIn is one more than the greatest number of a type that is one, but of eight bytes; 0 of what is none.
func endIn(s impl.Schema, t impl.Type) int {
	size := sizeIn(s, t)
	if t.List || size == impl.SizePoint || size == impl.SizeEight {
		return 0
	}
	if words := enumIn(s, t.Base); words != nil {
		return len(words)
	}
	return 1 << bitsIn(size)
}

// mostNumber is the greatest number of eighteen figures.
const mostNumber = 999999999999999999

// someNumber is a number of a type that has some, often one at a bound.
func someNumber(r *rand.Rand, s impl.Schema, t impl.Type) int {
	if end := endIn(s, t); end > 0 {
		return []int{0, end - 1, end / 2, r.Intn(end)}[r.Intn(4)]
	}
	return []int{0, -1, mostNumber, -mostNumber, r.Intn(1000) - 500}[r.Intn(5)]
}

// someDecl is a field of a schema whose structs and enums have their names already.
func someDecl(r *rand.Rand, s impl.Schema, name string, ord int, bases []string) impl.Decl {
	d := impl.Decl{Name: name, Ord: ord, Type: impl.Type{Base: bases[r.Intn(len(bases))], List: r.Intn(4) == 0}}
	if size := sizeIn(s, d.Type); size != impl.SizePoint && r.Intn(2) == 0 {
		d.Else = someNumber(r, s, d.Type)
	}
	return d
}

// basesOf is all that may be the base of a type of a schema.
func basesOf(s impl.Schema) []string {
	bases := slices.Clone(baseNames)
	for _, x := range s.Structs {
		bases = append(bases, x.Name)
	}
	for _, e := range s.Enums {
		bases = append(bases, e.Name)
	}
	return bases
}

// someSchema is a schema that is fine.
func someSchema(r *rand.Rand) impl.Schema {
	names := shuffled(r, topPool)
	var s impl.Schema
	for range 1 + r.Intn(impl.StructMax) {
		s.Structs = append(s.Structs, impl.Struct{Name: names[0], Decls: []impl.Decl{{}}})
		names = names[1:]
	}
	for range r.Intn(impl.EnumMax + 1) {
		words := shuffled(r, fieldPool)[:1+r.Intn(impl.DeclMax)]
		s.Enums = append(s.Enums, impl.Enum{Name: names[0], Words: words})
		names = names[1:]
	}
	for i := range s.Structs {
		var decls []impl.Decl
		choices := r.Intn(4)
		for ord, name := range shuffled(r, fieldPool)[:1+r.Intn(impl.DeclMax)] {
			d := someDecl(r, s, name, ord, basesOf(s))
			d.Choice = choices > 0 && r.Intn(choices) == 0
			decls = append(decls, d)
		}
		s.Structs[i].Decls = shuffled(r, decls)
	}
	return s
}

// copiedSchema is a schema in memory of its own.
func copiedSchema(s impl.Schema) impl.Schema {
	s.Structs, s.Enums = slices.Clone(s.Structs), slices.Clone(s.Enums)
	for i := range s.Structs {
		s.Structs[i].Decls = slices.Clone(s.Structs[i].Decls)
	}
	for i := range s.Enums {
		s.Enums[i].Words = slices.Clone(s.Enums[i].Words)
	}
	return s
}

// sameSchema says whether two schemas are the same.
func sameSchema(a, b impl.Schema) bool {
	structs := func(x, y impl.Struct) bool { return x.Name == y.Name && slices.Equal(x.Decls, y.Decls) }
	enums := func(x, y impl.Enum) bool { return x.Name == y.Name && slices.Equal(x.Words, y.Words) }
	return slices.EqualFunc(a.Structs, b.Structs, structs) && slices.EqualFunc(a.Enums, b.Enums, enums)
}

// textIn is the text of a schema, told from the document.
func textIn(s impl.Schema) string {
	out := ""
	for _, x := range s.Structs {
		out += fmt.Sprintf("struct %s {\n", x.Name)
		for _, d := range x.Decls {
			or, base, by := "", d.Type.Base, ""
			if d.Choice {
				or = "or "
			}
			if d.Type.List {
				base = fmt.Sprintf("List(%s)", base)
			}
			if d.Else != 0 {
				by = fmt.Sprintf(" = %d", d.Else)
			}
			out += fmt.Sprintf("  %s%s @%d :%s%s;\n", or, d.Name, d.Ord, base, by)
		}
		out += "}\n"
	}
	for _, e := range s.Enums {
		out += fmt.Sprintf("enum %s { %s }\n", e.Name, strings.Join(e.Words, " "))
	}
	return out
}

// schemaOf is the schema of a text, which must be read.
func schemaOf(t *testing.T, text string) impl.Schema {
	t.Helper()
	s, ok := impl.IdlGet(text)
	if !ok || impl.IdlCheck(s) != impl.IdlFine {
		t.Fatalf("%q is not read", text)
	}
	return s
}

// checkNoSchema checks that a text is not read.
func checkNoSchema(t *testing.T, text string) {
	t.Helper()
	if s, ok := impl.IdlGet(text); ok || !sameSchema(s, impl.Schema{}) {
		t.Errorf("%q is read: %+v, %v", text, s, ok)
	}
}

// nameForm is what names are, told from the document.
var nameForm = regexp.MustCompile(`^[A-Za-z][A-Za-z0-9]{0,9}$`)

// formIn says whether a schema is not IdlForm, told from the document.
func formIn(s impl.Schema) bool {
	fine := len(s.Structs) >= 1 && len(s.Structs) <= impl.StructMax && len(s.Enums) <= impl.EnumMax
	for _, x := range s.Structs {
		fine = fine && nameForm.MatchString(x.Name) && baseSizes[x.Name] == 0 && len(x.Decls) >= 1 && len(x.Decls) <= impl.DeclMax
		for _, d := range x.Decls {
			fine = fine && nameForm.MatchString(d.Name) && nameForm.MatchString(d.Type.Base)
		}
	}
	for _, e := range s.Enums {
		fine = fine && nameForm.MatchString(e.Name) && baseSizes[e.Name] == 0 && len(e.Words) >= 1 && len(e.Words) <= impl.DeclMax
		for _, word := range e.Words {
			fine = fine && nameForm.MatchString(word)
		}
	}
	return fine
}

// twiceIn says whether a schema has a name twice, told from the document.
func twiceIn(s impl.Schema) bool {
	seen := map[string]int{}
	for _, x := range s.Structs {
		seen["top "+x.Name]++
		for _, d := range x.Decls {
			seen["struct "+x.Name+" "+d.Name]++
		}
	}
	for _, e := range s.Enums {
		seen["top "+e.Name]++
		for _, word := range e.Words {
			seen["enum "+e.Name+" "+word]++
		}
	}
	for _, n := range seen {
		if n > 1 {
			return true
		}
	}
	return false
}

// elseIn says whether Else of a field may be, told from the document.
func elseIn(s impl.Schema, d impl.Decl) bool {
	switch {
	case sizeIn(s, d.Type) == impl.SizePoint:
		return d.Else == 0
	case endIn(s, d.Type) == 0:
		return d.Else >= -mostNumber && d.Else <= mostNumber
	}
	return d.Else >= 0 && d.Else < endIn(s, d.Type)
}

// checkIn is the first thing that is wrong with a schema, told from the document.
func checkIn(s impl.Schema) int {
	if !formIn(s) {
		return impl.IdlForm
	}
	if twiceIn(s) {
		return impl.IdlTwice
	}
	none, ord, by := false, false, false
	for _, x := range s.Structs {
		var ords []int
		for _, d := range x.Decls {
			none = none || sizeIn(s, d.Type) < 0
			ords = append(ords, d.Ord)
		}
		slices.Sort(ords)
		for i, n := range ords {
			ord = ord || n != i
		}
	}
	for _, x := range s.Structs {
		for _, d := range x.Decls {
			by = by || !none && !elseIn(s, d)
		}
	}
	switch {
	case none:
		return impl.IdlNone
	case ord:
		return impl.IdlOrd
	case by:
		return impl.IdlElse
	}
	return impl.IdlFine
}

// edgeTexts are texts of schemas as IdlPut writes them, at the bounds of what is fine.
func edgeTexts() []string {
	most := "struct A {\n  a @0 :U8;\n  b @1 :U8;\n  c @2 :U8;\n  d @3 :U8;\n  e @4 :U8;\n  f @5 :U8;\n  g @6 :U8;\n  h @7 :U8;\n}\n"
	return []string{
		"struct A {\n  a @0 :U8;\n}\n",
		"struct abcdefghi9 {\n  ABCDEFGHI9 @0 :List(abcdefghi9);\n}\n",
		"struct A {\n  a @0 :A;\n}\nstruct B {\n  a @0 :A;\n  b @1 :C;\n}\nstruct C {\n  a @0 :List(B);\n}\nstruct D {\n  a @0 :Text;\n}\nstruct E {\n  a @0 :List(Text);\n}\n",
		most, most + "enum E { a b c d e f g h }\nenum F { a }\nenum G { F }\n",

		// What has words of the text as names.
		"struct struct {\n  struct @0 :struct;\n  enum @1 :enum;\n  or @2 :U8;\n}\nenum enum { enum struct or List }\n",
		"struct List {\n  List @0 :List(List);\n  or @1 :List;\n}\n",
		"struct or {\n  or or @0 :or;\n  or List @1 :List(or);\n}\n",
		"struct A {\n  U8 @0 :U16;\n  Bool @1 :List(Text);\n  Text @2 :Bool;\n}\nenum E { U8 Text }\n",
		"struct A {\n  or or @0 :Or;\n}\nenum Or { or }\n", "struct A {\n  a @0 :List;\n}\nenum List { List }\n",

		// Else at the bounds of its size.
		"struct A {\n  a @0 :Bool = 1;\n  b @1 :U8 = 255;\n  c @2 :U16 = 65535;\n  d @3 :U32 = 4294967295;\n  e @4 :I64 = 999999999999999999;\n  f @5 :I64 = -999999999999999999;\n  or g @6 :I64 = -1;\n  h @7 :E = 2;\n}\nenum E { a b c }\n",

		// Fields in another order than their numbers.
		"struct A {\n  c @2 :U8;\n  a @0 :U16 = 7;\n  or b @1 :Text;\n}\n",
	}
}

// longSchema is a schema that is fine, and whose text is too long to be read.
func longSchema() impl.Schema {
	var s impl.Schema
	for _, name := range []string{"Abcdefghi1", "Abcdefghi2", "Abcdefghi3", "Abcdefghi4", "Abcdefghi5"} {
		x := impl.Struct{Name: name}
		for ord := range impl.DeclMax {
			x.Decls = append(x.Decls, impl.Decl{Name: fmt.Sprintf("abcdefghi%d", ord), Ord: ord, Type: impl.Type{Base: "I64"}, Choice: true, Else: -mostNumber})
		}
		s.Structs = append(s.Structs, x)
	}
	return s
}

// someSchemas are schemas that are fine.
func someSchemas(t *testing.T, seed int64, count int) []impl.Schema {
	t.Helper()
	var all []impl.Schema
	for _, text := range edgeTexts() {
		all = append(all, schemaOf(t, text))
	}
	r := rand.New(rand.NewSource(seed))
	for range count {
		all = append(all, someSchema(r))
	}
	return all
}

// Promise 48.
func TestSchemaIsReadBack(t *testing.T) {
	for _, text := range edgeTexts() {
		if s := schemaOf(t, text); impl.IdlPut(s) != text {
			t.Errorf("%q is written back as %q", text, impl.IdlPut(s))
		}
	}
	long := longSchema()
	for i, s := range append(someSchemas(t, 60, 4000), long) {
		was := copiedSchema(s)
		text := impl.IdlPut(s)
		if text != textIn(s) || impl.IdlCheck(s) != impl.IdlFine {
			t.Fatalf("schema %d: %+v is written as %q", i, s, text)
		}
		if len(text) > impl.IdlMax {
			checkNoSchema(t, text)
			continue
		}
		if x, ok := impl.IdlGet(text); !ok || !sameSchema(x, s) {
			t.Fatalf("schema %d: %q is read as %+v, %v", i, text, x, ok)
		}
		if !sameSchema(s, was) {
			t.Fatalf("schema %d has changed", i)
		}
	}
	if text := impl.IdlPut(long); len(text) <= impl.IdlMax {
		t.Errorf("%q is not too long", text)
	}
}

// Promise 48: words and signs alone tell a schema, structs and enums in whatever order.
func TestTextsOfSchemas(t *testing.T) {
	for text, want := range map[string]string{
		"struct A{a@0:U8;}":                                             "struct A {\n  a @0 :U8;\n}\n",
		"enum E{a b}struct A{a@0:E=1;}enum F{c}":                        "struct A {\n  a @0 :E = 1;\n}\nenum E { a b }\nenum F { c }\n",
		"struct A{or a@0:List(U8);or b@1:B;}struct B{a@0:I64=-5;}":      "struct A {\n  or a @0 :List(U8);\n  or b @1 :B;\n}\nstruct B {\n  a @0 :I64 = -5;\n}\n",
		"struct A{or@0:U8;or or1@1:U8;}":                                "struct A {\n  or @0 :U8;\n  or or1 @1 :U8;\n}\n",
		"struct A{or or@0:U8;}":                                         "struct A {\n  or or @0 :U8;\n}\n",
		"struct A { a @0 : List ( List ) ; } struct List { a @0 :U8; }": "struct A {\n  a @0 :List(List);\n}\nstruct List {\n  a @0 :U8;\n}\n",
		"struct A { a @0 :U8 = 0; b @1 :Text = 0; }":                    "struct A {\n  a @0 :U8;\n  b @1 :Text;\n}\n",
	} {
		if got := impl.IdlPut(schemaOf(t, text)); got != want {
			t.Errorf("%q is read as %q", text, got)
		}
	}
}

// Promise 48: what is no schema's text.
func TestTextsThatAreNoSchema(t *testing.T) {
	for _, text := range []string{
		"", " ", "\n", "#", "# struct A { a @0 :U8; }", "struct", "struct A", "struct A {", "struct A { a", "struct A { a @0 :U8;", "struct A { a @0 :U8; ", "struct { a @0 :U8; }", "struct A a @0 :U8; }", "A { a @0 :U8; }", "Struct A { a @0 :U8; }", "struct A { a @0 :U8; } }", "struct A { a @0 :U8; };", "struct A { a @0 :U8; } B", "struct A { a @0 :U8; } enum", "struct A { a @0 :U8; } enum E", "struct A { a @0 :U8; } enum E {", "struct A { a @0 :U8; } enum E { a", "struct A { a @0 :U8; } enum { a }", "struct A { a @0 :U8; } enum E { a, b }", "struct A { a @0 :U8; } enum E { }", "struct A { a @0 :U8; } enum E { } }", "struct A { a @0 :U8; } enum E { ; }", "struct A A { a @0 :U8; }", "struct A { } ", "enum E { a }",
		"struct A { a @0 U8; }", "struct A { a 0 :U8; }", "struct A { a @ :U8; }", "struct A { @0 :U8; }", "struct A { a @0 :; }", "struct A { a @0 :U8 }", "struct A { a @0 :U8;; }", "struct A { a @0 :U8, }", "struct A { a @0 :U8 = ; }", "struct A { a @0 :U8 1; }", "struct A { a @0 :U8 = 1 2; }", "struct A { a @0 := 1; }", "struct A { or or or @0 :U8; }", "struct A { or @ @0 :U8; }", "struct A { Or a @0 :U8; }", "struct A { a or @0 :U8; }", "struct A { a b @0 :U8; }", "struct A { ; @0 :U8; }",
		"struct A { a @0 :List; }", "struct A { a @0 :List(); }", "struct A { a @0 :List(U8; }", "struct A { a @0 :ListU8); }", "struct A { a @0 :List U8; }", "struct A { a @0 :List(U8)); }", "struct A { a @0 :List(List(U8)); }", "struct A { a @0 :U8(U8); }", "struct A { a @0 :list(U8); }", "struct List { a @0 :List(List(List)); }", "struct A { a @0 :List(); }",

		// Numbers.
		"struct A { a @00 :U8; }", "struct A { a @-0 :U8; }", "struct A { a @+0 :U8; }", "struct A { a @0 :U8 = 01; }", "struct A { a @0 :U8 = 00; }", "struct A { a @0 :U8 = -0; }", "struct A { a @0 :I64 = --1; }", "struct A { a @0 :I64 = -; }", "struct A { a @0 :I64 = 1-; }", "struct A { a @0 :I64 = - 1; }", "struct A { a @0 :I64 = -01; }", "struct A { a @0 :U8 = 0x1; }", "struct A { a @0 :U8 = a; }", "struct A { a @0 :I64 = 1000000000000000000; }", "struct A { a @0 :I64 = -1000000000000000000; }", "struct A { a @0 :I64 = 9223372036854775807; }", "struct A { a @0 :I64 = 99999999999999999999; }", "struct A { a @1000000000000000000 :I64; }", "struct A { a @0 :U8 = 1_0; }", "struct A { a @0 :U8 = 1.0; }",

		// What is no name, and what is not fine.
		"struct 1 { a @0 :U8; }", "struct A { 1 @0 :U8; }", "struct A { a-b @0 :U8; }", "struct A { a_b @0 :U8; }", "struct A { abcdefghijk @0 :U8; }", "struct Abcdefghijk { a @0 :U8; }", "struct A { \xc3\xa9 @0 :U8; }", "struct A { a @0 :U8\x00; }", "struct A { a @0\x0b:U8; }", "struct A { a @0\x0c:U8; }", "struct A { a @0\xc2\xa0:U8; }", "struct - { a @0 :U8; }", "struct A { - @0 :U8; }", "struct Bool { a @0 :U8; }", "struct A { a @0 :U8; } enum Text { a }",
		"struct A { a @0 :U8; } struct A { a @0 :U8; }", "struct A { a @0 :U8; } enum A { a }", "struct A { a @0 :U8; a @1 :U8; }", "struct A { a @0 :U8; } enum E { a a }", "struct A { a @0 :B; }", "struct A { a @0 :u8; }", "struct A { a @0 :List(B); }", "struct A { a @1 :U8; }", "struct A { a @0 :U8; b @0 :U8; }", "struct A { a @0 :U8; b @2 :U8; }", "struct A { a @-1 :U8; }", "struct A { a @0 :U8 = 256; }", "struct A { a @0 :U8 = -1; }", "struct A { a @0 :Bool = 2; }", "struct A { a @0 :U16 = 65536; }", "struct A { a @0 :U32 = 4294967296; }", "struct A { a @0 :Text = 1; }", "struct A { a @0 :A = 1; }", "struct A { a @0 :List(U8) = 1; }", "struct A { a @0 :E = 1; } enum E { a }", "struct A { a @0 :List(E) = 1; } enum E { a b }",

		// Notes that hide what must be there.
		"struct A { a @0 :U8; # }", "# struct A {\n a @0 :U8; }", "struct A { a @0 :U8; #\n #}", "stru#\nct A { a @0 :U8; }", "struct A { a @0 :U 8; }", "struct A { a @0 :I64 = 1 0; }",
	} {
		checkNoSchema(t, text)
	}
}

// Promise 48: what is read of any words and signs is fine, and read back.
func TestWhatIsReadOfAnyText(t *testing.T) {
	r := rand.New(rand.NewSource(61))
	bits := []string{" ", "\n", "struct", "enum", "or", "List", "(", ")", "{", "}", "@", ":", ";", "=", "0", "1", "2", "-1", "U8", "Text", "a", "A", "#", "-", "\t"}
	read := 0
	for i := range 60000 {
		text := impl.IdlPut(someSchema(r))
		if len(text) > 300 {
			text = edgeTexts()[i%len(edgeTexts())]
		}
		for range 1 + r.Intn(3) {
			at := r.Intn(len(text) + 1)
			text = text[:at] + bits[r.Intn(len(bits))] + text[min(len(text), at+r.Intn(3)):]
		}
		s, ok := impl.IdlGet(text)
		if !ok {
			if !sameSchema(s, impl.Schema{}) {
				t.Fatalf("%q is not read, but as %+v", text, s)
			}
			continue
		}
		read++
		if x, again := impl.IdlGet(impl.IdlPut(s)); checkIn(s) != impl.IdlFine || !again || !sameSchema(x, s) {
			t.Fatalf("%q is read as %+v, and that as %+v, %v", text, s, x, again)
		}
	}
	if read < 3000 {
		t.Errorf("just %d were read", read)
	}
}

// Promise 48: as many bytes as may be, and one more.
func TestLengthOfSchemaText(t *testing.T) {
	text := "struct A { a @0 :U8; }"
	for _, fill := range []string{" ", "\n", "#", "\t"} {
		most := text + strings.Repeat(fill, impl.IdlMax-len(text))
		schemaOf(t, most)
		checkNoSchema(t, most+fill)
	}
	checkNoSchema(t, strings.Repeat(text, 1000))
	checkNoSchema(t, strings.Repeat("{", impl.IdlMax))
	checkNoSchema(t, "enum E {"+strings.Repeat("a ", 700)+"}")
}

// tokenForm is the words and signs of what IdlPut writes.
var tokenForm = regexp.MustCompile(`[A-Za-z0-9-]+|[^A-Za-z0-9 \n-]`)

// Promise 49.
func TestNotesAndBlanksSayNothing(t *testing.T) {
	r := rand.New(rand.NewSource(62))
	gaps := []string{" ", "\n", "\t", "\r", "  ", "\r\n", "#\n", "#\r", "# a note; }\n", "#{\n#}\n", "\t# struct B {\r\n", "##\xff\x00\n"}
	word := regexp.MustCompile(`[A-Za-z0-9-]$`)
	for i, s := range someSchemas(t, 62, 3000) {
		text := ""
		for _, token := range tokenForm.FindAllString(impl.IdlPut(s), -1) {
			if word.MatchString(text) && word.MatchString(token) || r.Intn(4) == 0 {
				text += gaps[r.Intn(len(gaps))]
			}
			text += token
		}
		ends := []string{"", " ", "#", "# a note", "\n#\n", "\t"}
		text = ends[4+r.Intn(2)] + text + ends[r.Intn(len(ends))]
		if len(text) > impl.IdlMax {
			checkNoSchema(t, text)
			continue
		}
		if x, ok := impl.IdlGet(text); !ok || !sameSchema(x, s) {
			t.Fatalf("schema %d: %q is read as %+v, %v", i, text, x, ok)
		}
	}
}

// changedSchema is a schema with a part that is another one, fine or not.
func changedSchema(r *rand.Rand, s impl.Schema) impl.Schema {
	s = copiedSchema(s)
	names := []string{"", "a", "A", "B", "1a", "a-b", "abcdefghijk", "abcdefghij", "a b", "\xe9", "or", "Bool", "U8", "U16", "U32", "I64", "Text", "text", "List", "a\n", "é"}
	name := names[r.Intn(len(names))]
	x := &s.Structs[r.Intn(len(s.Structs))]
	d := &x.Decls[r.Intn(len(x.Decls))]
	numbers := append(strange(), 0, 1, 2, 7, 8, 255, 256, 65535, 65536, 1<<32-1, mostNumber, mostNumber+1, -mostNumber, -mostNumber-1)
	number := numbers[r.Intn(len(numbers))]
	switch r.Intn(12) {
	case 0:
		x.Name = name
	case 1:
		d.Name = name
	case 2:
		d.Type.Base = name
	case 3:
		d.Ord = number
	case 4:
		d.Else = number
	case 5:
		d.Type.List = !d.Type.List
	case 6:
		x.Decls = append(x.Decls, impl.Decl{Name: name, Ord: len(x.Decls), Type: impl.Type{Base: "U8"}})
	case 7:
		x.Decls = x.Decls[:r.Intn(len(x.Decls))]
	case 8:
		s.Structs = append(s.Structs, impl.Struct{Name: name, Decls: x.Decls})
	case 9:
		s.Enums = append(s.Enums, impl.Enum{Name: name, Words: []string{"a"}})
	case 10:
		if len(s.Enums) > 0 {
			e := &s.Enums[r.Intn(len(s.Enums))]
			e.Words = append(e.Words, name)
		}
	case 11:
		if len(s.Enums) > 0 {
			e := &s.Enums[r.Intn(len(s.Enums))]
			e.Words = e.Words[:r.Intn(len(e.Words))]
		}
	}
	return s
}

// Promise 50: each thing that is wrong, by its code, and by the first of two.
func TestWhatIsWrongWithSchemas(t *testing.T) {
	u8 := impl.Type{Base: "U8"}
	decl := func(name string, ord int) impl.Decl { return impl.Decl{Name: name, Ord: ord, Type: u8} }
	of := func(decls ...impl.Decl) impl.Schema {
		return impl.Schema{Structs: []impl.Struct{{Name: "A", Decls: decls}}}
	}
	typed := func(base string, list bool, by int) impl.Schema {
		return of(impl.Decl{Name: "a", Type: impl.Type{Base: base, List: list}, Else: by})
	}
	with := func(s impl.Schema, enums ...impl.Enum) impl.Schema {
		s.Enums = enums
		return s
	}
	structs := func(names ...string) impl.Schema {
		var s impl.Schema
		for _, name := range names {
			s.Structs = append(s.Structs, impl.Struct{Name: name, Decls: []impl.Decl{decl("a", 0)}})
		}
		return s
	}
	eight := of(decl("a", 0), decl("b", 1), decl("c", 2), decl("d", 3), decl("e", 4), decl("f", 5), decl("g", 6), decl("h", 7))
	nine := of(append(slices.Clone(eight.Structs[0].Decls), decl("i", 8))...)
	words := strings.Fields("a b c d e f g h")
	for i, c := range []struct {
		s    impl.Schema
		code int
	}{
		{of(decl("a", 0)), impl.IdlFine}, {eight, impl.IdlFine}, {structs("A", "B", "C", "D", "E"), impl.IdlFine}, {with(of(decl("a", 0)), impl.Enum{Name: "E", Words: words}, impl.Enum{Name: "F", Words: words}, impl.Enum{Name: "G", Words: []string{"E"}}), impl.IdlFine},
		{typed("A", true, 0), impl.IdlFine}, {typed("I64", false, mostNumber), impl.IdlFine}, {typed("I64", false, -mostNumber), impl.IdlFine}, {with(typed("E", false, 7), impl.Enum{Name: "E", Words: words}), impl.IdlFine}, {with(typed("E", true, 0), impl.Enum{Name: "E", Words: words}), impl.IdlFine},

		{impl.Schema{}, impl.IdlForm}, {with(impl.Schema{}, impl.Enum{Name: "E", Words: words}), impl.IdlForm}, {structs("A", "B", "C", "D", "E", "F"), impl.IdlForm}, {with(of(decl("a", 0)), times(impl.Enum{Name: "E", Words: words}, 4)...), impl.IdlForm}, {of(), impl.IdlForm}, {nine, impl.IdlForm}, {with(of(decl("a", 0)), impl.Enum{Name: "E"}), impl.IdlForm}, {with(of(decl("a", 0)), impl.Enum{Name: "E", Words: append(slices.Clone(words), "i")}), impl.IdlForm},
		{structs(""), impl.IdlForm}, {structs("1"), impl.IdlForm}, {structs("A", "B-"), impl.IdlForm}, {structs("Abcdefghijk"), impl.IdlForm}, {of(decl("", 0)), impl.IdlForm}, {of(decl("a", 0), decl("b c", 1)), impl.IdlForm}, {with(of(decl("a", 0)), impl.Enum{Name: "\xff", Words: words}), impl.IdlForm}, {with(of(decl("a", 0)), impl.Enum{Name: "E", Words: []string{"a", ""}}), impl.IdlForm}, {typed("", false, 0), impl.IdlForm}, {typed("List(U8)", false, 0), impl.IdlForm},

		{structs("A", "B", "A"), impl.IdlTwice}, {with(structs("A"), impl.Enum{Name: "A", Words: words}), impl.IdlTwice}, {with(structs("A"), times(impl.Enum{Name: "E", Words: words}, 2)...), impl.IdlTwice}, {of(decl("a", 0), decl("b", 1), decl("a", 2)), impl.IdlTwice}, {with(of(decl("a", 0)), impl.Enum{Name: "E", Words: []string{"a", "b", "a"}}), impl.IdlTwice},
		{typed("B", false, 0), impl.IdlNone}, {typed("B", true, 0), impl.IdlNone}, {typed("a", false, 0), impl.IdlNone}, {typed("u8", false, 0), impl.IdlNone}, {typed("List", true, 0), impl.IdlNone}, {with(typed("F", false, 0), impl.Enum{Name: "E", Words: []string{"F"}}), impl.IdlNone},
		{of(decl("a", 1)), impl.IdlOrd}, {of(decl("a", -1)), impl.IdlOrd}, {of(decl("a", 0), decl("b", 0)), impl.IdlOrd}, {of(decl("a", 1), decl("b", 1)), impl.IdlOrd}, {of(decl("a", 0), decl("b", 2)), impl.IdlOrd}, {of(decl("a", math.MinInt)), impl.IdlOrd}, {of(decl("a", math.MaxInt)), impl.IdlOrd},
		{typed("Bool", false, 2), impl.IdlElse}, {typed("Bool", false, -1), impl.IdlElse}, {typed("U8", false, 256), impl.IdlElse}, {typed("U16", false, 65536), impl.IdlElse}, {typed("U32", false, 1<<32), impl.IdlElse}, {typed("I64", false, mostNumber+1), impl.IdlElse}, {typed("I64", false, -mostNumber-1), impl.IdlElse}, {typed("I64", false, math.MinInt), impl.IdlElse}, {typed("I64", false, math.MaxInt), impl.IdlElse}, {typed("Text", false, 1), impl.IdlElse}, {typed("A", false, -1), impl.IdlElse}, {typed("U8", true, 1), impl.IdlElse}, {typed("I64", true, 1), impl.IdlElse}, {with(typed("E", false, 8), impl.Enum{Name: "E", Words: words}), impl.IdlElse}, {with(typed("E", false, -1), impl.Enum{Name: "E", Words: words}), impl.IdlElse}, {with(typed("E", true, 1), impl.Enum{Name: "E", Words: words}), impl.IdlElse},

		// The first of two, wherever they stand.
		{of(decl("a", 1), decl("a", 1), decl("", 1)), impl.IdlForm}, {structs("A", "A", "U8"), impl.IdlForm}, {of(impl.Decl{Name: "a", Type: impl.Type{Base: "B"}}, decl("b", 2), decl("b", 3)), impl.IdlTwice}, {of(impl.Decl{Name: "a", Ord: 5, Type: u8, Else: -1}, impl.Decl{Name: "b", Type: impl.Type{Base: "B"}}), impl.IdlNone}, {of(impl.Decl{Name: "a", Type: u8, Else: 256}, decl("b", 0)), impl.IdlOrd},
	} {
		if code := impl.IdlCheck(c.s); code != c.code {
			t.Errorf("case %d: %+v is %d, not %d", i, c.s, code, c.code)
		}
		checkUse(t, c.s, c.code)
	}
}

// checkUse checks that a schema that is not fine is none to any function.
func checkUse(t *testing.T, s impl.Schema, code int) {
	t.Helper()
	fine := code == impl.IdlFine
	if (impl.IdlPut(s) != "") != fine || impl.IdlGrew(s, s) != fine {
		t.Errorf("%+v, which is %d, is written as %q, or has grown from itself %v", s, code, impl.IdlPut(s), impl.IdlGrew(s, s))
	}
	for _, x := range s.Structs {
		if list, ok := impl.IdlFields(s, x.Name); ok != fine || !ok && len(list) > 0 {
			t.Errorf("%+v, which is %d, has the fields %+v, %v", s, code, list, ok)
		}
	}
}

// Promise 50.
func TestWhatIsFine(t *testing.T) {
	r := rand.New(rand.NewSource(63))
	seen := map[int]int{}
	for i, s := range someSchemas(t, 63, 30000) {
		for range r.Intn(3) {
			if x := changedSchema(r, s); formIn(x) || i%8 == 0 {
				s = x
			}
			if !formIn(s) {
				break
			}
		}
		code := impl.IdlCheck(s)
		if code != checkIn(s) {
			t.Fatalf("schema %d: %+v is %d, not %d", i, s, code, checkIn(s))
		}
		seen[code]++
		checkUse(t, s, code)
		if code == impl.IdlFine {
			twice := copiedSchema(s)
			twice.Structs = append(twice.Structs, twice.Structs[r.Intn(len(s.Structs))])
			if impl.IdlCheck(twice) == impl.IdlFine {
				t.Fatalf("%+v is fine", twice)
			}
		}
	}
	for code := impl.IdlFine; code <= impl.IdlElse; code++ {
		if seen[code] < 200 {
			t.Errorf("just %d are %d", seen[code], code)
		}
	}
}

// Promises 51 and 87.
func TestFieldsByTheirNumbers(t *testing.T) {
	s := schemaOf(t, "struct A { h @7 :List(E); a @0 :Bool = 1; or c @2 :U16; b @1 :U8; d @3 :U32; e @4 :I64 = -5; or f @5 :Text; g @6 :E = 1; } struct B { a @0 :A; b @1 :List(A); c @2 :List(Bool); } enum E { x y }")
	for name, want := range map[string][]impl.Field{
		"A": {{Size: impl.SizeBit, Else: 1}, {Size: impl.SizeOne}, {Size: impl.SizeTwo, Choice: true}, {Size: impl.SizeFour}, {Size: impl.SizeEight, Else: -5}, {Size: impl.SizePoint, Choice: true}, {Size: impl.SizeTwo, Else: 1}, {Size: impl.SizePoint}},
		"B": {{Size: impl.SizePoint}, {Size: impl.SizePoint}, {Size: impl.SizePoint}},
	} {
		if list, ok := impl.IdlFields(s, name); !ok || !slices.Equal(list, want) {
			t.Errorf("%s has the fields %+v, %v", name, list, ok)
		}
	}
	for i, s := range someSchemas(t, 64, 5000) {
		for _, x := range s.Structs {
			list, ok := impl.IdlFields(s, x.Name)
			if !ok || !slices.Equal(list, fieldsIn(s, x.Name)) {
				t.Fatalf("schema %d: %s of %+v has the fields %+v, %v", i, x.Name, s, list, ok)
			}
			for _, d := range x.Decls {
				if list[d.Ord].Choice != d.Choice || list[d.Ord].Else != d.Else {
					t.Fatalf("schema %d: %+v is %+v", i, d, list[d.Ord])
				}
			}
			l, ok := impl.LayoutOf(list)
			ptrs := 0
			for _, f := range list {
				if f.Size == impl.SizePoint {
					ptrs++
				}
			}
			words := len(list) - ptrs
			if l.Tag >= 0 {
				words++
			}
			if !ok || l.Data > words || l.Ptrs > ptrs {
				t.Fatalf("schema %d: %+v has the layout %+v, %v", i, list, l, ok)
			}
			clear(list)
			if again, _ := impl.IdlFields(s, x.Name); !slices.Equal(again, fieldsIn(s, x.Name)) {
				t.Fatalf("schema %d: two answers share memory", i)
			}
		}
	}
}

// Promise 51: a struct that is none.
func TestFieldsOfNoStruct(t *testing.T) {
	s := schemaOf(t, "struct A { a @0 :U8; b @1 :E; } enum E { x }")
	for _, name := range []string{"", "E", "a", "x", "U8", "Text", "List", "B", "A ", "AA", "\x00"} {
		if list, ok := impl.IdlFields(s, name); ok || len(list) > 0 {
			t.Errorf("%q has the fields %+v, %v", name, list, ok)
		}
	}
}

// grown is a schema with more, and what it had in another order. New fields are no choices but where there are two at least, and names of fields stay.
func grown(r *rand.Rand, old impl.Schema) impl.Schema {
	s := copiedSchema(old)
	top := shuffled(r, topPool)
	fresh := func() string {
		for slices.Contains(basesOf(s), top[0]) {
			top = top[1:]
		}
		return top[0]
	}
	if len(s.Structs) < impl.StructMax && r.Intn(2) == 0 {
		s.Structs = append(s.Structs, impl.Struct{Name: fresh(), Decls: []impl.Decl{{Name: "new", Type: impl.Type{Base: "U8"}}}})
	}
	if len(s.Enums) < impl.EnumMax && r.Intn(2) == 0 {
		s.Enums = append(s.Enums, impl.Enum{Name: fresh(), Words: []string{"new"}})
	}
	for i, e := range s.Enums {
		if len(e.Words) < impl.DeclMax && r.Intn(2) == 0 {
			s.Enums[i].Words = append(e.Words, "new1")
		}
	}
	for i, x := range s.Structs {
		choices := 0
		for _, d := range x.Decls {
			if d.Choice {
				choices++
			}
		}
		for len(x.Decls) < impl.DeclMax && r.Intn(2) == 0 {
			d := someDecl(r, s, fmt.Sprintf("new%d", len(x.Decls)), len(x.Decls), basesOf(s))
			d.Choice = choices >= 2 && r.Intn(2) == 0
			x.Decls = append(x.Decls, d)
		}
		s.Structs[i].Decls = shuffled(r, x.Decls)
	}
	s.Structs, s.Enums = shuffled(r, s.Structs), shuffled(r, s.Enums)
	return s
}

// Promise 52.
func TestSchemaWithMoreHasAllFieldsWhereTheyWere(t *testing.T) {
	r := rand.New(rand.NewSource(65))
	for i, old := range someSchemas(t, 65, 5000) {
		s := grown(r, old)
		for at := range s.Structs {
			for k := range s.Structs[at].Decls {
				s.Structs[at].Decls[k].Name = fmt.Sprintf("name%d", k)
			}
		}
		if !impl.IdlGrew(old, s) || !impl.IdlGrew(old, old) || !impl.IdlGrew(s, s) {
			t.Fatalf("schema %d: %+v has not grown from %+v", i, s, old)
		}
		for _, x := range old.Structs {
			few, _ := impl.IdlFields(old, x.Name)
			all, ok := impl.IdlFields(s, x.Name)
			if !ok || !slices.Equal(all[:len(few)], few) {
				t.Fatalf("schema %d: %s has %+v, and had %+v", i, x.Name, all, few)
			}
			l, m := layout(t, few), layout(t, all)
			if !slices.Equal(m.Slots[:len(few)], l.Slots) || l.Tag >= 0 && m.Tag != l.Tag {
				t.Fatalf("schema %d: %s stands at %+v, and stood at %+v", i, x.Name, m, l)
			}
		}
	}
}

// Promise 52: what may be more, and what may not.
func TestWhatHasGrown(t *testing.T) {
	old := "struct A { a @0 :U8 = 5; b @1 :List(B); } struct B { or x @0 :E; or y @1 :Text; } enum E { p q }"
	one := "struct A { or a @0 :U8; b @1 :U8; }"
	for _, c := range []struct {
		old, fresh string
		grew       bool
	}{
		{old, old, true},
		{old, "enum E { p q r } struct B { or y @1 :Text; or x @0 :E; } struct A { b @1 :List(B); a @0 :U8 = 5; }", true},
		{old, "struct A { a1 @0 :U8 = 5; b1 @1 :List(B); } struct B { or x1 @0 :E; or y1 @1 :Text; or z @2 :U8; w @3 :U8; } enum E { p q } struct C { a @0 :A; } enum F { a }", true},
		{old, "struct A { b @0 :U8 = 5; a @1 :List(B); } struct B { or y @0 :E; or x @1 :Text; } enum E { p q }", true},
		{old, "struct A { a @0 :U8 = 5; b @1 :List(B); } enum E { p q }  struct C { or x @0 :E; or y @1 :Text; } struct B { or x @0 :E; }", false},
		{old, "struct A { a @0 :U8 = 5; } struct B { or x @0 :E; or y @1 :Text; } enum E { p q }", false},
		{old, "struct A { a @0 :U8 = 6; b @1 :List(B); } struct B { or x @0 :E; or y @1 :Text; } enum E { p q }", false},
		{old, "struct A { a @0 :U8; b @1 :List(B); } struct B { or x @0 :E; or y @1 :Text; } enum E { p q }", false},
		{old, "struct A { a @0 :U16 = 5; b @1 :List(B); } struct B { or x @0 :E; or y @1 :Text; } enum E { p q }", false},
		{old, "struct A { a @0 :U8 = 5; b @1 :B; } struct B { or x @0 :E; or y @1 :Text; } enum E { p q }", false},
		{old, "struct A { a @0 :U8 = 5; b @1 :List(A); } struct B { or x @0 :E; or y @1 :Text; } enum E { p q }", false},
		{old, "struct A { or a @0 :U8 = 5; b @1 :List(B); } struct B { or x @0 :E; or y @1 :Text; } enum E { p q }", false},
		{old, "struct A { a @0 :U8 = 5; b @1 :List(B); } struct B { or x @0 :E; y @1 :Text; } enum E { p q }", false},
		{old, "struct A { b @0 :List(B); a @1 :U8 = 5; } struct B { or x @0 :E; or y @1 :Text; } enum E { p q }", false},
		{old, "struct A { a @0 :U8 = 5; b @1 :List(B); } struct B { or x @0 :E; or y @1 :Text; } enum E { p }", false},
		{old, "struct A { a @0 :U8 = 5; b @1 :List(B); } struct B { or x @0 :E; or y @1 :Text; } enum E { q p }", false},
		{old, "struct A { a @0 :U8 = 5; b @1 :List(B); } struct B { or x @0 :E; or y @1 :Text; } enum E { r p q }", false},
		{old, "struct A { a @0 :U8 = 5; b @1 :List(B); } struct B { or x @0 :E; or y @1 :Text; } enum E { p r q }", false},
		{old, "struct A { a @0 :U8 = 5; b @1 :List(B); } struct B { or x @0 :F; or y @1 :Text; } enum F { p q }", false},
		{old, "struct A { a @0 :U8 = 5; } struct C { or x @0 :U8; }", false},

		// A choice more where there was one; where there was none, or were two, it may be.
		{one, "struct A { or a @0 :U8; b @1 :U8; c @2 :U8; }", true},
		{one, "struct A { or a @0 :U8; b @1 :U8; or c @2 :U8; }", false},
		{one, "struct A { or a @0 :U8; b @1 :U8; c @2 :U8; or d @3 :Text; }", false},
		{one, "struct A { or a @0 :U8; b @1 :U8; } struct B { or a @0 :U8; or b @1 :U8; }", true},
		{"struct A { or a @0 :Text; }", "struct A { or a @0 :Text; or b @1 :Text; }", false},
		{"struct A { or a @0 :U8; or b @1 :U8; }", "struct A { or a @0 :U8; or b @1 :U8; or c @2 :U64; } struct U64 { a @0 :I64; }", true},
		{"struct A { a @0 :U8; }", "struct A { a @0 :U8; or b @1 :U8; }", true},
		{"struct A { a @0 :U8; }", "struct A { a @0 :U8; or b @1 :U8; or c @2 :U8; }", true},
		{"struct A { a @0 :U8; }", "struct A { a @0 :U8; } enum E { a }", true},
		{"struct A { a @0 :U8; } enum E { a }", "struct A { a @0 :U8; }", false},
		{"struct A { a @0 :U8; } enum E { a }", "struct A { a @0 :U8; } struct E { a @0 :U8; }", false},
		{"struct A { a @0 :U8; } struct E { a @0 :U8; }", "struct A { a @0 :U8; } enum E { a }", false},
	} {
		if grew := impl.IdlGrew(schemaOf(t, c.old), schemaOf(t, c.fresh)); grew != c.grew {
			t.Errorf("%q from %q: %v", c.fresh, c.old, grew)
		}
	}
}

// Promise 52: what is not fine has not grown, nor has anything from it.
func TestWhatIsNotFineHasNotGrown(t *testing.T) {
	r := rand.New(rand.NewSource(66))
	for _, s := range someSchemas(t, 66, 2000) {
		if x := changedSchema(r, s); checkIn(x) != impl.IdlFine && (impl.IdlGrew(s, x) || impl.IdlGrew(x, s) || impl.IdlGrew(x, x)) {
			t.Fatalf("%+v has grown from %+v, or the other way round", x, s)
		}
	}
	if impl.IdlGrew(impl.Schema{}, impl.Schema{}) {
		t.Error("nothing has grown from nothing")
	}
}

// Nothing of a call goes on when it has answered.
func TestReadingASchemaLeavesNothingRunning(t *testing.T) {
	before := runtime.NumGoroutine()
	for range 1000 {
		impl.IdlGet("struct A { a @0 :U8; }")
		impl.IdlGet("} } } struct A { a @0 :U8; }")
		impl.IdlGet("")
	}
	// One that has closed its channel may take a moment to end.
	for range 100 {
		if runtime.NumGoroutine() <= before {
			return
		}
		time.Sleep(10 * time.Millisecond)
	}
	t.Errorf("%d go on, and %d did before", runtime.NumGoroutine(), before)
}
