package types

import (
	"strings"
	"testing"
)

func wantText(t *testing.T, s *Store, typ Type, want string) {
	t.Helper()
	got := s.Text(typ)
	if got != want {
		t.Errorf("the text is %.80q, want %.80q", got, want)
	}
}

func TestText(t *testing.T) {
	s := New()
	a, b := s.Unknown(), s.Unknown()
	wantText(t, &s, Int, "int")
	wantText(t, &s, Bool, "bool")
	wantText(t, &s, b, "'a")
	wantText(t, &s, s.List(s.List(Int)), "int list list")
	wantText(t, &s, s.Cont(s.List(s.Cont(Bool))), "bool cont list cont")
	wantText(t, &s, s.Pair(b, a), "('a * 'b)")
	wantText(t, &s, s.Pair(s.Pair(b, a), s.Function(a, b)), "(('a * 'b) * ('b -> 'a))")
	wantText(t, &s, s.List(s.Pair(Int, Bool)), "(int * bool) list")
	wantText(t, &s, s.Function(s.Function(a, a), s.Cont(s.Function(b, a))), "(('a -> 'a) -> ('b -> 'a) cont)")
	if !s.Sound() {
		t.Error("not sound")
	}
}

// Behind 'z comes 'a again, and so on.
func TestManyUnknown(t *testing.T) {
	s := New()
	first := s.Unknown()
	typ := s.Pair(first, first)
	want := "('a * 'a)"
	for i := 1; i < 80; i++ {
		typ = s.Pair(typ, s.Unknown())
		want = "(" + want + " * '" + string(rune('a'+i%26)) + ")"
	}
	wantText(t, &s, typ, want)
}

func TestParts(t *testing.T) {
	for _, c := range []struct {
		parts int
		great bool
	}{{1, false}, {1022, false}, {1023, false}, {1024, true}, {1025, true}, {5000, true}} {
		s := New()
		lists, conts, typ := Int, Bool, s.Unknown()
		for i := 1; i < c.parts; i++ {
			lists, conts = s.List(lists), s.Cont(conts)
		}
		want := [2]string{"int" + strings.Repeat(" list", c.parts-1), "bool" + strings.Repeat(" cont", c.parts-1)}
		if c.great {
			want = [2]string{"..", ".."}
		}
		wantText(t, &s, lists, want[0])
		wantText(t, &s, conts, want[1])
		// Pairs and functions count two parts and themselves.
		for i := 1; i+2 <= c.parts; i += 2 {
			if i%4 == 1 {
				typ = s.Pair(Int, typ)
			} else {
				typ = s.Function(typ, Bool)
			}
		}
		if c.parts%2 == 1 && (s.Text(typ) == "..") != c.great {
			t.Errorf("%d parts: %.80q", c.parts, s.Text(typ))
		}
	}
}

// What is shared in the store stands in the text as often as it is used.
func TestShared(t *testing.T) {
	s := New()
	typ := s.Unknown()
	for i := 0; i < 9; i++ {
		typ = s.Pair(typ, typ)
	}
	got := s.Text(typ)
	if strings.Count(got, "'a") != 512 || strings.Count(got, "*") != 511 {
		t.Errorf("1023 parts are told as %.80q", got)
	}
	wantText(t, &s, s.List(typ), "..")
	for i := 9; i < 300; i++ {
		typ = s.Pair(typ, typ)
		wantText(t, &s, typ, "..")
	}
}

func TestSame(t *testing.T) {
	s := New()
	a, b, c := s.Unknown(), s.Unknown(), s.Unknown()
	if !s.Same(a, b) || !s.Same(b, a) || !s.Same(b, b) {
		t.Error("unknown types are not made the same")
	}
	wantText(t, &s, s.Pair(a, s.Pair(b, c)), "('a * ('a * 'b))")
	if !s.Same(s.Pair(a, s.List(c)), s.Pair(s.Function(c, c), s.List(Int))) {
		t.Error("pairs are not made the same")
	}
	wantText(t, &s, s.Pair(b, c), "((int -> int) * int)")
	if !s.Same(Int, Int) || !s.Same(c, Int) || !s.Same(Int, c) || !s.Sound() {
		t.Error("int is not int")
	}
}

func TestNotSame(t *testing.T) {
	s := New()
	u := s.Unknown()
	kinds := []Type{Int, Bool, s.List(u), s.Cont(u), s.Pair(u, u), s.Function(u, u)}
	for i, left := range kinds {
		for j, right := range kinds {
			if s.Same(left, right) != (i == j) {
				t.Errorf("Same(%s, %s) = %v", s.Text(left), s.Text(right), i != j)
			}
		}
	}
	for _, c := range []struct{ left, right Type }{
		{s.List(Int), s.List(Bool)}, {s.Cont(Int), s.Cont(Bool)},
		{s.Pair(Int, Int), s.Pair(Int, Bool)}, {s.Pair(Int, Int), s.Pair(Bool, Int)},
		{s.Function(Int, Int), s.Function(Int, Bool)}, {s.Function(Int, Int), s.Function(Bool, Int)},
	} {
		if s.Same(c.left, c.right) {
			t.Errorf("two types were made the same: %s", s.Text(c.left))
		}
	}
	if s.Text(Int) != "int" || s.Text(Bool) != "bool" {
		t.Error("int and bool became the same")
	}
}

// Types that are parts of themselves can be made the same in an end, too.
func TestPartOfItself(t *testing.T) {
	for shape := 0; shape < 6; shape++ {
		s := New()
		a, b := s.Unknown(), s.Unknown()
		wrap := func(u Type) Type {
			return []Type{s.List(u), s.Cont(u), s.Pair(u, Int), s.Pair(Int, u), s.Function(u, Int), s.Function(Int, u)}[shape]
		}
		if !s.Sound() || !s.Same(a, wrap(wrap(b))) || !s.Sound() {
			t.Errorf("shape %d: not sound", shape)
		}
		if !s.Same(wrap(a), b) || s.Sound() {
			t.Errorf("shape %d: sound", shape)
		}
		if !s.Same(a, b) || !s.Same(a, wrap(a)) || s.Sound() {
			t.Errorf("shape %d: two types that go on for ever", shape)
		}
		if s.Open(a, nil) || s.Instance(a) != a || s.Text(a) != ".." {
			t.Errorf("shape %d: opened", shape)
		}
		if !s.Open(s.Pair(Int, s.Unknown()), []Type{a, b}) {
			t.Errorf("shape %d: another type cannot be opened", shape)
		}
	}
}

func TestInstance(t *testing.T) {
	s := New()
	a, b, c := s.Unknown(), s.Unknown(), s.Unknown()
	whole := s.Function(s.Pair(a, b), s.Pair(s.List(c), a))
	if s.Instance(whole) != whole || s.Instance(a) != a {
		t.Error("what is not open has an instance of its own")
	}
	if !s.Open(whole, []Type{s.Cont(s.List(b)), Int}) {
		t.Error("not opened")
	}
	first, second := s.Instance(whole), s.Instance(whole)
	wantText(t, &s, s.Pair(first, second), "((('a * 'b) -> ('c list * 'a)) * (('d * 'b) -> ('e list * 'd)))")
	d := s.Unknown()
	if !s.Same(first, s.Function(s.Pair(Int, Bool), d)) {
		t.Error("an instance is not made the same")
	}
	wantText(t, &s, s.Pair(first, second), "(((int * bool) -> ('a list * int)) * (('b * bool) -> ('c list * 'b)))")
	wantText(t, &s, b, "bool")
	wantText(t, &s, s.Instance(whole), "(('a * bool) -> ('b list * 'a))")
}

// Two types that were opened one after the other may share what is unknown.
func TestOpenTwo(t *testing.T) {
	s := New()
	a, b := s.Unknown(), s.Unknown()
	left, right := s.Function(a, b), s.Function(b, a)
	if !s.Open(left, nil) || !s.Open(right, nil) {
		t.Error("not opened")
	}
	l, r := s.Instance(left), s.Instance(right)
	wantText(t, &s, s.Pair(l, r), "(('a -> 'b) * ('c -> 'd))")
	if !s.Same(l, s.Function(Int, Int)) || !s.Same(r, s.Function(Bool, Bool)) {
		t.Error("instances are not made the same")
	}
	wantText(t, &s, s.Instance(left), "('a -> 'b)")
}

// An instance shares what it can: else it could not be laid in.
func TestInstanceOfGreat(t *testing.T) {
	s := New()
	typ := s.Unknown()
	for i := 0; i < 1000; i++ {
		typ = s.Pair(typ, typ)
	}
	if !s.Open(typ, nil) {
		t.Error("not opened")
	}
	size := s.size
	one, other := s.Instance(typ), s.Instance(typ)
	if s.size != size+2*1001 {
		t.Errorf("two instances took %d places", s.size-size)
	}
	if !s.Same(one, other) || !s.Sound() {
		t.Error("two instances are not made the same")
	}
}
