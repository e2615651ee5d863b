package resume_test

import (
	"strings"
	"testing"

	"resume/api"
	"resume/resume"
)

// check: Compile answers e, and a program just where e is OK.
func check(t *testing.T, s string, e api.Errno) {
	t.Helper()
	p, got := resume.Compile(s)
	if got != e {
		t.Errorf("Compile(%.80q) = %d, want %d", s, got, e)
	}
	if (p == nil) != (got != api.OK) {
		t.Errorf("Compile(%.80q) = %v beside %d", s, p, got)
	}
}

func TestLong(t *testing.T) {
	for _, s := range []string{
		"1" + strings.Repeat(" ", 239), strings.Repeat("1+", 119) + "11", strings.Repeat("\n", 239) + "1", strings.Repeat("0", 240),
		"fn " + strings.Repeat("x", 116) + "->" + strings.Repeat("x", 116) + " 12",
	} {
		if len(s) != 240 {
			t.Errorf("%.20q has %d bytes", s, len(s))
		}
		check(t, s, api.OK)
		check(t, s+" ", api.ErrLong)
		check(t, s+"#", api.ErrLong)
	}
	check(t, strings.Repeat(" ", 240), api.ErrSyntax)
	check(t, strings.Repeat("#", 240), api.ErrLex)
	check(t, strings.Repeat("x", 240), api.ErrScope)
	for _, s := range []string{" ", "#", "1", "x", "é", "+", "\x00"} {
		check(t, strings.Repeat(s, 241), api.ErrLong)
		check(t, strings.Repeat(s, 100000), api.ErrLong)
	}
}

func TestErrors(t *testing.T) {
	for _, c := range []struct {
		s string
		e api.Errno
	}{
		{"1 + 2 * 3", api.OK}, {"2 :: 3 :: []", api.OK}, {"(1, (true, []))", api.OK}, {"let id = fn x -> x in (id 1, id true)", api.OK},
		{"let rec e n = if n = 0 then true else o (n - 1) and o n = if n = 0 then false else e (n - 1) in e 101", api.OK},
		{"match (1 :: 2 :: [], 3) with ([], y) -> y | (x :: [], y) -> x | (x :: y :: _, 3) -> x * 100 + y | _ -> 0 end", api.OK},
		{"let j = callcc (fn k -> raise (callcc (fn j -> throw k j))) in try throw j 5 with e -> e end", api.OK},
		{"let rec r n = if n < 1 then 0 else print (r (n-1) + read) in r 3", api.OK},
		{"999999", api.OK}, {"1000000", api.ErrLex}, {"0999999", api.OK}, {"01000000", api.ErrLex}, {"1 + # 2", api.ErrLex}, {"[ ]", api.ErrLex}, {"1\t", api.ErrLex},
		{"", api.ErrSyntax}, {" \n ", api.ErrSyntax}, {"callcc", api.ErrSyntax}, {"(1, 2, 3)", api.ErrSyntax}, {"if true then 1", api.ErrSyntax}, {"1 = 2 = true", api.ErrSyntax}, {"_", api.ErrSyntax},
		{"1 true", api.ErrType}, {"fn x -> x x", api.ErrType}, {"true = true", api.ErrType}, {"(fn id -> (id 1, id true)) (fn x -> x)", api.ErrType}, {"let f = (fn x -> x) (fn y -> y) in (f 1, f true)", api.ErrType}, {"let x = 1 true in 2", api.ErrType},
		{"x", api.ErrScope}, {"let x = x in x", api.ErrScope}, {"match (1, 2) with (x, x) -> x end", api.ErrScope}, {"let rec f x = 1 and f y = 2 in f 1", api.ErrScope}, {"letx", api.ErrScope},
	} {
		check(t, c.s, c.e)
	}
}

// Where several errors apply, the answer is the one named first.
func TestFirstError(t *testing.T) {
	for _, c := range []struct {
		s string
		e api.Errno
	}{
		{"x + #", api.ErrLex}, {"+ + #", api.ErrLex}, {") 1000000", api.ErrLex}, {"fn x -> y 1 \x00", api.ErrLex}, {"fn fn [", api.ErrLex},
		{"x +", api.ErrSyntax}, {"x y z )", api.ErrSyntax}, {"let x = x in", api.ErrSyntax}, {"match 1 with (x, x) -> y", api.ErrSyntax}, {"let rec f x = 1 and f y = 2", api.ErrSyntax},
		{"x 1 true", api.ErrScope}, {"true + x", api.ErrScope}, {"(1 1, x)", api.ErrScope}, {"(fn x -> x x) y", api.ErrScope}, {"match 1 with (x, x) -> true 1 end", api.ErrScope}, {"let rec f x = f and f y = f in 1 1", api.ErrScope},
		{"1 1 #", api.ErrLex}, {"(1 1", api.ErrSyntax}, {strings.Repeat("1", 6) + strings.Repeat(" 1", 118), api.ErrLong}, {"1" + strings.Repeat(" 1", 119), api.ErrType},
		{strings.Repeat("x", 240) + "#", api.ErrLong}, {strings.Repeat("(", 241), api.ErrLong},
	} {
		check(t, c.s, c.e)
	}
}

func TestType(t *testing.T) {
	for _, c := range []struct{ s, want string }{
		{"1 + 2 * 3", "int"}, {"1 < 2", "bool"}, {"2 :: 3 :: []", "int list"}, {"(1, (true, []))", "(int * (bool * 'a list))"}, {"fn f -> fn g -> fn x -> f (g x)", "(('a -> 'b) -> (('c -> 'a) -> ('c -> 'b)))"},
		{"let id = fn x -> x in (id 1, id true)", "(int * bool)"}, {"let rec f x = f (f x) in f", "('a -> 'a)"}, {"fn k -> fn x -> throw k x", "('a cont -> ('a -> 'b))"}, {"try raise 1 with e -> raise (e + 1) end", "'a"},
		{"let rec r n = if n < 1 then 0 else print (r (n-1) + read) in r 3", "int"}, {"let a=fn x->(x,x)in let b=fn x->a(a(a x))in b(b(b 1))::[]", ".."},
	} {
		p, e := resume.Compile(c.s)
		if e != api.OK || p == nil {
			t.Errorf("Compile(%q) = %v, %d", c.s, p, e)
		} else if p.Type() != c.want || p.Type() != c.want {
			t.Errorf("the type of %q is %q, want %q", c.s, p.Type(), c.want)
		}
	}
}

// The type of what is no program can be asked for, too.
func TestTypeOfNothing(t *testing.T) {
	p, _ := resume.Compile("1 1")
	if p.Type() != "" || (&resume.Program{}).Type() != "" {
		t.Error("what is no program has a type")
	}
}

// Every text ends with an answer, and the same one each time.
func TestAnyText(t *testing.T) {
	pieces := []string{"let ", "rec ", "and ", "in ", "fn ", "if ", "then ", "else ", "match ", "with ", "end ", "try ", "raise ", "callcc ", "throw ", "print ", "read ", "true ", "_ ", "->", "::", "[]", "=", "<", "+", "-", "*", "/", "(", ")", ",", "|", "x ", "y ", "1 ", "999999", "\n", "#", "[", "\xff"}
	state := uint64(7)
	for i := 0; i < 20000; i++ {
		s := ""
		for n := i % 90; n > 0; n-- {
			state = state*6364136223846793005 + 1442695040888963407
			s += pieces[int(state>>33)%(len(pieces)-i%4)]
		}
		p, e := resume.Compile(s)
		_, again := resume.Compile(s)
		if e != again || e < api.OK || e > api.ErrType || (p == nil) != (e != api.OK) || (e == api.ErrLong) != (len(s) > 240) {
			t.Fatalf("Compile(%q) = %v, %d, then %d", s, p, e, again)
		}
	}
}
