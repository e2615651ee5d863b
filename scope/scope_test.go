package scope

import (
	"fmt"
	"strings"
	"testing"

	"resume/grammar"
	"resume/tree"
	"resume/words"
)

// find answers the binders of the names that are used, in the order of the
// text ("none": ErrScope). Binders are counted from 0 in the order of the text.
func find(t *testing.T, text string) string {
	t.Helper()
	list, isWords := words.Split(text)
	whole, isExp := grammar.Read(list)
	if !isWords || !isExp {
		t.Fatalf("%q is no expression", text)
	}
	means, ok := Find(whole)
	if !ok {
		if means != nil {
			t.Errorf("%q: a list beside false", text)
		}
		return "none"
	}
	if len(means) != len(whole.Exps) {
		t.Fatalf("%q: %d answers for %d expressions", text, len(means), len(whole.Exps))
	}
	var used []string
	for i, e := range whole.Exps {
		if e.Kind == tree.Name {
			used = append(used, fmt.Sprint(means[i]))
		} else if means[i] != Nobody {
			t.Errorf("%q: expression %d, which is no name, has the binder %d", text, i, means[i])
		}
	}
	return strings.Join(used, " ")
}

func TestInSight(t *testing.T) {
	for _, c := range []struct{ text, want string }{
		{"1", ""}, {"read", ""},
		{"let x = 1 in x", "0"}, {"let x = 1 in let y = 2 in (x, y)", "0 1"}, {"let x = let y = 1 in y in x", "1 0"},
		{"fn x -> x", "0"}, {"fn x -> fn y -> x y", "0 1"}, {"fn f -> fn g -> fn x -> f (g x)", "0 1 2"},
		{"let rec f x = f x in f", "0 1 0"}, {"let rec f x = g x and g y = f y in g f", "2 1 0 3 2 0"}, {"let rec f x = h and g x = f and h x = g in 1", "4 0 2"},
		{"try 1 with e -> e end", "0"}, {"fn x -> try x with e -> (x, e) end", "0 0 1"},
		{"match 1 with x -> x end", "0"}, {"match 1 with (x, y :: z) -> (z, (y, x)) end", "2 1 0"}, {"fn x -> match x with y -> (x, y) | _ -> x end", "0 0 1 0"},
		{"match [] with x :: [] -> x | (x, y) -> y | x -> x end", "0 2 3"},
		{"fn x -> if x then x else x", "0 0 0"}, {"fn x -> x :: x = x + x", "0 0 0 0"}, {"fn x -> x < x - x * x / x", "0 0 0 0 0"},
		{"fn x -> (raise x, (callcc x, (print x, throw x x)))", "0 0 0 0 0"},
		{"fn abc -> fn ab -> fn abcd -> (ab, (abcd, abc))", "1 2 0"}, {"fn _x -> fn __ -> (_x, __)", "0 1"},
	} {
		got := find(t, c.text)
		if got != c.want {
			t.Errorf("%q: the names mean %s, want %s", c.text, got, c.want)
		}
	}
}

func TestInnermost(t *testing.T) {
	for _, c := range []struct{ text, want string }{
		{"let x = 1 in let x = 2 in x", "1"}, {"let x = 1 in let x = x in x", "0 1"}, {"let x = let x = 1 in x in x", "1 0"},
		{"let x = 1 in (let x = 2 in x, x)", "1 0"}, {"let x = 1 in let f = fn y -> x + y in let x = 10 in f x", "0 2 1 3"},
		{"fn x -> fn x -> x", "1"}, {"fn x -> (fn x -> x) x", "1 0"}, {"fn x -> (x, (fn x -> x, x))", "0 1 0"},
		{"let rec f f = f in f", "1 0"}, {"let rec f g = g f and g f = f g in f g", "1 0 3 2 0 2"}, {"let rec f x = x and g x = x in g", "1 3 2"},
		{"let f = 1 in let rec f x = f in f", "1 1"}, {"fn x -> let rec f x = x in f x", "2 1 0"}, {"let rec f x = let rec f y = f in f in f", "2 2 0"}, {"let rec f x = let f = f in f in f", "0 2 0"},
		{"fn e -> try e with e -> e end", "0 1"}, {"fn e -> (try 1 with e -> e end, e)", "1 0"}, {"try 1 with e -> try e with e -> e end end", "0 1"},
		{"fn x -> match x with x -> x | y -> x | x :: y -> x end", "0 1 0 3"}, {"fn x -> (match x with (x, _) -> x end, x)", "0 1 0"}, {"match 1 with x -> match x with x -> x end end", "0 1"},
		{"let rec f x = 1 in match f with (f, x) -> f x end", "0 2 3"}, {"fn x -> match 1 with 1 -> x | x -> x | _ -> x end", "0 1 0"},
	} {
		got := find(t, c.text)
		if got != c.want {
			t.Errorf("%q: the names mean %s, want %s", c.text, got, c.want)
		}
	}
}

func TestNotInSight(t *testing.T) {
	for _, s := range []string{
		"x", "_x", "letx", "1 + x", "x + 1", "x 1", "f x", "(1, x)", "(x, 1)", "1 :: x", "x :: []", "1 = x", "x < 1", "1 - x", "1 * x", "x / 1",
		"raise x", "callcc x", "print x", "fn k -> throw k x", "fn k -> throw x k", "if x then 1 else 2", "if true then x else 2", "if true then 1 else x",
		"let x = x in x", "let x = x in 1", "let x = 1 in y", "(let x = 1 in x, x)", "let x = let y = 1 in y in y",
		"fn x -> y", "(fn x -> x) x", "(fn x -> fn y -> x) y", "fn x -> (fn y -> x, y)",
		"let rec f x = y in f", "let rec f x = f in x", "let rec f x = 1 and g y = x in f", "let rec f x = y and g y = 1 in f", "let rec f x = g in f", "(let rec f x = f in f) f", "let rec f x = let rec g y = 1 in 1 and h z = g in f",
		"try e with e -> 1 end", "try 1 with e -> f end", "(try 1 with e -> e end, e)",
		"match x with x -> x end", "match 1 with x -> 1 | y -> x end", "match 1 with x -> y | y -> 1 end", "match 1 with _ -> x end", "(match 1 with x -> x end, x)", "match 1 with 1 -> 2 | 3 -> x end",
		"fn x -> xx", "fn xx -> x", "fn x -> x1", "fn x -> _x",
	} {
		got := find(t, s)
		if got != "none" {
			t.Errorf("%q: the names mean %s", s, got)
		}
	}
}

func TestBoundTwice(t *testing.T) {
	for _, s := range []string{
		"match 1 with (x, x) -> 1 end", "match 1 with (x, (x)) -> 1 end", "match 1 with x :: x -> 1 end", "match 1 with x :: y :: x -> 1 end", "match 1 with ((x, 1), (y, (z, x))) -> 1 end", "match 1 with (x :: _, _ :: x) -> 1 end",
		"match 1 with _ -> 1 | (x, x) -> 2 end", "match 1 with (y, (x, y)) -> 1 end", "fn x -> match x with (x, x) -> 1 end", "(1, fn y -> match y with (x, x) -> 1 end)",
		"let rec f x = 1 and f y = 2 in f 1", "let rec f x = 1 and g x = 2 and f x = 3 in 1", "let rec f x = 1 and g y = 2 and g z = 3 in 1", "let f = 1 in let rec f x = 1 and f x = 1 in 1", "let rec f x = let rec g y = 1 and g y = 1 in 1 in 1",
	} {
		got := find(t, s)
		if got != "none" {
			t.Errorf("%q: the names mean %s", s, got)
		}
	}
	for _, s := range []string{
		"match 1 with (_, _) -> 1 end", "match 1 with _ :: _ -> 1 end", "match 1 with (x, y) -> 1 | (x, y) -> 2 | (y, x) -> 3 end", "match 1 with x -> match 1 with x -> 1 end end",
		"fn x -> match 1 with (x, y) -> 1 end", "let rec f f = 1 in 1", "let rec f x = 1 and g x = 2 in 1", "let rec f g = 1 and g f = 2 in 1", "let f = 1 in let rec f x = 1 in 1", "let rec f x = 1 in let rec f x = 1 in 1", "let x = 1 in let x = 1 in 1", "fn x -> fn x -> 1", "try 1 with e -> try 1 with e -> 1 end end",
	} {
		got := find(t, s)
		if got == "none" {
			t.Errorf("%q: ErrScope", s)
		}
	}
}
