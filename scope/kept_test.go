package scope

import (
	"fmt"
	"strings"
	"testing"

	"resume/grammar"
	"resume/tree"
	"resume/words"
)

// keeps answers the binders that each fn and each let rec uses; what stands
// within another comes before it.
func keeps(t *testing.T, text string) string {
	t.Helper()
	list, _ := words.Split(text)
	whole, _ := grammar.Read(list)
	means, ok := Find(whole)
	if !ok {
		t.Fatalf("%q is no program", text)
	}
	kept := Kept(whole, means)
	if len(kept) != len(whole.Exps) {
		t.Fatalf("%q: %d answers for %d expressions", text, len(kept), len(whole.Exps))
	}
	var texts []string
	for i, e := range whole.Exps {
		if e.Kind != tree.Fn && e.Kind != tree.LetRec {
			if kept[i] != nil {
				t.Errorf("%q: expression %d keeps %v", text, i, kept[i])
			}
			continue
		}
		if len(kept[i]) != len(whole.Binders) {
			t.Fatalf("%q: %d answers for %d binders", text, len(kept[i]), len(whole.Binders))
		}
		var binders []string
		for b, isUsed := range kept[i] {
			if isUsed {
				binders = append(binders, fmt.Sprint(b))
			}
		}
		texts = append(texts, strings.Join(binders, " "))
	}
	return strings.Join(texts, ", ")
}

func TestKept(t *testing.T) {
	for _, c := range []struct{ text, want string }{
		{"1", ""}, {"fn x -> x", "0"}, {"fn x -> 1", ""}, {"fn x -> fn y -> x", "0, 0"}, {"fn x -> fn y -> y", "1, 1"}, {"fn f -> fn g -> fn x -> f (g x)", "0 1 2, 0 1 2, 0 1 2"},
		{"let a = 1 in let b = 2 in (a, fn x -> b)", "1"}, {"let a = 1 in let b = 2 in (fn x -> b, a)", "1"}, {"let a = 1 in (a + a) * (fn x -> x) a", "1"}, {"let a = 1 in let b = 2 in ((fn x -> a) b, (fn x -> b) a)", "0, 1"}, {"fn x -> fn x -> x", "1, 1"}, {"fn x -> (fn y -> 1) x", ", 0"},
		{"let a = 1 in let rec f x = a in f a", "0"}, {"let a = 1 in let rec f x = x in f a", "2"}, {"let a = 1 in let rec f x = f a in 5", "0 1"}, {"let a = 1 in let b = 2 in let rec f x = b and g x = f a in b", "0 1 2"}, {"let a = 1 in let b = 2 in let rec f x = 1 and g x = a in (f, b)", "0"}, {"let rec f x = fn y -> (f, y) in fn z -> f z", "0 2, 0 3, 0 2"}, {"let rec f x = let rec g y = f y in g in f", "0 3, 0 2 3"},
		{"fn a -> if a then fn x -> a else fn y -> y", "0, 2, 0 2"}, {"fn a -> match a with (b, c) -> fn x -> b | d -> fn x -> d end", "1, 4, 0 1 4"}, {"fn a -> try fn x -> a with e -> fn x -> e end", "0, 2, 0 2"}, {"fn a -> fn b -> (raise a, (fn x -> callcc b, throw a b))", "1, 0 1, 0 1"}, {"fn a -> (1 + a, fn x -> read :: x :: [])", "1, 0 1"},
	} {
		got := keeps(t, c.text)
		if got != c.want {
			t.Errorf("%q: %q, want %q", c.text, got, c.want)
		}
	}
}
