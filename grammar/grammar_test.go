package grammar

import (
	"reflect"
	"strings"
	"testing"

	"resume/tree"
	"resume/words"
)

// read answers how a text is read: "none", if it is no expression.
func read(t *testing.T, text string) string {
	t.Helper()
	list, ok := words.Split(text)
	if !ok {
		t.Fatalf("%q is no words", text)
	}
	got, ok := Read(list)
	if !ok {
		if !reflect.DeepEqual(got, tree.Tree{}) {
			t.Errorf("%q: a tree beside false", text)
		}
		return "none"
	}
	return showExp(got, got.Root)
}

func TestShapes(t *testing.T) {
	for _, c := range []struct{ text, want string }{
		{"1", "1"}, {"007", "7"}, {"true", "true"}, {"false", "false"}, {"x", "$0"}, {"[]", "[]"}, {"read", "read"},
		{"(1)", "1"}, {"((1))", "1"}, {"(1, 2)", "(, 1 2)"}, {"((1, 2), 3)", "(, (, 1 2) 3)"}, {"(fn x -> x, let x = 1 in x)", "(, (fn $0 $0) (let $0 1 $0))"},
		{"1 + 2 * 3", "(+ 1 (* 2 3))"}, {"1 * 2 + 3", "(+ (* 1 2) 3)"}, {"(1 + 2) * 3", "(* (+ 1 2) 3)"},
		{"7 - 2 - 1", "(- (- 7 2) 1)"}, {"7 - 2 + 1", "(+ (- 7 2) 1)"}, {"7 + 2 - 1 + 4", "(+ (- (+ 7 2) 1) 4)"}, {"7 - (2 - 1)", "(- 7 (- 2 1))"},
		{"8 / 4 / 2", "(/ (/ 8 4) 2)"}, {"8 / 4 * 2", "(* (/ 8 4) 2)"}, {"8 * 4 / 2 * 5", "(* (/ (* 8 4) 2) 5)"}, {"0 - 7 / 2", "(- 0 (/ 7 2))"},
		{"1 :: 2 :: []", "(:: 1 (:: 2 []))"}, {"(1 :: 2) :: 3", "(:: (:: 1 2) 3)"}, {"1 + 2 :: 3 - 4 :: []", "(:: (+ 1 2) (:: (- 3 4) []))"},
		{"1 = 2", "(= 1 2)"}, {"1 < 2", "(< 1 2)"}, {"1 :: [] = 2 :: []", "(= (:: 1 []) (:: 2 []))"}, {"1 + 1 < 2 * 2", "(< (+ 1 1) (* 2 2))"}, {"(1 = 2) = 3", "(= (= 1 2) 3)"},
		{"f x y", "(@ (@ $0 $1) $2)"}, {"f (x y)", "(@ $0 (@ $1 $2))"}, {"f x + g y", "(+ (@ $0 $1) (@ $2 $3))"}, {"f x * g y", "(* (@ $0 $1) (@ $2 $3))"},
		{"1 2", "(@ 1 2)"}, {"read read", "(@ read read)"}, {"f [] true (1) (1, 2)", "(@ (@ (@ (@ $0 []) true) 1) (, 1 2))"}, {"f(x)", "(@ $0 $1)"}, {"1x", "(@ 1 $0)"},
		{"raise 1", "(raise 1)"}, {"callcc f", "(callcc $0)"}, {"print x", "(print $0)"}, {"throw k 1", "(throw $0 1)"}, {"raise (raise 1)", "(raise (raise 1))"},
		{"raise 1 + raise 2", "(+ (raise 1) (raise 2))"}, {"print 1 * 2", "(* (print 1) 2)"}, {"throw k 1 - 2", "(- (throw $0 1) 2)"}, {"throw (k) (1, 2) :: []", "(:: (throw $0 (, 1 2)) [])"}, {"(raise f) x", "(@ (raise $0) $1)"},
		{"fn x -> x", "(fn $0 $0)"}, {"fn x -> fn y -> x y", "(fn $0 (fn $1 (@ $0 $1)))"}, {"fn x -> x = 1", "(fn $0 (= $0 1))"},
		{"let x = 1 in x", "(let $0 1 $0)"}, {"let x = 1 = 2 in x + 1", "(let $0 (= 1 2) (+ $0 1))"}, {"let x = let y = 1 in y in x", "(let $0 (let $1 1 $1) $0)"},
		{"if 1 then 2 else 3 + 4", "(if 1 2 (+ 3 4))"}, {"if if 1 then 2 else 3 then if 4 then 5 else 6 else if 7 then 8 else 9", "(if (if 1 2 3) (if 4 5 6) (if 7 8 9))"},
		{"let rec f x = x in f", "(rec ($0 $1 $1) $0)"}, {"let rec f x = g x and g y = f y and h f = f in g", "(rec ($0 $1 (@ $2 $1)) ($2 $3 (@ $0 $3)) ($4 $0 $0) $2)"},
		{"let rec f x = let rec g y = y and h z = z in 1 and i w = w in 2", "(rec ($0 $1 (rec ($2 $3 $3) ($4 $5 $5) 1)) ($6 $7 $7) 2)"},
		{"let rec f x = 1 g y = 2 in f", "(rec ($0 $1 (= (@ (@ 1 $2) $3) 2)) $0)"},
		{"try 1 with e -> 2 end", "(try 1 $0 2)"}, {"try try 1 with e -> 2 end with e -> 3 end", "(try (try 1 $0 2) $0 3)"},
		{"match 1 with 2 -> 3 end", "(match 1 (2 3))"}, {"match 1 with 2 -> 3 | x -> x | _ -> 4 end", "(match 1 (2 3) ($0 $0) (_ 4))"},
		{"match x with true -> 1 | false -> 2 | [] -> 3 | (4) -> 5 | (a, b) -> 6 end", "(match $0 (true 1) (false 2) ([] 3) (4 5) ((, $1 $2) 6))"},
		{"match x with a :: b :: _ -> 1 | (a :: b) :: c -> 2 | (a, b) :: (c :: []) -> 3 end", "(match $0 ((:: $1 (:: $2 _)) 1) ((:: (:: $1 $2) $3) 2) ((:: (, $1 $2) (:: $3 [])) 3))"},
		{"match 1 with 2 -> match 3 with 4 -> 5 | 6 -> 7 end | 8 -> 9 end", "(match 1 (2 (match 3 (4 5) (6 7))) (8 9))"},
		{"match match 1 with 2 -> 3 end with 4 -> 5 end", "(match (match 1 (2 3)) (4 5))"},
		{"match 1 with 2 -> fn x -> x | 3 -> let x = 1 in x end", "(match 1 (2 (fn $0 $0)) (3 (let $0 1 $0)))"},
	} {
		got := read(t, c.text)
		if got != c.want {
			t.Errorf("%q is read as %s, want %s", c.text, got, c.want)
		}
	}
}

func TestNoExp(t *testing.T) {
	for _, s := range []string{
		"", " ", "\n", "_", "()", "(", ")", "(1", "1)", "(1,", "(1, 2", "(1, 2, 3)", "(1,)", "(,1)", "((1)", "[] [] ,", "->", "|", "=", ",",
		"-1", "1 - -1", "1 +", "+ 1", "1 + + 1", "1 * / 2", "1 ::", ":: 1", "1 = 2 = 3", "1 < 2 < 3", "1 = 2 < 3", "1 =", "= 1",
		"raise", "callcc", "print", "throw", "throw 1", "raise 1 2", "print 1 2", "callcc f x", "throw k 1 2", "raise raise 1", "print print 1", "f raise 1", "f print 1",
		"raise fn x -> x", "callcc fn k -> 1", "throw fn x -> x 1", "f fn x -> x", "f let x = 1 in x",
		"fn", "fn x", "fn ->", "fn x x -> x", "fn 1 -> 1", "fn 1x -> 1", "fn _ -> 1", "fn fn -> 1", "fn (x) -> x", "fn x -> ", "fn x = x", "fn x -> 1 = fn",
		"let", "let x", "let x = 1", "let x = 1 in", "let x y = 1 in x", "let x = 1 and y = 2 in x", "let = 1 in 1", "let 1 = 1 in 1", "let _ = 1 in 1", "let (x, y) = 1 in 1", "let x 1 in x", "let x = in 1", "let x -> 1 in 1", "let in = 1 in 1",
		"let rec", "let rec f = 1 in f", "let rec f x y = 1 in f", "let rec f x = 1", "let rec f x = 1 and in f", "let rec f x = 1 and g in f", "let rec f x = 1 and g = 2 in f", "let rec f _ = 1 in f", "let rec f 1 = 1 in f", "let rec _ x = 1 in 1", "let rec f x = 1, g y = 2 in f", "let rec rec f x = 1 in f", "rec f x = 1 in f", "let rec f x = 1 and rec g y = 1 in f", "let rec f x = 1 in f and g y = 2",
		"if", "if 1", "if 1 then 2", "if 1 else 2", "if then 1 else 2", "if 1 then else 2", "if 1 then 2 else", "1 + if 1 then 2 else 3", "1 + let x = 1 in x", "1 :: fn x -> x", "1 = fn x -> x", "1 * match 1 with _ -> 1 end", "f try 1 with e -> 1 end", "try 1 with e -> 1 end + 1", "match 1 with _ -> 1 end 2",
		"match", "match 1", "match 1 with", "match 1 with end", "match 1 with 2 end", "match 1 with 2 -> end", "match 1 with 2 -> 3", "match with 1 -> 2 end", "match 1 with | 2 -> 3 end", "match 1 with 2 -> 3 | end", "match 1 with 2 -> 3 || 4 -> 5 end", "match 1 with 2 = 3 end", "match 1 with 2 -> 3 end end",
		"match 1 with x + 1 -> 2 end", "match 1 with read -> 2 end", "match 1 with f x -> 2 end", "match 1 with _ -> _ end", "match 1 with () -> 2 end", "match 1 with (1, 2, 3) -> 2 end", "match 1 with (1 -> 2 end", "match 1 with 1) -> 2 end", "match 1 with 1 :: -> 2 end", "match 1 with :: 1 -> 2 end", "match 1 with -1 -> 2 end", "match 1 with 1 = 1 -> 2 end", "match 1 with fn -> 2 end", "match 1 with 1, 2 -> 3 end", "match 1 with (x -> 1) -> 2 end",
		"try", "try 1", "try 1 with e -> 2", "try 1 with 2 -> 3 end", "try 1 with _ -> 3 end", "try 1 with (e) -> 3 end", "try with e -> 1 end", "try 1 with e -> end", "try 1 with e 2 end", "try 1 e -> 2 end", "try 1 with e -> 2 | f -> 3 end", "try 1 with end",
		"in", "then", "end", "with", "and", "rec", "1 in", "1 end", "f _", "_ 1", "(_)", "1, 2", "1 | 2", "1 -> 2",
		strings.Repeat("(", 240), strings.Repeat("(", 119) + "1" + strings.Repeat(")", 118), strings.Repeat("fn x->", 40), strings.Repeat("if ", 80), strings.Repeat("try ", 60), strings.Repeat("let rec ", 30), strings.Repeat("match ", 40), strings.Repeat("1::", 80), strings.Repeat("1+", 120),
	} {
		got := read(t, s)
		if got != "none" {
			t.Errorf("%q is read as %s", s, got)
		}
	}
}

func TestDeep(t *testing.T) {
	for _, s := range []string{
		strings.Repeat("(", 119) + "1" + strings.Repeat(")", 119), strings.Repeat("fn x->", 39) + "1", strings.Repeat("1::", 79) + "[]", strings.Repeat("1+", 119) + "1", strings.Repeat("[]", 120), strings.Repeat("(1,", 59) + "1" + strings.Repeat(")", 59),
		"match 1 with " + strings.Repeat("(", 90) + "1" + strings.Repeat(")", 90) + " -> 1 end", "match 1 with " + strings.Repeat("_::", 60) + "_ -> 1 end",
	} {
		if read(t, s) == "none" {
			t.Errorf("%.60q.. is no expression", s)
		}
	}
}

// A part stands behind the parts that it is made of, and all places are ones
// of the lists: what walks over a tree ends and goes nowhere else.
func TestPlaces(t *testing.T) {
	list, _ := words.Split("let rec f x = try (x, 1 :: []) with e -> e end and g y = fn z -> if y then throw f z else raise y in match f g with (a, b :: _) -> print a | c -> c end")
	got, ok := Read(list)
	if !ok || got.Root != len(got.Exps)-1 {
		t.Fatalf("read: %v, %v", got, ok)
	}
	for i, e := range got.Exps {
		parts := []int{e.First, e.Second, e.Third}
		for _, f := range e.Funs {
			parts = append(parts, f.Body)
		}
		for _, a := range e.Arms {
			parts = append(parts, a.Body)
		}
		for _, p := range parts {
			if i > 0 && (p < 0 || p >= i) {
				t.Errorf("expression %d has the part %d", i, p)
			}
		}
	}
	if want := []int{0, 1, 2, 3, 4, 5, 6, 7, 8}; !reflect.DeepEqual(got.Binders, want) {
		t.Errorf("binders %v, want %v", got.Binders, want)
	}
	if len(got.Exps) != 23 || len(got.Pats) != 6 {
		t.Errorf("%d expressions, %d patterns", len(got.Exps), len(got.Pats))
	}
}
