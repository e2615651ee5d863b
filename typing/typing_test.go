package typing

import (
	"strings"
	"testing"

	"resume/grammar"
	"resume/scope"
	"resume/tree"
	"resume/words"
)

func read(t *testing.T, text string) tree.Tree {
	t.Helper()
	list, isWords := words.Split(text)
	whole, isExp := grammar.Read(list)
	if !isWords || !isExp {
		t.Fatalf("%q is no expression", text)
	}
	return whole
}

// find answers the type of a text: "none", if it has none.
func find(t *testing.T, text string) string {
	t.Helper()
	whole := read(t, text)
	means, inSight := scope.Find(whole)
	if !inSight {
		t.Fatalf("%q: a name is not in sight", text)
	}
	typ, ok := Find(whole, means)
	if ok {
		return typ
	}
	if typ != "" {
		t.Errorf("%q: the type %q beside false", text, typ)
	}
	return "none"
}

type example struct{ text, want string }

func check(t *testing.T, list []example) {
	t.Helper()
	for _, c := range list {
		got := find(t, c.text)
		if got != c.want {
			t.Errorf("the type of %q is %.200s, want %.200s", c.text, got, c.want)
		}
	}
}

func TestInts(t *testing.T) {
	check(t, []example{
		{"0", "int"}, {"999999", "int"}, {"read", "int"}, {"true", "bool"}, {"false", "bool"},
		{"1 + 2", "int"}, {"1 - 2", "int"}, {"1 * 2", "int"}, {"1 / 2", "int"}, {"1 = 2", "bool"}, {"1 < 2", "bool"}, {"print 1", "int"},
		{"fn x -> x + 1", "(int -> int)"}, {"fn x -> 1 + x", "(int -> int)"}, {"fn x -> x - 1", "(int -> int)"}, {"fn x -> 1 - x", "(int -> int)"},
		{"fn x -> x * 1", "(int -> int)"}, {"fn x -> 1 * x", "(int -> int)"}, {"fn x -> x / 1", "(int -> int)"}, {"fn x -> 1 / x", "(int -> int)"},
		{"fn x -> x = 1", "(int -> bool)"}, {"fn x -> 1 = x", "(int -> bool)"}, {"fn x -> x < 1", "(int -> bool)"}, {"fn x -> 1 < x", "(int -> bool)"},
		{"fn x -> fn y -> x = y", "(int -> (int -> bool))"}, {"fn x -> fn y -> x + y", "(int -> (int -> int))"}, {"fn x -> print x", "(int -> int)"},
		{"1 + true", "none"}, {"true + 1", "none"}, {"1 - true", "none"}, {"true - 1", "none"}, {"1 * []", "none"}, {"[] * 1", "none"}, {"1 / (1, 2)", "none"}, {"(1, 2) / 1", "none"},
		{"true = 1", "none"}, {"1 = true", "none"}, {"true = true", "none"}, {"[] = []", "none"}, {"(1, 2) = (1, 2)", "none"}, {"1 < []", "none"}, {"true < false", "none"},
		{"print true", "none"}, {"print []", "none"}, {"print (fn x -> x)", "none"}, {"read + true", "none"}, {"(1 = 2) + 1", "none"}, {"(1 < 2) = 3", "none"}, {"read 1", "none"},
	})
}

func TestIf(t *testing.T) {
	check(t, []example{
		{"if true then 1 else 2", "int"}, {"if 1 < 2 then [] else 1 :: []", "int list"}, {"if 1 < 2 then 1 :: [] else []", "int list"},
		{"fn x -> if x then x else x", "(bool -> bool)"}, {"fn x -> fn y -> fn z -> if x then y else z", "(bool -> ('a -> ('a -> 'a)))"}, {"if true then raise 1 else 2", "int"}, {"if raise 1 then raise 2 else raise 3", "'a"},
		{"if 1 then 2 else 3", "none"}, {"if [] then 2 else 3", "none"}, {"if true then 1 else true", "none"}, {"if true then [] else 1", "none"}, {"fn x -> if x then x else 1", "none"}, {"fn x -> if x + 1 then 1 else 2", "none"},
	})
}

func TestListsAndPairs(t *testing.T) {
	check(t, []example{
		{"[]", "'a list"}, {"1 :: []", "int list"}, {"[] :: []", "'a list list"}, {"1 :: 2 :: []", "int list"}, {"([] :: []) :: []", "'a list list list"}, {"(1 :: []) :: [] :: []", "int list list"},
		{"fn x -> x :: []", "('a -> 'a list)"}, {"fn x -> fn y -> x :: y", "('a -> ('a list -> 'a list))"}, {"fn x -> 1 :: x", "(int list -> int list)"}, {"fn x -> x :: 1 :: []", "(int -> int list)"},
		{"(1, true)", "(int * bool)"}, {"(1, (2, 3))", "(int * (int * int))"}, {"((1, 2), 3)", "((int * int) * int)"}, {"([], [])", "('a list * 'b list)"}, {"(1, true) :: []", "(int * bool) list"}, {"fn x -> (x, x)", "('a -> ('a * 'a))"},
		{"fn x -> fn y -> (y, x)", "('a -> ('b -> ('b * 'a)))"}, {"(fn x -> x) :: []", "('a -> 'a) list"}, {"(fn x -> x) :: (fn x -> x + 1) :: []", "(int -> int) list"},
		{"1 :: 2", "none"}, {"1 :: true", "none"}, {"1 :: true :: []", "none"}, {"1 :: [] :: []", "none"}, {"[] :: 1 :: []", "none"}, {"(1 :: []) :: 2 :: []", "none"}, {"fn x -> x :: x", "none"}, {"(1, 2) :: (1, true) :: []", "none"}, {"(1, 2) :: (true, 2) :: []", "none"}, {"1 + (1, 2)", "none"},
	})
}

func TestFunctions(t *testing.T) {
	check(t, []example{
		{"fn x -> x", "('a -> 'a)"}, {"fn x -> 1", "('a -> int)"}, {"fn x -> fn x -> x", "('a -> ('b -> 'b))"}, {"(fn x -> x) 1", "int"}, {"(fn x -> x) (fn x -> x)", "('a -> 'a)"}, {"(fn x -> fn y -> x) 1 true", "int"},
		{"fn f -> f 1", "((int -> 'a) -> 'a)"}, {"fn f -> fn x -> f x", "(('a -> 'b) -> ('a -> 'b))"}, {"fn f -> fn x -> f x x", "(('a -> ('a -> 'b)) -> ('a -> 'b))"}, {"fn f -> fn x -> f (f x)", "(('a -> 'a) -> ('a -> 'a))"},
		{"fn f -> fn g -> fn x -> f x (g x)", "(('a -> ('b -> 'c)) -> (('a -> 'b) -> ('a -> 'c)))"}, {"fn f -> (f 1, f 2)", "((int -> 'a) -> ('a * 'a))"},
		{"1 1", "none"}, {"true 1", "none"}, {"[] 1", "none"}, {"(1, 2) 1", "none"}, {"fn x -> x x", "none"}, {"fn x -> x x x", "none"}, {"fn x -> x (x 1)", "((int -> int) -> int)"}, {"fn f -> fn x -> f f x", "none"}, {"(fn x -> x + 1) true", "none"}, {"(fn x -> x) 1 2", "none"}, {"(fn f -> f true) (fn x -> x + 1)", "none"},
		{"fn f -> (f 1, f true)", "none"}, {"(fn id -> (id 1, id true)) (fn x -> x)", "none"}, {"fn x -> fn y -> (x y, y x)", "none"}, {"fn x -> (x 1, x + 1)", "none"}, {"match fn x -> x x with _ -> 1 end", "none"},
	})
}

func TestMatch(t *testing.T) {
	check(t, []example{
		{"match 1 with 1 -> true end", "bool"}, {"match true with true -> 1 | false -> 2 end", "int"}, {"match 1 with x -> x end", "int"}, {"match 1 with _ -> [] end", "'a list"}, {"match [] with [] -> 1 end", "int"},
		{"fn x -> match x with 1 -> x end", "(int -> int)"}, {"fn x -> match x with true -> 1 end", "(bool -> int)"}, {"fn x -> match x with false -> 1 end", "(bool -> int)"}, {"fn x -> match x with [] -> 1 end", "('a list -> int)"}, {"fn x -> match x with _ -> 1 end", "('a -> int)"}, {"fn x -> match x with y -> y end", "('a -> 'a)"},
		{"fn x -> match x with (y, z) -> y end", "(('a * 'b) -> 'a)"}, {"fn x -> match x with (y, z) -> z end", "(('a * 'b) -> 'b)"}, {"fn x -> match x with y :: z -> y end", "('a list -> 'a)"}, {"fn x -> match x with y :: z -> z end", "('a list -> 'a list)"}, {"fn x -> match x with y :: z :: u -> (z, u) end", "('a list -> ('a * 'a list))"},
		{"fn x -> match x with (1, true :: _) -> x | (_, y) -> x end", "((int * bool list) -> (int * bool list))"}, {"fn x -> match x with [] -> [] | y :: _ -> (y, 1) :: [] end", "('a list -> ('a * int) list)"}, {"fn x -> fn y -> match x with 1 -> y | 2 -> raise 1 | z -> z end", "(int -> (int -> int))"},
		{"fn l -> match l with (f, x) :: _ -> f x end", "((('a -> 'b) * 'a) list -> 'b)"}, {"match raise 1 with (x, y) -> (y, x) end", "('a * 'b)"}, {"match raise 1 with 1 -> 2 end", "int"},
		{"match 1 with true -> 1 end", "none"}, {"match true with 1 -> 1 end", "none"}, {"match 1 with [] -> 1 end", "none"}, {"match [] with (x, y) -> 1 end", "none"}, {"match (1, 2) with x :: y -> 1 end", "none"}, {"match 1 with 1 -> 1 | true -> 2 end", "none"}, {"match raise 1 with [] -> 1 | (x, y) -> 2 end", "none"}, {"match (1, 2) with (true, x) -> 1 end", "none"}, {"match (1, 2) with (x, true) -> 1 end", "none"},
		{"match 1 with 1 -> 1 | 2 -> true end", "none"}, {"match 1 with 1 -> [] | 2 -> 1 end", "none"}, {"match 1 :: [] with x :: y -> x + y end", "none"}, {"match 1 :: [] with x :: 1 -> x end", "none"}, {"match 1 :: [] with x :: true :: [] -> x end", "none"}, {"fn x -> match x with 1 :: true :: _ -> 1 end", "none"}, {"fn x -> match x with y :: _ -> x :: y end", "none"}, {"fn x -> match x with (y, z) -> y x end", "none"},
		{"match fn x -> x with f -> (f 1, f true) end", "none"}, {"match (fn x -> x, 1) with (f, y) -> (f 1, f true) end", "none"}, {"match [] with x -> (1 :: x, true :: x) end", "none"},
	})
}

func TestExceptions(t *testing.T) {
	check(t, []example{
		{"try 1 with e -> e end", "int"}, {"try [] with e -> e :: [] end", "int list"}, {"try true with e -> e = 1 end", "bool"}, {"try raise 1 with e -> true end", "bool"}, {"try raise 1 with e -> raise e end", "'a"}, {"fn x -> try x with e -> e end", "(int -> int)"}, {"fn x -> try x with e -> x end", "('a -> 'a)"},
		{"raise 1", "'a"}, {"fn x -> raise x", "(int -> 'a)"}, {"raise (raise 1)", "'a"}, {"1 + raise 1", "int"}, {"(raise 1) 2", "'a"}, {"(raise 1) + 1 = 2", "bool"}, {"(raise 1) :: []", "'a list"}, {"fn x -> (raise x, raise x)", "(int -> ('a * 'b))"},
		{"raise true", "none"}, {"raise []", "none"}, {"raise (fn x -> x)", "none"}, {"try 1 with e -> true end", "none"}, {"try true with e -> e end", "none"}, {"try [] with e -> e end", "none"}, {"try true with e -> if e then e else e end", "none"}, {"try 1 with e -> e 1 end", "none"}, {"fn x -> (raise x, x 1)", "none"}, {"try raise true with e -> 1 end", "none"},
	})
}

func TestContinuations(t *testing.T) {
	check(t, []example{
		{"callcc (fn k -> 1)", "int"}, {"callcc (fn k -> throw k 1)", "int"}, {"callcc (fn k -> throw k true)", "bool"}, {"callcc (fn k -> raise 1)", "'a"}, {"fn k -> callcc k", "(('a cont -> 'a) -> 'a)"}, {"fn k -> throw k 1", "(int cont -> 'a)"}, {"fn k -> fn x -> throw k x", "('a cont -> ('a -> 'b))"},
		{"fn f -> callcc (fn k -> f k)", "(('a cont -> 'a) -> 'a)"}, {"callcc (fn k -> (1, throw k (2, true)))", "(int * bool)"}, {"callcc (fn k -> 1 :: throw k [])", "int list"}, {"callcc (fn k -> if throw k 1 then 2 else throw k 3)", "int"},
		{"callcc (fn k -> raise (callcc (fn j -> throw k j)))", "int cont"}, {"fn k -> fn j -> throw k j", "('a cont -> ('a -> 'b))"}, {"fn k -> (throw k 1, throw k 2)", "(int cont -> ('a * 'b))"}, {"fn x -> match x with k :: _ -> throw k x end", "none"}, {"fn k -> k :: []", "('a -> 'a list)"}, {"fn k -> (throw k (fn x -> x), k)", "(('a -> 'a) cont -> ('b * ('a -> 'a) cont))"},
	})
}

// What is bound to a value may be of another type at each use.
func TestLetValue(t *testing.T) {
	check(t, []example{
		{"let id = fn x -> x in (id 1, id true)", "(int * bool)"}, {"let id = fn x -> x in id", "('a -> 'a)"}, {"let f = fn x -> x in f f", "('a -> 'a)"}, {"let id = (fn x -> x) in (id 1, id true)", "(int * bool)"}, {"let id = ((fn x -> x)) in (id 1, id true)", "(int * bool)"},
		{"let e = [] in (1 :: e, true :: e)", "(int list * bool list)"}, {"let e = [] in (e, e)", "('a list * 'b list)"}, {"let e = [] in let d = e in (1 :: d, (true :: d, e))", "(int list * (bool list * 'a list))"}, {"let f = fn x -> x in let g = f in (g 1, g true)", "(int * bool)"},
		{"let p = (fn x -> x, []) in match p with (f, l) -> f l end", "'a list"}, {"let p = (fn x -> x, []) in (match p with (f, _) -> f 1 end, match p with (f, l) -> (f true, l) end)", "(int * (bool * 'a list))"}, {"let l = (fn x -> x) :: [] in (match l with f :: _ -> f 1 end, match l with f :: _ -> f true end)", "(int * bool)"},
		{"let l = [] :: [] in ((1 :: []) :: l, (true :: []) :: l)", "(int list list * bool list list)"}, {"let p = (1, (true, [])) in (p, p)", "((int * (bool * 'a list)) * (int * (bool * 'b list)))"}, {"let p = (false, []) in (p, p)", "((bool * 'a list) * (bool * 'b list))"}, {"let x = 1 in (x, x + 1)", "(int * int)"}, {"let x = true in if x then x else x", "bool"},
		{"let k = fn x -> fn y -> x in (k 1 true, k true 1)", "(int * bool)"}, {"let r = fn x -> raise x in (r 1 + 1, r 1 :: [])", "(int * 'a list)"}, {"let f = fn x -> callcc x in (f (fn k -> 1), f (fn k -> throw k true))", "(int * bool)"}, {"let t = fn k -> fn x -> throw k x in t", "('a cont -> ('a -> 'b))"},
		{"let f = fn x -> let g = fn y -> (x, y) in (g 1, g true) in (f 1, f [])", "(((int * int) * (int * bool)) * (('a list * int) * ('a list * bool)))"}, {"let f = fn x -> x in let f = fn y -> (f y, f 1) in (f true, f [])", "((bool * int) * ('a list * int))"}, {"let f = fn x -> match x with (a, b) -> (b, a) end in (f (1, true), f (true, []))", "((bool * int) * ('a list * bool))"},
		{"let s = fn x -> fn y -> fn z -> x z (y z) in let k = fn x -> fn y -> x in s k k", "('a -> 'a)"}, {"let x = 1 in let x = true in if x then 1 else 2", "int"},
		{"let f = fn x -> x + 1 in f true", "none"}, {"let f = fn x -> x in f 1 + f true", "none"}, {"let x = 1 in x true", "none"}, {"let e = 1 :: [] in true :: e", "none"}, {"let f = fn x -> x x in 1", "none"}, {"let x = (1, fn x -> x x) in 2", "none"}, {"let x = (1 :: [] :: []) in 2", "none"}, {"let f = fn x -> 1 true in 2", "none"}, {"let p = (fn x -> x, 1) in match p with (f, _) -> (f 1, f true) end", "none"},
	})
}

// What a value takes from a name of one type is of one type there, too.
func TestLetFixed(t *testing.T) {
	check(t, []example{
		{"fn x -> let y = x in y", "('a -> 'a)"}, {"fn x -> let y = x in (y 1, y true)", "none"}, {"fn x -> let y = (x, []) in (y, y)", "('a -> (('a * 'b list) * ('a * 'c list)))"}, {"fn x -> let y = x in (y 1, x 2)", "((int -> 'a) -> ('a * 'a))"}, {"fn x -> let y = fn z -> x in (y 1 + 1, y true)", "(int -> (int * int))"}, {"fn x -> let y = fn z -> x in (y 1 + 1, if y true then 1 else 2)", "none"},
		{"fn x -> let y = fn z -> (x z, z) in y", "(('a -> 'b) -> ('a -> ('b * 'a)))"}, {"fn x -> let y = fn z -> x z in (y 1, y true)", "none"}, {"fn x -> let y = fn z -> if true then x else z in (y 1, x + 1)", "(int -> (int * int))"}, {"fn x -> let y = fn z -> if true then x else z in (y 1, y true)", "none"}, {"fn x -> let y = x :: [] in (1 :: y, true :: y)", "none"}, {"fn x -> let y = x :: [] in (1 :: y, x)", "(int -> (int list * int))"},
		{"match [] with l -> let m = l in (1 :: m, true :: m) end", "none"}, {"match ([], 1) with (l, _) -> let m = (l, fn x -> x) in m end", "('a list * ('b -> 'b))"}, {"let l = (fn x -> x) [] in let m = l in (1 :: m, true :: m)", "none"}, {"let l = (fn x -> x) [] in let m = (l, []) in (m, m)", "(('a list * 'b list) * ('a list * 'c list))"},
		{"fn x -> let y = (x, x) in let z = y in (match z with (a, _) -> a 1 end, x)", "((int -> 'a) -> ('a * (int -> 'a)))"}, {"fn x -> let y = x in (x x, y)", "none"}, {"fn x -> let y = fn z -> (x, z) in (x x, y 1)", "none"}, {"fn x -> fn x -> let y = x in (y, y)", "('a -> ('b -> ('b * 'b)))"}, {"(fn x -> fn y -> let z = x in (z y, x)) (fn w -> w)", "('a -> ('a * ('a -> 'a)))"},
		{"let rec f x = let g = fn y -> f y in g 1 in f", "(int -> 'a)"}, {"let rec f x = let g = fn y -> f y in (g 1, 2) in f", "none"}, {"let rec f x = let g = f in (g 1, g true) in f", "none"}, {"let rec f x = let y = x in y x in f", "none"}, {"let rec f x = let y = x in (y 1, y true) in f", "none"}, {"try 1 with e -> let f = e in f end", "int"},
	})
}

// What is bound to no value is of one type, even if it is never used.
func TestLetOther(t *testing.T) {
	check(t, []example{
		{"let f = (fn x -> x) (fn y -> y) in f", "('a -> 'a)"}, {"let f = (fn x -> x) (fn y -> y) in f 1", "int"}, {"let f = (fn x -> x) (fn y -> y) in (f 1, f true)", "none"}, {"let f = if true then fn x -> x else fn x -> x in (f 1, f true)", "none"}, {"let f = let g = fn x -> x in g in (f 1, f true)", "none"}, {"let f = let rec g x = x in g in (f 1, f true)", "none"}, {"let f = match 1 with _ -> fn x -> x end in (f 1, f true)", "none"}, {"let f = try fn x -> x with e -> fn x -> x end in (f 1, f true)", "none"},
		{"let f = raise 1 in (f 1, f true)", "none"}, {"let f = raise 1 in (f 1, f 2)", "('a * 'a)"}, {"let a = callcc (fn k -> fn x -> x) in (a 1, a true)", "none"}, {"let a = callcc (fn k -> []) in (1 :: a, true :: a)", "none"}, {"callcc (fn k -> let a = throw k 1 in (a 1, a true))", "none"}, {"let p = ((fn x -> x) [], 1) in match p with (l, _) -> (1 :: l, true :: l) end", "none"}, {"let p = (1, (fn x -> x) []) in (p, p)", "((int * 'a list) * (int * 'a list))"}, {"let p = ([], []) in (p, p)", "(('a list * 'b list) * ('c list * 'd list))"}, {"let p = [] :: (fn x -> x) [] in (p, p)", "('a list list * 'a list list)"}, {"let p = (fn x -> x) [] :: [] in (p, p)", "('a list list * 'a list list)"}, {"let p = (raise 1, []) in (p, p)", "(('a * 'b list) * ('a * 'b list))"},
		{"let x = read in x + 1", "int"}, {"let x = print 1 in x + 1", "int"}, {"let x = 1 = 2 in if x then 1 else 2", "int"}, {"let x = 1 true in 2", "none"}, {"let x = (fn x -> x x) 1 in 2", "none"}, {"let x = 1 + true in 2", "none"}, {"let x = if 1 then 2 else 3 in 4", "none"}, {"let x = raise true in 1", "none"},
	})
}

func TestLetRec(t *testing.T) {
	check(t, []example{
		{"let rec f x = f x in f", "('a -> 'b)"}, {"let rec f x = f (f x) in f", "('a -> 'a)"}, {"let rec f x = x in (f 1, f true)", "(int * bool)"}, {"let rec f x = f x in (f 1, f true)", "('a * 'b)"}, {"let rec f x = if x < 1 then 0 else f (x - 1) in f", "(int -> int)"}, {"let rec f x = fn y -> f y x in f", "('a -> ('a -> 'b))"},
		{"let rec m f = fn l -> match l with [] -> [] | x::t -> f x :: m f t end in m", "(('a -> 'b) -> ('a list -> 'b list))"}, {"let rec m f = fn l -> match l with [] -> [] | x::t -> f x :: m f t end in (m (fn x -> x + 1), m (fn x -> true))", "((int list -> int list) * ('a list -> bool list))"}, {"let rec l x = x :: l x in l", "('a -> 'a list)"}, {"let rec f f = f in f", "('a -> 'a)"},
		{"let rec c x = x and d y = y in (d 1, (d true, c 2))", "(int * (bool * int))"}, {"let rec c x = d x and d y = y in (c 1, (c true, d []))", "(int * (bool * 'a list))"}, {"let rec c x = d x and d x = c x in (c, d)", "(('a -> 'b) * ('c -> 'd))"}, {"let rec c x = d x and d y = e y and e z = z in (c 1, d true)", "(int * bool)"}, {"let rec c x = (x, d x) and d y = y in c", "('a -> ('a * 'a))"},
		{"fn x -> let rec f y = x in (f 1, f true)", "('a -> ('a * 'a))"}, {"fn x -> let rec f y = x y in f", "(('a -> 'b) -> ('a -> 'b))"}, {"fn x -> let rec f y = (x, y) in (f 1, (f true, x + 1))", "(int -> ((int * int) * ((int * bool) * int)))"}, {"let rec f x = let rec g y = (x, y) in (g 1, g true) in (f 1, f [])", "(((int * int) * (int * bool)) * (('a list * int) * ('a list * bool)))"}, {"let rec f x = let rec g y = f y in g x in f", "('a -> 'b)"},
		{"let rec f x = f in f", "none"}, {"let rec f x = x f in f", "none"}, {"let rec f x = f x x in f", "none"}, {"let rec f x = (f 1, f true) in f", "none"}, {"let rec f x = (f 1, x) in f", "none"}, {"let rec f x = 1 in f + 1", "none"}, {"let rec c x = d 1 and d y = y in d true", "none"}, {"let rec c x = (d 1, d true) and d y = y in c", "none"}, {"let rec d y = y and c x = (d 1, d true) in c", "none"}, {"let rec f x = 1 true in 2", "none"}, {"let rec f x = x + 1 and g y = f true in 1", "none"}, {"fn x -> let rec f y = x y in (f 1, f true)", "none"}, {"let rec f x = x + 1 in f true", "none"}, {"let rec f x = let rec g y = f y in (g 1, g true) in f", "none"},
	})
}

// Unknown types are named in the order of the text, not of the program.
func TestOrderOfUnknown(t *testing.T) {
	pairs := func(first, second, end string, count int) string {
		return strings.Repeat(first, count) + end + strings.Repeat(second, count)
	}
	alphabet := ""
	for i := 0; i < 54; i++ {
		alphabet += "('" + string(rune('a'+i%26)) + " list * "
	}
	check(t, []example{
		{"fn a -> fn b -> fn c -> (c, (b, a))", "('a -> ('b -> ('c -> ('c * ('b * 'a)))))"}, {"fn x -> raise 1", "('a -> 'b)"}, {"(raise 1, fn x -> x)", "('a * ('b -> 'b))"},
		{pairs("([],", ")", "1", 54), alphabet + "int" + strings.Repeat(")", 54)},
	})
}

// A type of 1023 parts is told, one of 1024 is not; and one of more parts than
// could be counted is found all the same.
func TestGreat(t *testing.T) {
	told := "int"
	for i := 0; i < 9; i++ {
		told = "(" + told + " * " + told + ")"
	}
	doubled := "let a=fn x->(x,x)in let b=fn x->a(a(a x))in "
	lists := "let a=fn x->x::[]in let b=fn x->a(a(a(a x)))in let c=fn x->b(b(b(b x)))in let d=fn x->c(c(c(c x)))in let e=fn x->d(d(d(d x)))in "
	without := func(count int) string { return "int" + strings.Repeat(" list", count) }
	check(t, []example{
		{doubled + "b(b(b 1))", told}, {doubled + "b(b(b 1))::[]", ".."}, {doubled + "fn k->throw k(b(b(b 1)))", ".."}, {doubled + "b(b(b(b 1)))", ".."}, {doubled + "match b(b(b 1))with(x,y)->x end", told[1 : len(told)/2-1]},
		{lists + "e(e(e(d(d(d(c(c(c(b(b(a(a 1))))))))))))", without(3*256 + 3*64 + 3*16 + 2*4 + 2)}, {lists + "e(e(e(d(d(d(c(c(c(b(b(b(a(a 1)))))))))))))", without(1022)}, {lists + "e(e(e(d(d(d(c(c(c(b(b(b(a(a(a 1))))))))))))))", ".."},
		{"let a=fn x->(x,x) in let b=fn x->a(a x) in let c=fn x->b(b x) in let d=fn x->c(c x) in let e=fn x->d(d x) in let f=fn x->e(e x) in let g=fn x->f(f x) in g", ".."},
		{"let a=fn x->(x,x) in let b=fn x->a(a x) in let c=fn x->b(b x) in let d=fn x->c(c x) in let e=fn x->d(d x) in let f=fn x->e(e x) in let g=fn x->f(f x) in (g 1)::(g 2)::[]", ".."},
		{"let a=fn x->(x,x) in let b=fn x->a(a x) in let c=fn x->b(b x) in let d=fn x->c(c x) in let e=fn x->d(d x) in let f=fn x->e(e x) in let g=fn x->f(f x) in (g 1)::(g true)::[]", "none"},
		{"let a=fn x->(x,x) in let b=fn x->a(a x) in let c=fn x->b(b x) in let d=fn x->c(c x) in let e=fn x->d(d x) in let f=fn x->e(e x) in let g=fn x->f(f x) in match g 1 with _->1 end", "int"},
		{"let a=[]in let b=(a,(a,a))in let c=(b,(b,b))in let d=(c,(c,c))in let e=(d,(d,d))in let f=(e,(e,e))in let g=(f,(f,f))in let h=(g,(g,g))in h::h::[]", ".."},
		{"let a=[]in let b=(a,(a,a))in let c=(b,(b,b))in let d=(c,(c,c))in let e=(d,(d,d))in let f=(e,(e,e))in let g=(f,(f,f))in let h=(g,(g,g))in h::h::1", "none"},
	})
}
