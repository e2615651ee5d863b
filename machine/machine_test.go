package machine

import (
	"reflect"
	"runtime"
	"strings"
	"testing"

	"resume/api"
	"resume/grammar"
	"resume/scope"
	"resume/typing"
	"resume/words"
)

// read answers a program; false, if it is none.
func read(text string) (*Code, bool) {
	list, isWords := words.Split(text)
	whole, isExp := grammar.Read(list)
	if !isWords || !isExp {
		return nil, false
	}
	means, inSight := scope.Find(whole)
	if !inSight {
		return nil, false
	}
	_, hasType := typing.Find(whole, means)
	return &Code{Tree: whole, Means: means, Kept: scope.Kept(whole, means)}, hasType
}

func begin(t *testing.T, text string, input []int) *Machine {
	t.Helper()
	code, isProgram := read(text)
	if !isProgram {
		t.Fatalf("%q is no program", text)
	}
	return New(code, input)
}

type example struct {
	text   string
	input  []int
	status int
	value  string
	prints []int
}

// done: a program without input or prints that ends with a value.
func done(text, value string) example { return example{text, nil, api.Done, value, nil} }

// printing: a program without input that ends with a value.
func printing(text, value string, prints ...int) example {
	return example{text, nil, api.Done, value, prints}
}

func uncaught(text, value string, prints ...int) example {
	return example{text, nil, api.Uncaught, value, prints}
}

func check(t *testing.T, list []example) {
	t.Helper()
	for _, c := range list {
		m := begin(t, c.text, c.input)
		m.Go(1000000)
		s := m.State()
		if s.Status != c.status || s.Value != c.value || !reflect.DeepEqual(s.Prints, c.prints) {
			t.Errorf("%q with %v: %d, %.100q, %v, want %d, %.100q, %v", c.text, c.input, s.Status, s.Value, s.Prints, c.status, c.value, c.prints)
		}
	}
}

func TestSingle(t *testing.T) {
	check(t, []example{
		done("0", "0"), done("999999", "999999"), done("true", "true"), done("false", "false"), done("[]", "[]"),
		done("fn x -> x", "fn"), done("fn x -> 1 / 0", "fn"), done("fn x -> print 1", "fn"), done("((7))", "7"),
		done("let rec f x = f x in f", "fn"), done("let rec f x = f x and g y = f y in g", "fn"), done("let rec f x = print x in 5", "5"),
	})
}

func TestRead(t *testing.T) {
	check(t, []example{
		{"read", []int{5}, api.Done, "5", nil}, {"read", []int{-2147483648, 1}, api.Done, "-2147483648", nil}, {"read", nil, api.Exhausted, "", nil}, {"read", []int{}, api.Exhausted, "", nil},
		{"(read, read)", []int{1, 2}, api.Done, "(1,2)", nil}, {"(read, read)", []int{1}, api.Exhausted, "", nil}, {"read :: read :: []", []int{1, 2, 3}, api.Done, "[1,2]", nil},
		{"print read + read", []int{4}, api.Exhausted, "", []int{4}}, {"1 / 0 + read", nil, api.Uncaught, "-1", nil}, {"read + 1 / 0", nil, api.Exhausted, "", nil},
		{"fn x -> read", nil, api.Done, "fn", nil}, {"let f = fn x -> read in (f 1, f 1)", []int{8, 9}, api.Done, "(8,9)", nil}, {"let x = read in (x, (x, read))", []int{8, 9}, api.Done, "(8,(8,9))", nil},
		{"if read < read then read else 0 - read", []int{1, 2, 3}, api.Done, "3", nil}, {"if read < read then read else 0 - read", []int{2, 2, 3}, api.Done, "-3", nil},
		{"let rec r n = if n = 0 then [] else read :: r (n - 1) in r 8", []int{1, 2, 3, 4, 5, 6, 7, 8}, api.Done, "[1,2,3,4,5,6,7,8]", nil},
		{"let rec r n = if n = 0 then [] else read :: r (n - 1) in r 9", []int{1, 2, 3, 4, 5, 6, 7, 8}, api.Exhausted, "", nil},
		{"let rec r n = if n < 1 then 0 else print (r (n-1) + read) in r 3", []int{5, 6, 7}, api.Done, "18", []int{5, 11, 18}},
		{"let rec r n = if n < 1 then 0 else print (r (n-1) + read) in r 3", []int{5, 6}, api.Exhausted, "", []int{5, 11}},
	})
}

func TestNumbers(t *testing.T) {
	check(t, []example{
		done("1 + 2 * 3", "7"), done("7 - 2 - 1", "4"), done("0 - 7 / 2", "-3"), done("(0 - 7) / 2", "-3"), done("7 / (0 - 2)", "-3"), done("(0 - 7) / (0 - 2)", "3"), done("1 / 2", "0"), done("(0 - 1) / 2", "0"), done("100 / 7 / 2", "7"), done("8 / 4 * 2", "4"), done("0 / 5", "0"), done("6 / 3", "2"),
		done("999999 * 999999", "-729379967"), done("46000 * 46000", "2116000000"), done("65536 * 32768", "-2147483648"), done("65536 * 65536", "0"), done("65536 * 32768 - 1", "2147483647"), done("(65536 * 32768 - 1) + 1", "-2147483648"), done("(65536 * 32768 - 1) * (65536 * 32768 - 1)", "1"), done("(65536 * 32768) * (65536 * 32768)", "0"), done("(65536 * 32768) * (65536 * 32768 - 1)", "-2147483648"),
		done("0 - 65536 * 32768", "-2147483648"), done("65536 * 32768 / (0 - 1)", "-2147483648"), done("65536 * 32768 + 65536 * 32768", "0"), done("(65536 * 32768 - 1) + (65536 * 32768 - 1)", "-2"), done("65536 * 32768 / 2", "-1073741824"), done("1 / (65536 * 32768)", "0"),
		{"read + read", []int{2147483647, 1}, api.Done, "-2147483648", nil}, {"read - read", []int{-2147483648, 2147483647}, api.Done, "1", nil}, {"read - read", []int{0, -2147483648}, api.Done, "-2147483648", nil}, {"read / read", []int{-2147483648, -1}, api.Done, "-2147483648", nil}, {"read / read", []int{2147483647, -2147483648}, api.Done, "0", nil}, {"read * read", []int{-2147483648, -1}, api.Done, "-2147483648", nil},
		done("1 = 1", "true"), done("1 = 2", "false"), done("2 = 1", "false"), done("1 < 2", "true"), done("2 < 2", "false"), done("3 < 2", "false"), done("0 - 1 < 0", "true"), done("65536 * 32768 < 0", "true"), done("1 + 1 = 2", "true"), done("65536 * 65536 = 0", "true"),
		uncaught("1 / 0", "-1"), uncaught("0 / 0", "-1"), uncaught("1 + 2 / (1 - 1)", "-1"), uncaught("1 / (65536 * 65536)", "-1"), uncaught("print 3 / 0", "-1", 3), uncaught("(print 1 / 0, print 2)", "-1", 1),
	})
}

// What has parts is looked at from the left, each part once.
func TestOrder(t *testing.T) {
	check(t, []example{
		printing("(print 1, print 2)", "(1,2)", 1, 2), printing("print 1 :: print 2 :: []", "[1,2]", 1, 2), printing("print 1 + print 2", "3", 1, 2), printing("print 1 - print 2", "-1", 1, 2), printing("print 6 * print 2", "12", 6, 2), printing("print 6 / print 2", "3", 6, 2), printing("print 1 = print 2", "false", 1, 2), printing("print 1 < print 2", "true", 1, 2),
		printing("(let p = print 1 in fn x -> x + p) (print 2)", "3", 1, 2), printing("(fn x -> print (x + 1)) (print 2)", "3", 2, 3), printing("print (print 1 + print 2)", "3", 1, 2, 3), printing("let x = print 1 in print 2 + x", "3", 1, 2), printing("let x = print 1 in 2", "2", 1),
		printing("if print 1 = 1 then print 2 else print 3", "2", 1, 2), printing("if print 1 = 2 then print 2 else print 3", "3", 1, 3), printing("match print 1 with 2 -> print 2 | 1 -> print 3 | _ -> print 4 end", "3", 1, 3),
		printing("(fn f -> fn x -> f (f x)) (fn x -> print (x * 2)) (print 3)", "12", 3, 6, 12), uncaught("print 1 + print 0 / print 0 + print 2", "-1", 1, 0, 0), printing("(print (0 - 5), fn x -> print 1)", "(-5,fn)", -5),
	})
}

func TestNames(t *testing.T) {
	check(t, []example{
		done("let x = 1 in x", "1"), done("let x = 1 in let x = x + 1 in x", "2"), done("let x = 1 in (let x = 2 in x) + x", "3"), done("let x = 1 in let f = fn y -> x + y in let x = 10 in f 5", "6"), done("let x = 1 in let y = 2 in let z = 3 in (x, (y, z))", "(1,(2,3))"), done("(fn x -> fn x -> x) 1 2", "2"), done("(fn x -> fn y -> x) 1 2", "1"), done("(fn x -> (fn y -> (x, y)) (x + 1)) 1", "(1,2)"),
		done("let id = fn x -> x in (id 1, id true)", "(1,true)"), done("let k = fn x -> fn y -> x in let a = k 1 in let b = k 2 in (a 0, b 0)", "(1,2)"), done("let c = fn f -> fn g -> fn x -> f (g x) in c (fn x -> x * 2) (fn x -> x + 1) 5", "12"),
		{"let x = read in let f = fn y -> x + y in let x = read in f x", []int{10, 20}, api.Done, "30", nil},
		done("match 1 with x -> (match 2 with x -> x end) + x end", "3"), done("let y = 5 in match (1, 2) with (x, z) -> (x, (y, z)) end", "(1,(5,2))"), done("let x = 1 in match 2 with x -> x end", "2"), done("let x = 1 in match x with _ -> x end", "1"), done("let f = fn x -> match x with (x, y) -> fn z -> (x, (y, z)) end in let g = f (1, 2) in let x = 9 in g 3", "(1,(2,3))"),
	})
}

func TestLetRec(t *testing.T) {
	check(t, []example{
		done("let rec s n = if n < 1 then 0 else n + s (n - 1) in s 1000", "500500"), done("let rec s n = if n < 1 then 0 else n + s (n-1) in s 3000", "4501500"), done("let rec e n = if n = 0 then true else o (n - 1) and o n = if n = 0 then false else e (n - 1) in e 101", "false"), done("let rec e n = if n = 0 then true else o (n - 1) and o n = if n = 0 then false else e (n - 1) in o 101", "true"),
		done("let rec a x = (1, b x) and b x = (2, c x) and c x = 3 + x in a 4", "(1,(2,7))"), done("let rec f f = f + 1 in f 1", "2"), done("let rec f g = g + 1 and g x = f (x * 2) in g 5", "11"), done("let x = 5 in let rec f y = x + y in let x = 7 in f 1", "6"), done("let rec f x = x in let rec f x = f2 x and f2 x = x + 1 in f 1", "2"), done("let f = fn x -> 100 in let rec f x = if x = 0 then 0 else f (x - 1) in f 3", "0"),
		done("let rec fib n = if n < 2 then n else fib (n-1) + fib (n-2) in fib 15", "610"), done("let rec b n = if n < 1 then [] else n :: b (n-1) in b 5", "[5,4,3,2,1]"), done("let rec m f = fn l -> match l with [] -> [] | x :: r -> f x :: m f r end in m (fn x -> x * x) (1 :: 2 :: 3 :: [])", "[1,4,9]"), done("let rec r a = fn l -> match l with [] -> a | x :: t -> r (x :: a) t end in r [] (1 :: 2 :: 3 :: [])", "[3,2,1]"),
		done("let rec mk n = fn x -> x + n in let a = mk 1 in let b = mk 2 in (a 10, b 10)", "(11,12)"), done("let rec f n = if n = 0 then fn x -> x else let g = f (n - 1) in fn x -> g (x + n) in f 4 100", "110"), done("let rec f x = let rec g y = if y = 0 then x else g (y - 1) in g 3 in f 8", "8"), done("let rec f n = if n = 0 then 77 else f (n - 1) in f 20000", "77"),
		done("let rec b n=if n<1 then [] else n::b(n-1) in b 1023", ".."), done("let rec d n = if n = 0 then 1 else 1 + (let rec h x = d x in h (n - 1)) in d 5", "6"), uncaught("let rec f n = if n = 0 then 1 / 0 else 1 + f (n - 1) in f 500", "-1"),
	})
}

func TestMatch(t *testing.T) {
	check(t, []example{
		uncaught("match 3 with 1 -> 2 end", "-2"), uncaught("match print 3 with 1 -> 2 | 2 -> 1 end", "-2", 3), uncaught("match [] with x :: y -> x + 1 end", "-2"), uncaught("match 1 :: [] with [] -> 1 end", "-2"), uncaught("match true with false -> 1 end", "-2"), uncaught("match false with true -> 1 end", "-2"), uncaught("match (1, 2) with (1, 1) -> 1 | (2, 2) -> 2 end", "-2"), uncaught("1 + (match 3 with 1 -> 2 end) + print 5", "-2"),
		done("match 1 with 1 -> 2 | 1 -> 3 end", "2"), done("match 0 with 1 -> 2 | 0 -> 3 end", "3"), done("match 65536 * 65536 with 0 -> 1 end", "1"), done("match 0 - 1 with 1 -> 1 | x -> x end", "-1"), done("match true with false -> 1 | x -> if x then 2 else 3 end", "2"), done("match false with true -> 1 | false -> 2 end", "2"), done("match true with true -> 1 | false -> 2 end", "1"), done("match fn x -> x with _ -> 4 end", "4"), done("(match fn x -> x with f -> f end) 4", "4"),
		done("match [] with x :: y -> 1 | [] -> 2 end", "2"), done("match 5 :: [] with [] -> 1 | x :: [] -> x end", "5"), done("match 5 :: 6 :: [] with x :: [] -> x | x :: y -> 10 * x | _ -> 0 end", "50"), done("match 5 :: 6 :: 7 :: [] with _ :: r -> r end", "[6,7]"), done("match 5 :: 6 :: [] with 5 :: 7 :: _ -> 1 | 6 :: _ -> 2 | 5 :: 6 :: 7 :: _ -> 3 | 5 :: x :: [] -> x end", "6"),
		done("match (1, 2 :: 3 :: []) with (2, _) -> 1 | (1, 2 :: []) -> 2 | (x, y :: z :: []) -> x * 100 + y * 10 + z | _ -> 4 end", "123"), done("match (1 :: 2 :: [], 3) with ([], y) -> y | (x :: [], y) -> x | (x :: y :: _, 3) -> x * 100 + y | _ -> 0 end", "102"), done("match ((1, true), (false, 4)) with ((a, b), (c, d)) -> (d, (c, (b, a))) end", "(4,(false,(true,1)))"), done("match (1, 2) with (x, 3) -> x | (2, x) -> x + 10 | (1, x) -> x + 20 end", "22"), done("match ([], []) with (x :: _, _) -> 1 | (_, x :: _) -> 2 | ([], []) -> 3 end", "3"),
		done("match (1 :: [], 2) :: [] with [] -> 0 | ([], x) :: _ -> x | (x :: _, y) :: [] -> x + y end", "3"), done("let x = 7 in match (1, 2) with (x, 3) -> x | _ -> x end", "7"), done("let rec z p = match p with (x :: a, y :: b) -> (x, y) :: z (a, b) | _ -> [] end in z (1 :: 2 :: [], 3 :: 4 :: 5 :: [])", "[(1,3),(2,4)]"),
	})
}

func TestIf(t *testing.T) {
	check(t, []example{
		done("if true then 1 else 2", "1"), done("if false then 1 else 2", "2"), done("if true then 1 else 1 / 0", "1"), done("if false then 1 / 0 else 2", "2"), done("if 1 < 2 then if 2 < 1 then 1 else 2 else 3", "2"), done("1 + (if 1 = 1 then 10 else 20)", "11"), done("let f = fn b -> if b then fn x -> x else fn x -> x * 2 in (f true 5, f false 5)", "(5,10)"), done("let x = 3 in if x = 3 then x else 0", "3"), done("let x = 3 in if x = 4 then 0 else x", "3"), done("let f = fn y -> y = 1 in let x = 3 in if f 1 then x else 0", "3"), done("let f = fn y -> y = 1 in let x = 3 in if f 2 then 0 else x", "3"),
	})
}

// doubled: a pair of pairs of .. of ones.
func doubled(times int) string {
	if times == 0 {
		return "1"
	}
	return "(" + doubled(times-1) + "," + doubled(times-1) + ")"
}

func TestTexts(t *testing.T) {
	check(t, []example{
		done("(fn x -> x, (true, ([], false)))", "(fn,(true,([],false)))"), done("2 :: 3 :: []", "[2,3]"), done("(1, (true, []))", "(1,(true,[]))"), done("(1 :: []) :: [] :: []", "[[1],[]]"), done("(0 - 1, 0 - 2) :: []", "[(-1,-2)]"), done("let rec b n=if n<1 then [] else 7::b(n-1) in b 1022", "["+strings.Repeat("7,", 1021)+"7]"),
		done("let d = fn x -> (x, x) in let q = fn x -> d (d (d x)) in q (q (q 1))", doubled(9)), done("let d = fn x -> (x, x) in let q = fn x -> d (d (d x)) in d (q (q (q 1)))", ".."), done("let rec a n = if n = 0 then [] else (1, 2) :: a (n - 1) in a 340", "["+strings.Repeat("(1,2),", 339)+"(1,2)]"), done("let rec a n = if n = 0 then [] else (1, 2) :: a (n - 1) in a 341", ".."),
	})
}

// Runs of one program do not meddle with each other, nor with the caller's list.
func TestRunsApart(t *testing.T) {
	code, _ := read("let rec r n = if n < 1 then [] else print (read + n) :: r (n - 1) in r 8")
	input := []int{1, 2, 3, 4, 5, 6, 7, 8}
	a, b := New(code, input), New(code, input)
	for i := range input {
		input[i] = 100
	}
	c := New(code, input)
	for i := 0; i < 400; i++ {
		a.Go(1)
		b.Go(i % 3)
		c.Go(i % 5)
		for _, m := range []*Machine{a, b, c} {
			for j, s := 0, m.State(); j < len(s.Prints); j++ {
				s.Prints[j] = 55
			}
		}
	}
	want := []int{9, 9, 9, 9, 9, 9, 9, 9}
	if s := a.State(); s.Value != "[9,9,9,9,9,9,9,9]" || !reflect.DeepEqual(s.Prints, want) || !reflect.DeepEqual(s, b.State()) {
		t.Errorf("%+v, %+v", s, b.State())
	}
	if s := c.State(); s.Value != "[108,107,106,105,104,103,102,101]" || input[0] != 100 || input[7] != 100 {
		t.Errorf("%+v, %v", s, input)
	}
}

func heap() int {
	runtime.GC()
	var m runtime.MemStats
	runtime.ReadMemStats(&m)
	return int(m.HeapAlloc)
}

// A run keeps no more than it needs: a call that nothing waits behind leaves nothing.
func TestKeepsLittle(t *testing.T) {
	for _, text := range []string{
		"let rec f n = f (n + 1) in f 0", "let rec f n = if n < 0 then f n else f (n + 1) in f 0", "let rec f n = let m = n + 1 in f m in f 0", "let rec f n = match n :: n :: [] with [] -> 0 | x :: _ -> f (x + 1) end in f 0", "let rec e n = o (n + 1) and o n = e (n + 1) in e 0", "let rec f n = let rec g m = f (m + 1) in g n in f 0", "let rec f p = match p with (g, x) -> f (g, g x) end in f (fn x -> x + 1, 1)",
		"let rec f g = f (fn x -> x) in f (fn x -> x)", "let rec f g = let h = g 1 in f (fn x -> x + h) in f (fn x -> x)", "let rec f g = let rec h x = x in f h in f (fn x -> x)", "let rec f g = let rec h x = i x and i x = h x in f i in f (fn x -> x)", "let rec f g = let rec h x = fn y -> h y x in f (h 1) in f (fn x -> x)", "let rec f g = let n = g 1 in let rec h x = n in f (fn x -> h x) in f (fn x -> x)", "let rec f g = let rec h x = f (fn y -> y) in h g in f (fn x -> x)", "let rec f g = let rec h x = g x in f (fn x -> x) in f (fn x -> x)",
		"let rec f n = f (try raise n with e -> e end) in f 0", "let rec f n = try raise n with e -> f e end in f 0", "let rec f n = callcc (fn k -> f (n + 1)) in f 0", "let rec f n = f (callcc (fn k -> 1 + throw k n)) in f 0", "let rec m k = fn n -> throw k (m k) in let f = callcc (fn k -> m k) in f 1",
	} {
		m := begin(t, text, nil)
		m.Go(10000)
		before := heap()
		m.Go(1000000)
		if grown := heap() - before; grown > 100000 || m.State().Status != api.Running {
			t.Errorf("%q: %d bytes more, %+v", text, grown, m.State())
		}
	}
	for _, c := range []struct{ text, value string }{
		{"let rec b n = if n = 0 then [] else n :: b (n - 1) in b 20000", ".."}, {"let rec b n = if n = 0 then [] else n :: b (n - 1) in let l = b 20000 in 1", "1"},
		{"let rec b n = if n = 0 then read else n + b (n - 1) in b 20000", ""}, {"let rec b n = if n = 0 then 1 / 0 else n + b (n - 1) in b 20000", "-1"},
	} {
		m := begin(t, c.text, nil)
		before := heap()
		m.Go(1000000)
		grown := heap() - before
		if s := m.State(); grown > 100000 || s.Status == api.Running || s.Value != c.value {
			t.Errorf("%q has ended: %d bytes more, %+v", c.text, grown, s)
		}
	}
}
