package machine

import (
	"testing"

	"resume/api"
)

// The document's examples with try, raise, callcc and throw.
func TestControl(t *testing.T) {
	check(t, []example{
		done("fn k -> callcc k", "fn"), done("fn k -> fn x -> throw k x", "fn"), done("fn x -> raise x", "fn"), done("callcc (fn k -> 1 + throw k 10)", "10"), done("let f = callcc (fn k -> fn n -> throw k (fn m -> m + n)) in f 5", "10"),
		done("try 1 + raise 41 with e -> e + 1 end", "42"), uncaught("try raise 1 with e -> raise (e + 1) end", "2"), done("try try raise 1 with e -> raise (e + 1) end with e -> e * 10 end", "20"), done("try callcc (fn k -> try throw k 1 with e -> 2 end) + raise 9 with e -> e end", "9"),
		done("callcc (fn k -> raise (callcc (fn j -> throw k j)))", "cont"), uncaught("let j = callcc (fn k -> raise (callcc (fn j -> throw k j))) in try throw j 5 with e -> e end", "5"), uncaught("(raise 1) (raise 2)", "1"), uncaught("(raise 1, raise 2)", "1"), uncaught("(raise 1) :: raise 2", "1"), uncaught("(raise 1) + (raise 2)", "1"),
	})
}

// A try that nothing is raised in gives its value, and waits no longer then.
func TestTryValue(t *testing.T) {
	check(t, []example{
		done("try 5 with e -> 6 end", "5"), printing("try print 5 with e -> print 6 end", "5", 5), done("1 + (try 5 with e -> 6 end) * 10", "51"), done("try fn x -> x with e -> fn x -> e end", "fn"), done("try try 1 with e -> 2 end with e -> 3 end", "1"), done("let x = try 1 with e -> 2 end in x + 1", "2"),
		uncaught("(try 1 with e -> 2 end) + raise 3", "3"), done("try (try 1 with e -> 10 end) + raise 5 with e -> e + 20 end", "25"), uncaught("let f = try fn x -> raise x with e -> fn x -> 0 end in f 3", "3"), done("try (try fn x -> raise x with e -> fn x -> 0 end) 3 with e -> e * 2 end", "6"), uncaught("let rec f n = if n = 0 then 1 / 0 else (try n with e -> 0 end) + f (n - 1) in f 9", "-1"),
	})
}

func TestRaise(t *testing.T) {
	check(t, []example{
		uncaught("raise 5", "5"), uncaught("raise 0", "0"), uncaught("raise (0 - 5)", "-5"), uncaught("raise (65536 * 32768)", "-2147483648"), uncaught("raise (65536 * 32768 - 1)", "2147483647"), uncaught("raise (print 3)", "3", 3), uncaught("1 + print 2 * raise (print 3)", "3", 2, 3), uncaught("raise (raise 1)", "1"), uncaught("raise (1 / 0)", "-1"),
		done("try raise 5 with e -> e + 1 end", "6"), done("1 + (try raise 5 with e -> e end) * 10", "51"), done("try raise (raise 1) with e -> e end", "1"), done("try raise (0 - 7) with e -> e end", "-7"), done("(try raise 3 with e -> fn x -> x + e end) 4", "7"), done("try raise 1 with e -> 1 :: e :: [] end", "[1,1]"), done("try (1, raise 2) with e -> (e, 2 * e) end", "(2,4)"),
		done("try 1 / 0 with e -> e end", "-1"), done("try match 5 with 1 -> 2 end with e -> e end", "-2"), done("try match [] with x :: _ -> x end with e -> e end", "-2"), done("try match 1 with x -> raise 5 | _ -> 6 end with e -> e end", "5"), done("try 1 + 2 / (3 - 3) with e -> match e with 1 -> 2 | x -> x * 10 end end", "-10"), uncaught("try 1 / 0 with e -> match e with 1 -> 2 end end", "-2"),
	})
}

// What is raised goes to the try that came last and waits still: not to one
// whose handler raises, and wherever the function that raises was made.
func TestNearestTry(t *testing.T) {
	check(t, []example{
		done("try try raise 1 with e -> 10 end with e -> 20 end", "10"), done("try try raise 1 with e -> e + 1 end with e -> 100 end", "2"), done("try raise 1 with e -> try raise (e + 1) with f -> (e, f) end end", "(1,2)"), uncaught("try raise 1 with e -> try raise 2 with f -> raise (e + f * 10) end end", "21"), uncaught("try raise 1 with e -> 1 / 0 end", "-1"), done("try try 1 / 0 with e -> match e with 0 -> 1 end end with e -> e end", "-2"),
		done("try (try raise 1 with e -> e end) + (try raise 2 with e -> raise 3 end) with e -> e * 7 end", "21"), done("(try raise 1 with e -> e end, try raise 2 with e -> e end)", "(1,2)"),
		done("let f = fn x -> raise x in try f 3 with e -> e * 2 end", "6"), done("let f = fn x -> raise x in try f 3 with e -> try f (e + 1) with g -> e * 10 + g end end", "34"), done("let f = try fn x -> raise x with e -> fn x -> 1 end in try f 3 with e -> e * 2 end", "6"), done("let rec f n = if n < 1 then raise 42 else 1 + f (n-1) in try f 500 with e -> e end", "42"),
		done("let rec f n = if n < 1 then 0 else try f (n - 1) / 0 with e -> n end in f 20", "20"), uncaught("let rec f n = if n < 1 then raise 0 else try f (n - 1) with e -> raise (e + n) end in f 10", "55"), done("let rec f n = if n < 1 then raise 0 else try f (n - 1) with e -> e + n end in f 10", "1"), done("let rec p l = match l with [] -> 1 | 0 :: _ -> raise 0 | x :: r -> x * p r end in try 1 + p (3 :: 4 :: 0 :: []) with e -> e end", "0"),
		done("let rec c n = fn f -> if n < 1 then raise 0 else try f n with e -> c (n-1) f end in c 9 (fn x -> c 9 (fn y -> if x * x + y * y = 25 then (x, y) else raise 1))", "(4,3)"),
	})
}

// A handler has the names in sight at its try; what was printed and read before stays so.
func TestHandler(t *testing.T) {
	check(t, []example{
		done("let x = 1 in try let x = 2 in raise x with e -> x * 10 + e end", "12"), done("let e = 1 in (try raise 2 with e -> e end) + e", "3"), done("let e = 1 in try raise (e + 1) with f -> (e, f) end", "(1,2)"), done("let f = fn y -> raise y in let x = 3 in try f 1 with e -> (e, x) end", "(1,3)"), done("let rec f n = try raise n with e -> if e = 0 then 0 else e + f (n - 1) end in f 4", "10"), done("match 7 with x -> try match 8 with x -> raise x end with e -> (x, e) end end", "(7,8)"), done("(fn x -> try (fn x -> raise (x + 1)) (x + 1) with e -> (x, e) end) 1", "(1,3)"), done("let f = try raise 5 with e -> fn x -> x + e end in let e = 100 in f e", "105"),
		printing("try print 1 + raise (print 2) with e -> print (e + 10) end", "12", 1, 2, 12), printing("try (print 1, raise (print 2)) with e -> (print 3, e) end", "(3,2)", 1, 2, 3), uncaught("try print 1 / 0 with e -> raise (print e) end", "-1", 1, -1),
		{"try (read, raise read) with e -> (e, read) end", []int{1, 2, 3}, api.Done, "(2,3)", nil}, {"try read with e -> e end", nil, api.Exhausted, "", nil}, {"try print 1 + read with e -> print 2 end", nil, api.Exhausted, "", []int{1}}, {"try raise 1 with e -> read end", nil, api.Exhausted, "", nil}, {"try raise 1 with e -> e + read end", []int{6}, api.Done, "7", nil},
		{"let rec f n = try if read = n then n else raise n with e -> f (print e + 1) end in f 0", []int{9, 8, 2}, api.Done, "2", []int{0, 1}},
	})
}

// Wherever something is raised, all that waits there is given up.
func TestRaiseAnywhere(t *testing.T) {
	for _, inner := range []string{
		"if raise 7 then print 2 else print 3", "if true then raise 7 else print 3", "if false then print 2 else raise 7", "let x = raise 7 in print 2", "let x = 7 in raise x", "let rec f x = raise x in f 7", "let rec f x = print x in print (raise 7)", "match raise 7 with _ -> print 2 end", "match 7 with x -> raise x end", "print (raise 7)", "raise (raise 7)", "callcc (raise 7)", "callcc (fn k -> raise 7)", "callcc (fn k -> throw k (raise 7))", "throw (raise 7) (print 2)", "callcc (fn k -> throw (raise 7) (print 2))",
		"(raise 7) (print 2)", "(fn x -> print x) (raise 7)", "(fn x -> raise x) 7", "(raise 7) + print 2", "1 + raise 7", "(raise 7) * print 2", "2 * raise 7", "1 - raise 7", "1 / raise 7", "match (raise 7, print 2) with _ -> 1 end", "match (1, raise 7) with _ -> print 1 end", "match (raise 7) :: print 2 :: [] with _ -> 1 end", "match 1 :: raise 7 with _ -> print 1 end", "if (raise 7) < print 2 then 1 else 2", "if 1 = raise 7 then 1 else print 2", "try raise 7 with e -> raise e end", "try raise 6 with e -> raise 7 end",
	} {
		check(t, []example{
			uncaught(inner, "7"), done("try "+inner+" with e -> e + 1 end", "8"), printing("print (try "+inner+" with e -> e + 1 end) + 1", "9", 8), done("callcc (fn k -> try "+inner+" with e -> throw k (e + 2) end)", "9"), uncaught("1 + "+"("+inner+") + print 1", "7"),
		})
	}
}

func TestCallcc(t *testing.T) {
	check(t, []example{
		done("callcc (fn k -> 5)", "5"), done("1 + callcc (fn k -> 5)", "6"), done("1 + callcc (fn k -> throw k 5)", "6"), done("1 + callcc (fn k -> 100 + throw k 5)", "6"), done("let f = fn k -> throw k 7 in 1 + callcc f", "8"), done("callcc (let x = 3 in fn k -> x)", "3"), printing("callcc (match print 1 with _ -> fn k -> print 2 end)", "2", 1, 2), done("let rec f k = throw k 4 in callcc f * 2", "8"), done("let x = 1 in let f = fn k -> x in let x = 2 in callcc f", "1"), done("(callcc (fn k -> fn x -> x)) (fn y -> y+1) 4", "5"),
		done("callcc (fn k -> throw k (throw k 1 + 1))", "1"), done("callcc (fn k -> throw k (1, throw k (2, 3)))", "(2,3)"), done("callcc (fn k -> 1 + callcc (fn j -> 10 + throw k 100))", "100"), done("callcc (fn k -> 1 + callcc (fn j -> 10 + throw j 100))", "101"), done("callcc (fn k -> 1 + callcc (fn k -> 10 + throw k 100))", "101"), done("if callcc (fn k -> throw k true) then 1 else 2", "1"), done("callcc (fn k -> 1 :: throw k [])", "[]"), done("callcc (fn k -> match (throw k 1, 2) with (a, b) -> a end)", "1"),
		done("callcc (fn k -> let rec p l = match l with [] -> 1 | 0 :: _ -> throw k 0 | x :: r -> x * p r end in 1 + p (2 :: 3 :: 0 :: []))", "0"), done("callcc (fn k -> let rec p l = match l with [] -> 1 | 0 :: _ -> throw k 0 | x :: r -> x * p r end in 1 + p (2 :: 3 :: []))", "7"), done("callcc (fn k -> let rec d n = if n = 0 then throw k 3 else 1 + d (n - 1) in d 1000)", "3"), done("let rec f n = callcc (fn k -> if n < 1 then throw k 0 else n + f (n-1)) in f 60", "1830"), done("let rec f n = callcc (fn k -> if n < 1 then 0 else n + throw k (f (n-1))) in f 60", "0"),
		printing("callcc (fn k -> print 1 + throw k 2 + print 3)", "2", 1), printing("callcc (fn k -> throw (match print 1 with _ -> k end) (print 2))", "2", 1, 2), printing("print (callcc (fn k -> print 1 + throw k (print 2))) + print 4", "6", 1, 2, 2, 4), done("let x = 1 in let y = callcc (fn k -> let x = 2 in throw k (x * 10)) in x + y", "21"), {"callcc (fn k -> read + throw k read) * read", []int{1, 2, 3}, api.Done, "6", nil}, {"callcc (fn k -> throw k read)", nil, api.Exhausted, "", nil},
		done("let j = callcc (fn k -> raise (callcc (fn j -> throw k j))) in (j, j :: [])", "(cont,[cont])"),
	})
}

// Wherever a continuation is taken up, all that waits there is given up.
func TestThrowAnywhere(t *testing.T) {
	for _, inner := range []string{
		"if throw k 7 then print 2 else print 3", "if true then throw k 7 else print 3", "let x = throw k 7 in print 2", "let rec f x = throw k x in f 7", "let rec f n = if n = 0 then throw k 7 else print (f (n - 1)) in f 9", "match throw k 7 with _ -> print 2 end", "match 7 with x -> throw k x end", "print (throw k 7)", "raise (throw k 7)", "callcc (throw k 7)", "callcc (fn j -> throw k 7)", "callcc (fn j -> throw j (throw k 7))", "throw (throw k 7) (print 2)", "throw k (throw k 7)", "(throw k 7) (print 2)", "(fn x -> print x) (throw k 7)", "(fn x -> throw k x) 7", "(fn k -> throw k 7) k", "(throw k 7) + print 2", "1 / throw k 7", "match (throw k 7, print 2) with _ -> 1 end", "match 1 :: throw k 7 with _ -> print 1 end", "if 1 < throw k 7 then print 1 else 2",
		"try throw k 7 with e -> print e end", "try raise 7 with e -> throw k e end", "try 1 / throw k 7 with e -> print e end", "try try raise 1 with e -> raise 7 end with e -> throw k e end", "match k :: [] with [] -> 0 | j :: _ -> throw j 7 end", "match (1, k) with (_, j) -> throw j 7 end", "let f = fn x -> throw k x in print (f 7)", "7", "callcc (fn j -> 7)", "callcc (fn k -> throw k 7)",
	} {
		taken := "callcc (fn k -> " + inner + ")"
		check(t, []example{
			done(taken, "7"), printing("print ("+taken+") + 1", "8", 7), uncaught("raise ("+taken+")", "7"), uncaught("("+taken+") / 0", "-1"), done("try raise ("+taken+") with e -> e + 1 end", "8"), done("(1, ("+taken+") :: [])", "(1,[7])"), done("(fn x -> x + 1) ("+taken+")", "8"), done("callcc (fn j -> throw j ("+taken+"))", "7"),
		})
	}
}

// A continuation may be taken up any number of times, also behind its callcc's end.
func TestTakenUpAgain(t *testing.T) {
	again := "let rec m k = fn n -> if n = 0 then 77 else throw k (fn x -> m k (n - 1)) in let f = callcc (fn k -> m k) in f "
	input := "let f = callcc (fn k -> let rec m u = throw k m in m) in let x = print read in if x = 0 then 99 else f 0"
	deep := "let j = callcc (fn k -> let rec d n = if n = 0 then callcc (fn j -> throw k j) else 1 + d (n-1) in raise (d 100)) in "
	check(t, []example{
		done("let f = callcc (fn k -> fn n -> throw k (fn m -> m + n)) in f 5", "10"), printing("let f = callcc (fn k -> fn n -> if n < 1 then 7 else throw k (fn m -> m+n)) in print (f 5) + f 0", "15", 10), done(again+"0", "77"), done(again+"1", "77"), done(again+"1000", "77"), printing("let rec m k = fn n -> if n = 0 then 77 else throw k (fn x -> m k (print (n - 1))) in let f = callcc (fn k -> m k) in f 5", "77", 4, 3, 2, 1, 0),
		{input, []int{3, 2, 1, 0}, api.Done, "99", []int{3, 2, 1, 0}}, {input, []int{0, 5}, api.Done, "99", []int{0}}, {input, []int{3, 2}, api.Exhausted, "", []int{3, 2}}, {input, nil, api.Exhausted, "", nil},
		uncaught(deep+"throw j 5", "105"), uncaught(deep+"try throw j 5 with e -> e end", "105"), uncaught(deep+"1 + print 2 * throw j 7", "107", 2), uncaught(deep+"(fn x -> throw j (x + 1)) 10", "111"), uncaught(deep+"match j :: j :: [] with _ :: c :: _ -> throw c 1 end", "101"), done(deep+"j", "cont"),
		uncaught("let p = callcc (fn k -> (0, raise (callcc (fn j -> throw k (1, j))))) in match p with (a, j) -> if a < 1 then 9 else throw j 4 end", "4"), done("let x = 5 in let f = callcc (fn k -> fn n -> throw k (fn m -> m + n * x)) in let x = 100 in f 5", "30"), done("let p = callcc (fn k -> (1, fn n -> throw k (n, fn m -> m))) in match p with (a, f) -> if a = 50 then f a else f (a + 49) end", "50"),
		done("let rec s l = match l with [] -> 0 | x :: r -> x + s r end in let rec m k = fn l -> if s l < 40 then throw k (fn x -> m k (s l :: l)) else l in (callcc (fn k -> m k)) (1 :: 2 :: [])", "[24,12,6,3,1,2]"),
	})
}

// The tries that wait belong to a continuation: one that is left catches
// nothing more, and one that is taken up again catches again.
func TestTriesOfContinuations(t *testing.T) {
	check(t, []example{
		done("try callcc (fn k -> try throw k 1 with e -> 2 end) + raise 9 with e -> e end", "9"), uncaught("callcc (fn k -> try throw k 1 with e -> 2 end) + raise 9", "9"), uncaught("let x = callcc (fn k -> try try throw k 1 with e -> 2 end with e -> 3 end) in raise (x + 9)", "10"), done("try callcc (fn k -> raise 3) with e -> e end", "3"), done("callcc (fn k -> try raise 3 with e -> throw k (e + 1) end)", "4"), done("try callcc (fn k -> try raise 3 with e -> raise (e + 1) end) with e -> e * 2 end", "8"),
		uncaught("let j = callcc (fn k -> raise (callcc (fn j -> throw k j))) in try throw j 5 with e -> e end", "5"), uncaught("let j = callcc (fn k -> try raise (callcc (fn j -> throw k j)) with e -> raise (e * 10) end) in throw j 5", "50"), uncaught("let j = callcc (fn k -> try raise (callcc (fn j -> throw k j)) with e -> raise (e * 10) end) in try throw j 5 with e -> e end", "50"), uncaught("let j = callcc (fn k -> try raise (callcc (fn j -> throw k j)) with e -> raise (e * 10) end) in try try throw j 5 with e -> 1 end with e -> 2 end", "50"),
		done("let g = try match callcc (fn k -> (1, fn n -> throw k (0, fn x -> x))) with (a, f) -> if a = 0 then raise 8 else f end with e -> fn x -> e * 100 + x end in g 3", "803"), done("let rec m k = fn n -> if n = 0 then raise 42 else throw k (fn x -> m k (n - 1)) in try (callcc (fn k -> m k)) 50 + 1 with e -> e end", "42"), uncaught("let rec m k = fn n -> if n = 0 then raise 42 else throw k (fn x -> m k (n - 1)) in let f = try callcc (fn k -> m k) with e -> fn x -> e end in f 50", "42"), done("let rec m k = fn n -> if n = 0 then raise 42 else throw k (fn x -> m k (n - 1)) in let f = callcc (fn k -> m k) in try f 50 with e -> e + 1 end", "43"),
	})
}
