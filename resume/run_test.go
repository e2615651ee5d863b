package resume_test

import (
	"fmt"
	"reflect"
	"slices"
	"testing"

	"resume/api"
	"resume/resume"
)

func program(t *testing.T, s string) *resume.Program {
	t.Helper()
	p, e := resume.Compile(s)
	if e != api.OK || p == nil {
		t.Fatalf("Compile(%q) = %v, %d", s, p, e)
	}
	return p
}

func start(t *testing.T, s string, input []int, words int) *resume.Run {
	t.Helper()
	r, e := program(t, s).Start(input, words)
	if e != api.OK || r == nil {
		t.Fatalf("Start of %q with %v, %d = %v, %d", s, input, words, r, e)
	}
	return r
}

// goOn: a run goes on for so many jumps, in slices of that much fuel.
func goOn(t *testing.T, r *resume.Run, jumps, slice int) api.State {
	t.Helper()
	for jumps > 0 {
		if e := r.Go(min(jumps, slice)); e != api.OK {
			t.Fatalf("Go(%d) = %d", min(jumps, slice), e)
		}
		jumps -= slice
	}
	return r.State()
}

func TestStart(t *testing.T) {
	p := program(t, "read")
	eight, nine := make([]int, 8), make([]int, 9)
	for _, c := range []struct {
		input []int
		words int
		e     api.Errno
	}{
		{nil, 16, api.OK}, {[]int{}, 16, api.OK}, {nil, 262144, api.OK}, {nil, 20000, api.OK}, {eight, 16, api.OK}, {[]int{2147483647, -2147483648, 0, -1}, 100, api.OK},
		{nil, 15, api.ErrArg}, {nil, 0, api.ErrArg}, {nil, -16, api.ErrArg}, {nil, 262145, api.ErrArg}, {nil, 1 << 62, api.ErrArg}, {nil, -1 << 63, api.ErrArg}, {nil, 1<<63 - 1, api.ErrArg},
		{[]int{2147483648}, 16, api.ErrArg}, {[]int{-2147483649}, 16, api.ErrArg}, {[]int{0, 1, 2, 3, 4, 5, 6, 1 << 40}, 16, api.ErrArg}, {[]int{-1 << 63, 0}, 16, api.ErrArg}, {[]int{0, 1<<63 - 1, 0}, 16, api.ErrArg}, {[]int{1 << 32}, 16, api.ErrArg}, {eight, 15, api.ErrArg}, {[]int{1 << 40}, 0, api.ErrArg},
		{nine, 16, api.ErrLong}, {nine, 0, api.ErrLong}, {make([]int, 100000), 16, api.ErrLong}, {[]int{0, 1, 2, 3, 4, 5, 6, 7, 1 << 40}, 16, api.ErrLong}, {[]int{1 << 40, 1, 2, 3, 4, 5, 6, 7, 8}, -1, api.ErrLong},
	} {
		r, e := p.Start(c.input, c.words)
		if e != c.e || (r == nil) != (e != api.OK) {
			t.Errorf("Start(%v, %d) = %v, %d, want %d", c.input, c.words, r, e, c.e)
		}
		if r == nil {
			continue
		}
		if s := r.State(); !reflect.DeepEqual(s, api.State{Status: api.Running}) {
			t.Errorf("Start(%v, %d): %+v", c.input, c.words, s)
		}
	}
}

func TestGo(t *testing.T) {
	r := start(t, "let rec f n = f (print n + 1) in f 0", nil, 16)
	jumps := 0
	for _, fuel := range []int{0, 1, 0, 17, 4000, 0, 3999, 4000, 2} {
		for _, wrong := range []int{-1, 4001, 1 << 62, -1 << 63, 1<<63 - 1} {
			before := r.State()
			if e := r.Go(wrong); e != api.ErrArg || !reflect.DeepEqual(before, r.State()) {
				t.Errorf("Go(%d) = %d, %+v", wrong, e, r.State())
			}
		}
		if e := r.Go(fuel); e != api.OK {
			t.Errorf("Go(%d) = %d", fuel, e)
		}
		jumps += fuel
		s := r.State()
		if s.Status != api.Running || s.Value != "" || s.Jumps != jumps {
			t.Errorf("behind %d jumps: %d, %q, %d", jumps, s.Status, s.Value, s.Jumps)
		}
		for i, n := range s.Prints {
			if n != i {
				t.Fatalf("behind %d jumps: %v", jumps, s.Prints)
			}
		}
	}
}

// What has ended stays as it is.
func TestEnded(t *testing.T) {
	for _, c := range []struct {
		s    string
		want api.State
	}{
		{"print 1 + 2", api.State{Status: api.Done, Value: "3", Prints: []int{1}}}, {"print 1 / 0", api.State{Status: api.Uncaught, Value: "-1", Prints: []int{1}}}, {"print 1 + read", api.State{Status: api.Exhausted, Prints: []int{1}}}, {"[]", api.State{Status: api.Done, Value: "[]"}}, {"match 1 with 2 -> 3 end", api.State{Status: api.Uncaught, Value: "-2"}}, {"read", api.State{Status: api.Exhausted}},
		{"raise (print 7)", api.State{Status: api.Uncaught, Value: "7", Prints: []int{7}}}, {"try raise 1 with e -> raise (print e + 1) end", api.State{Status: api.Uncaught, Value: "2", Prints: []int{1}}}, {"try read with e -> print e end", api.State{Status: api.Exhausted}}, {"callcc (fn k -> 1 + throw k (print 2))", api.State{Status: api.Done, Value: "2", Prints: []int{2}}},
	} {
		r := start(t, c.s, nil, 16)
		r.Go(4000)
		got := r.State()
		if got.Jumps < 1 || got.Jumps > 20 {
			t.Errorf("%q: %d jumps", c.s, got.Jumps)
		}
		c.want.Jumps = got.Jumps
		for _, fuel := range []int{0, 1, 4000, -1, 4001} {
			if !reflect.DeepEqual(r.State(), c.want) {
				t.Errorf("%q: %+v, want %+v", c.s, r.State(), c.want)
			}
			if e := r.Go(fuel); (e == api.OK) != (fuel >= 0 && fuel <= 4000) || e != api.OK && e != api.ErrArg {
				t.Errorf("%q has ended: Go(%d) = %d", c.s, fuel, e)
			}
		}
	}
}

type ending struct {
	s      string
	input  []int
	status int
	value  string
	prints []int
}

// endings: the examples of the document.
var endings = []ending{
	{"1 + 2 * 3", nil, api.Done, "7", nil}, {"7 - 2 - 1", nil, api.Done, "4", nil}, {"0 - 7 / 2", nil, api.Done, "-3", nil}, {"(0 - 7) / 2", nil, api.Done, "-3", nil}, {"2 :: 3 :: []", nil, api.Done, "[2,3]", nil}, {"(1, (true, []))", nil, api.Done, "(1,(true,[]))", nil}, {"fn x -> fn y -> x", nil, api.Done, "fn", nil}, {"fn f -> fn g -> fn x -> f (g x)", nil, api.Done, "fn", nil}, {"let id = fn x -> x in (id 1, id true)", nil, api.Done, "(1,true)", nil}, {"let rec f x = f (f x) in f", nil, api.Done, "fn", nil},
	{"1 / 0", nil, api.Uncaught, "-1", nil}, {"match 3 with 1 -> 2 end", nil, api.Uncaught, "-2", nil}, {"read", nil, api.Exhausted, "", nil}, {"999999 * 999999", nil, api.Done, "-729379967", nil}, {"let rec s n = if n < 1 then 0 else n + s (n - 1) in s 1000", nil, api.Done, "500500", nil}, {"let rec e n = if n = 0 then true else o (n - 1) and o n = if n = 0 then false else e (n - 1) in e 101", nil, api.Done, "false", nil}, {"match (1 :: 2 :: [], 3) with ([], y) -> y | (x :: [], y) -> x | (x :: y :: _, 3) -> x * 100 + y | _ -> 0 end", nil, api.Done, "102", nil}, {"let x = 1 in let f = fn y -> x + y in let x = 10 in f 5", nil, api.Done, "6", nil}, {"46000 * 46000", nil, api.Done, "2116000000", nil},
	{"fn k -> callcc k", nil, api.Done, "fn", nil}, {"fn k -> fn x -> throw k x", nil, api.Done, "fn", nil}, {"fn x -> raise x", nil, api.Done, "fn", nil}, {"callcc (fn k -> 1 + throw k 10)", nil, api.Done, "10", nil}, {"let f = callcc (fn k -> fn n -> throw k (fn m -> m + n)) in f 5", nil, api.Done, "10", nil}, {"try 1 + raise 41 with e -> e + 1 end", nil, api.Done, "42", nil}, {"try raise 1 with e -> raise (e + 1) end", nil, api.Uncaught, "2", nil}, {"try try raise 1 with e -> raise (e + 1) end with e -> e * 10 end", nil, api.Done, "20", nil},
	{"try callcc (fn k -> try throw k 1 with e -> 2 end) + raise 9 with e -> e end", nil, api.Done, "9", nil}, {"callcc (fn k -> raise (callcc (fn j -> throw k j)))", nil, api.Done, "cont", nil}, {"let j = callcc (fn k -> raise (callcc (fn j -> throw k j))) in try throw j 5 with e -> e end", nil, api.Uncaught, "5", nil}, {"(raise 1) (raise 2)", nil, api.Uncaught, "1", nil}, {"(raise 1, raise 2)", nil, api.Uncaught, "1", nil}, {"(raise 1) :: raise 2", nil, api.Uncaught, "1", nil}, {"(raise 1) + (raise 2)", nil, api.Uncaught, "1", nil},
	{"let rec r n = if n < 1 then 0 else print (r (n-1) + read) in r 3", []int{5, 6, 7}, api.Done, "18", []int{5, 11, 18}}, {"let rec r n = if n < 1 then 0 else print (r (n-1) + read) in r 3", []int{5, 6}, api.Exhausted, "", []int{5, 11}},
}

func TestExamples(t *testing.T) {
	for _, c := range endings {
		for _, slice := range []int{1, 7, 4000} {
			for _, words := range []int{20000, 100000, 262144} {
				s := goOn(t, start(t, c.s, c.input, words), 40000, slice)
				if s.Status != c.status || s.Value != c.value || !reflect.DeepEqual(s.Prints, c.prints) {
					t.Errorf("%q with %v: %+v, want %d, %q, %v", c.s, c.input, s, c.status, c.value, c.prints)
				}
			}
		}
	}
}

// How a run stands hangs neither on the slices nor on its words.
func TestSlicesAndWords(t *testing.T) {
	for _, s := range []string{
		"let rec f n = f (print n + 1) in f 0", "let rec f n = 1 + f (print n + 1) in f 0", "let rec b n = print n :: b (n + 1) in b 0", "let rec s n = if n < 1 then 0 else n + s (n - 1) in s 100", "let rec f g = f (fn x -> print (g x + 1)) in f (fn x -> x)", "let rec fib n = if n < 2 then print n else fib (n-1) + fib (n-2) in fib 7", "let rec d n = if n = 0 then 1 / 0 else print n + d (n - 1) in d 30", "let rec f x = f (f x) in f 1", "print read :: print read :: print read :: []",
		"let rec f n = f (try raise (print n) with e -> e + 1 end) in f 0", "let rec f n = try f (print n + 1) with e -> e end in f 0", "let rec d n = if n = 0 then raise 7 else print n + d (n - 1) in try d 30 with e -> print e end", "let rec f n = callcc (fn k -> 1 + f (print n + 1)) in f 0", "let rec m k = fn n -> if n = 0 then raise 77 else throw k (fn x -> m k (print (n - 1))) in try (callcc (fn k -> m k)) 60 with e -> e end", "let f = callcc (fn k -> let rec m u = throw k m in m) in let x = print read in if x = 0 then 99 else f 0", "let j = callcc (fn k -> let rec d n = if n = 0 then callcc (fn j -> throw k j) else 1 + d (print n-1) in raise (d 50)) in try throw j (print 5) with e -> e end",
	} {
		var runs, sliced []*resume.Run
		for _, words := range []int{16, 17, 100, 5000, 20000, 262144} {
			runs = append(runs, start(t, s, []int{3, 4}, words))
			sliced = append(sliced, start(t, s, []int{3, 4}, words))
		}
		for jumps := 0; jumps < 3000; jumps++ {
			want := runs[0].State()
			for i, r := range runs {
				if got := r.State(); !reflect.DeepEqual(got, want) {
					t.Fatalf("%q, run %d behind %d jumps: %+v, want %+v", s, i, jumps, got, want)
				}
				r.Go(1)
				if jumps%(5*i+7) == 0 {
					sliced[i].Go(5*i + 7)
				}
			}
		}
		for i, r := range sliced {
			n := runs[i].State().Jumps
			goOn(t, r, n-r.State().Jumps, 13)
			goOn(t, runs[i], r.State().Jumps-n, 4000)
			if !reflect.DeepEqual(r.State(), runs[i].State()) || r.State().Status == api.Memory {
				t.Errorf("%q: in slices %+v, else %+v", s, r.State(), runs[i].State())
			}
		}
	}
}

// Even what holds very much is not out of memory, with the fewest words.
func TestMuchMemory(t *testing.T) {
	for _, c := range []ending{
		{"let rec s n = if n < 1 then 0 else n + s (n - 1) in s 3000", nil, api.Done, "4501500", nil}, {"let rec s n = if n < 1 then 0 else 1 + s (n - 1) in s 100000", nil, api.Done, "100000", nil}, {"let rec b n = if n < 1 then [] else n :: b (n-1) in b 100000", nil, api.Done, "..", nil}, {"let rec b n = if n < 1 then 1 / 0 else n + b (n-1) in b 100000", nil, api.Uncaught, "-1", nil}, {"let rec f n = if n < 1 then fn x -> x else let g = f (n - 1) in fn x -> g (x + 1) in f 20000 5", nil, api.Done, "20005", nil},
		{"let rec f n = if n < 1 then raise 42 else 1 + f (n-1) in try f 100000 with e -> e end", nil, api.Done, "42", nil}, {"let rec f n = if n < 1 then raise 0 else try f (n - 1) with e -> raise (e + 1) end in f 50000", nil, api.Uncaught, "50000", nil}, {"let rec f n = callcc (fn k -> if n < 1 then throw k 0 else 1 + f (n-1)) in f 50000", nil, api.Done, "50000", nil}, {"let rec m k = fn n -> if n = 0 then 77 else throw k (fn x -> m k (n - 1)) in let f = callcc (fn k -> m k) in f 50000", nil, api.Done, "77", nil}, {"let j = callcc (fn k -> let rec d n = if n = 0 then callcc (fn j -> throw k j) else 1 + d (n-1) in raise (d 50000)) in throw j 5", nil, api.Uncaught, "50005", nil},
	} {
		s := goOn(t, start(t, c.s, c.input, api.MinWords), 3000000, 4000)
		if s.Status != c.status || s.Value != c.value {
			t.Errorf("%q: %d, %.50q, want %d, %q", c.s, s.Status, s.Value, c.status, c.value)
		}
	}
}

// The list that is handed in is only read, and not kept.
func TestInputApart(t *testing.T) {
	all := []int{1, 2, 3, 4, 5}
	p := program(t, "read :: read :: read :: []")
	first, _ := p.Start(all[:3], 16)
	second, _ := p.Start(all[:2], 16)
	goOn(t, first, 3, 1)
	if !slices.Equal(all, []int{1, 2, 3, 4, 5}) {
		t.Errorf("the input became %v", all)
	}
	for i := range all {
		all[i] = 77
	}
	third, _ := p.Start(all[2:], 16)
	if s := goOn(t, first, 100, 1); s.Value != "[1,2,3]" {
		t.Errorf("%+v", s)
	}
	if s := goOn(t, second, 100, 1); s.Status != api.Exhausted {
		t.Errorf("%+v", s)
	}
	if s := goOn(t, third, 100, 1); s.Value != "[77,77,77]" {
		t.Errorf("%+v", s)
	}
	if !slices.Equal(all, []int{77, 77, 77, 77, 77}) {
		t.Errorf("the input became %v", all)
	}
}

// The prints are the caller's, who may write into them.
func TestPrintsApart(t *testing.T) {
	r := start(t, "let rec f n = if n = 6 then n else f (print n + 1) in f 0", nil, 16)
	for i := 0; i < 200; i++ {
		a, b := r.State().Prints, r.State().Prints
		if (a == nil) != (len(a) == 0) || cap(a) != len(a) || !slices.Equal(a, b) || !slices.Equal(a, []int{0, 1, 2, 3, 4, 5}[:len(a)]) {
			t.Fatalf("%v (of %d), %v", a, cap(a), b)
		}
		for j := range a {
			a[j] = -9
		}
		a = append(a, -9)
		r.Go(1)
	}
	if s := r.State(); !slices.Equal(s.Prints, []int{0, 1, 2, 3, 4, 5}) || s.Value != "6" {
		t.Errorf("%+v", s)
	}
}

// Runs of one program, and of others, do not meddle with each other.
func TestRunsApart(t *testing.T) {
	p := program(t, "let rec f n = if n < 1 then [] else print (n + read) :: f (n - 1) in f 3")
	q := program(t, "let rec g n = g (print n + 1) in g 0")
	want := goOn(t, start(t, "let rec f n = if n < 1 then [] else print (n + read) :: f (n - 1) in f 3", []int{10, 20, 30}, 16), 1000, 4000)
	a, _ := p.Start([]int{10, 20, 30}, 16)
	b, _ := p.Start([]int{1, 1}, 16)
	c, _ := q.Start(nil, 16)
	for i := 0; i < 100; i++ {
		a.Go(1)
		c.Go(3)
		b.Go(2)
		p.Start(nil, 16)
	}
	d, _ := p.Start([]int{10, 20, 30}, 16)
	if !reflect.DeepEqual(a.State(), want) || !reflect.DeepEqual(goOn(t, d, 1000, 1), want) || want.Value != "[13,22,31]" {
		t.Errorf("%+v, %+v, want %+v", a.State(), d.State(), want)
	}
	if s := b.State(); s.Status != api.Exhausted || !slices.Equal(s.Prints, []int{4, 3}) {
		t.Errorf("%+v", s)
	}
	if s := c.State(); s.Jumps != 300 || s.Status != api.Running {
		t.Errorf("%+v", s)
	}
}

// What is no program cannot be started, and what is no run does not go on.
func TestNothing(t *testing.T) {
	nine := make([]int, 9)
	for _, p := range []*resume.Program{nil, {}} {
		for _, c := range []struct {
			input []int
			words int
			e     api.Errno
		}{{nil, 16, api.ErrArg}, {nil, 0, api.ErrArg}, {nine, 16, api.ErrLong}} {
			if r, e := p.Start(c.input, c.words); r != nil || e != c.e {
				t.Errorf("Start(%v, %d) of no program = %v, %d", c.input, c.words, r, e)
			}
		}
	}
	for _, r := range []*resume.Run{nil, {}} {
		for _, fuel := range []int{-1, 0, 1, 4000, 4001} {
			if e := r.Go(fuel); e != api.ErrArg {
				t.Errorf("Go(%d) of no run = %d", fuel, e)
			}
			if s := r.State(); !reflect.DeepEqual(s, api.State{}) {
				t.Errorf("%+v", s)
			}
		}
	}
}

// Whatever is a program can be run, and goes the same way each time.
func TestAnyRun(t *testing.T) {
	pieces := []string{"let x = ", " in ", "fn x -> ", "(", ")", "(", ")", ",", "::", "[]", "+", "/", " 0 ", " 1 ", "x ", "x ", "print ", "read ", "raise ", "callcc ", "throw ", "try ", " with x -> ", " end ", "match ", " with _ -> ", "if ", " then ", " else ", "true ", "=", "let rec x x = "}
	state := uint64(9)
	ran := 0
	for i := 0; i < 400000; i++ {
		s := ""
		for n := i%7 + 1; n > 0; n-- {
			state = state*6364136223846793005 + 1442695040888963407
			s += pieces[int(state>>33)%len(pieces)]
		}
		p, e := resume.Compile(s)
		if e != api.OK {
			continue
		}
		ran++
		texts := [2]string{}
		for j := range texts {
			r, e := p.Start([]int{int(state>>40) % 3}, 16)
			if e != api.OK || r == nil {
				t.Fatalf("Start of %q = %v, %d", s, r, e)
			}
			goOn(t, r, 500, 100+j)
			texts[j] = fmt.Sprint(r.State())
		}
		if texts[0] != texts[1] {
			t.Fatalf("%q: %s, %s", s, texts[0], texts[1])
		}
	}
	if ran < 2000 {
		t.Errorf("only %d programs ran", ran)
	}
}
