package machine

import (
	"fmt"
	"math/rand"
	"reflect"
	"slices"
	"strings"
	"testing"

	"resume/api"
	"resume/tree"
)

// maker makes programs. A type is a text: i, b, Lt, Ptu, Ftu, Ct.
type maker struct {
	random  *rand.Rand
	control bool // with try, raise, callcc, throw
	names   []string
	types   []string
}

// cut answers the first of the types that a text begins with, and the rest.
func cut(types string) (string, string) {
	end, open := 0, 1
	for ; open > 0; end++ {
		switch types[end] {
		case 'i', 'b':
			open--
		case 'P', 'F':
			open++
		}
	}
	return types[:end], types[end:]
}

func (m *maker) typ(depth int) string {
	n := m.random.Intn(12)
	switch {
	case depth == 0 || n < 5:
		return []string{"i", "i", "i", "b"}[m.random.Intn(4)]
	case n < 8:
		return "L" + m.typ(depth-1)
	case n < 9 && m.control:
		return "C" + m.typ(depth-1)
	case n < 10:
		return "P" + m.typ(depth-1) + m.typ(depth-1)
	}
	return "F" + m.typ(depth-1) + m.typ(depth-1)
}

func (m *maker) fresh() string {
	return fmt.Sprint("v", m.random.Intn(4), strings.Repeat("_", m.random.Intn(2)))
}

// within: an expression in which a name is in sight; it may hide one.
func (m *maker) within(name, typ string, depth int, want string) string {
	names, types := m.names, m.types
	m.names, m.types = append(names[:len(names):len(names)], name), append(types[:len(types):len(types)], typ)
	text := m.exp(depth, want)
	m.names, m.types = names, types
	return text
}

// fitting answers a name in sight that is of a type, if there is one.
func (m *maker) fitting(want string) string {
	for tries := 0; tries < 8 && len(m.names) > 0; tries++ {
		i := m.random.Intn(len(m.names))
		if m.types[i] == want && !slices.Contains(m.names[i+1:], m.names[i]) {
			return m.names[i]
		}
	}
	return ""
}

func (m *maker) exp(depth int, want string) string {
	if name := m.fitting(want); name != "" && m.random.Intn(3) > 0 {
		return name
	}
	if depth > 0 && m.random.Intn(3) > 0 {
		return m.form(depth-1, want)
	}
	switch want[0] {
	case 'i':
		return m.number(depth)
	case 'b':
		if depth > 0 {
			return "(" + m.exp(depth-1, "i") + []string{" < ", " = "}[m.random.Intn(2)] + m.exp(depth-1, "i") + ")"
		}
		return []string{"true", "false"}[m.random.Intn(2)]
	case 'L':
		if depth == 0 || m.random.Intn(4) == 0 {
			return "[]"
		}
		return "(" + m.exp(depth-1, want[1:]) + " :: " + m.exp(depth-1, want) + ")"
	case 'P':
		first, second := cut(want[1:])
		return "(" + m.exp(depth, first) + ", " + m.exp(depth, second) + ")"
	case 'F':
		x := m.fresh()
		first, second := cut(want[1:])
		return "(fn " + x + " -> " + m.within(x, first, depth, second) + ")"
	}
	return "(callcc (fn j -> let z = callcc (fn k -> throw j k) in raise " + m.within("z", want[1:], depth, "i") + "))"
}

func (m *maker) number(depth int) string {
	switch n := m.random.Intn(12); {
	case depth > 0 && n < 4:
		return "(" + m.exp(depth-1, "i") + []string{" + ", " - ", " * ", " / "}[n] + m.exp(depth-1, "i") + ")"
	case depth > 0 && n < 7:
		return "(print " + m.exp(depth-1, "i") + ")"
	case n < 8:
		return "read"
	case n < 9:
		return "999999"
	}
	return fmt.Sprint(m.random.Intn(4))
}

func (m *maker) form(depth int, want string) string {
	x, y, typ := m.fresh(), m.fresh(), m.typ(1)
	if m.control && m.random.Intn(3) == 0 {
		return m.controlled(depth, want)
	}
	switch m.random.Intn(9) {
	case 0:
		return "(if " + m.exp(depth, "b") + " then " + m.exp(depth, want) + " else " + m.exp(depth, want) + ")"
	case 1, 2:
		return "(" + m.exp(depth, "F"+typ+want) + " " + m.exp(depth, typ) + ")"
	case 3:
		return "(let " + x + " = " + m.exp(depth, typ) + " in " + m.within(x, typ, depth, want) + ")"
	case 4:
		return "(let rec " + x + " n = if n < 1 then " + m.exp(depth, typ) + " else let " + y + " = " + x + " (n - 1) in " + m.within(y, typ, depth, typ) + " in let " + y + " = " + x + " " + fmt.Sprint(m.random.Intn(6)) + " in " + m.within(y, typ, depth, want) + ")"
	case 5:
		to := m.typ(1)
		m.names, m.types = append(m.names, x), append(m.types, "F"+typ+to)
		text := "(let rec " + x + " " + y + " = " + m.within(y, typ, depth, to) + " and g " + y + " = " + m.within(y, "i", depth, want) + " in "
		text += m.within("g", "Fi"+want, depth, want) + ")"
		m.names, m.types = m.names[:len(m.names)-1], m.types[:len(m.types)-1]
		return text
	case 6:
		return "(match " + m.exp(depth, "L"+typ) + " with [] -> " + m.exp(depth, want) + " | " + x + " :: [] -> " + m.within(x, typ, depth, want) + " | _ :: " + x + " -> " + m.within(x, "L"+typ, depth, want) + " end)"
	case 7:
		return "(match (" + m.exp(depth, "Pib") + ", " + m.exp(depth, typ) + ") with ((0, true), " + x + ") -> " + m.within(x, typ, depth, want) + " | ((" + x + ", false), _) -> " + m.within(x, "i", depth, want) + " end)"
	}
	return "(match " + m.exp(depth, "i") + " with 0 -> " + m.exp(depth, want) + " | 1 -> " + m.exp(depth, want) + " | " + x + " -> " + m.within(x, "i", depth, want) + " end)"
}

func (m *maker) controlled(depth int, want string) string {
	x, typ := m.fresh(), m.typ(1)
	switch m.random.Intn(6) {
	case 0, 1:
		return "(try " + m.exp(depth, want) + " with " + x + " -> " + m.within(x, "i", depth, want) + " end)"
	case 2:
		return "(raise " + m.exp(depth, "i") + ")"
	case 3:
		return "(throw " + m.exp(depth, "C"+typ) + " " + m.exp(depth, typ) + ")"
	}
	return "(callcc (fn " + x + " -> " + m.within(x, "C"+want, depth, want) + "))"
}

// parts: P9's N.
func parts(code *Code) int {
	n := len(code.Tree.Exps) + len(code.Tree.Pats)
	for _, e := range code.Tree.Exps {
		if e.Kind == tree.LetRec {
			n += len(e.Funs)
		}
	}
	return n
}

// compare: each jump is a step of the second evaluator, but for the one that is done.
func compare(t *testing.T, text string, code *Code, input []int, steps int) api.State {
	t.Helper()
	wanted := trace(code, input, steps+1)
	m := New(code, input)
	for n := 0; n <= steps; n++ {
		got := m.State()
		last := min(n+1, len(wanted)-1)
		want := wanted[min(n, last)]
		if wanted[last].Status == api.Done && n > 0 {
			want = wanted[last]
		}
		if got.Status != want.Status || got.Value != want.Value || !reflect.DeepEqual(got.Prints, want.Prints) {
			t.Fatalf("%q with %v behind %d jumps: %+v, want %+v", text, input, n, got, want)
		}
		if got.Jumps != n {
			t.Fatalf("%q: %d jumps, want %d", text, got.Jumps, n)
		}
		if got.Status != api.Running {
			break
		}
		m.Go(1)
	}
	return m.State()
}

// inSlices: how the run stands does not hang on them.
func inSlices(t *testing.T, random *rand.Rand, text string, code *Code, input []int, want api.State) {
	t.Helper()
	m := New(code, input)
	for left := want.Jumps; left > 0; {
		n := random.Intn(left + 1)
		m.Go(n)
		left -= n
	}
	if got := m.State(); !reflect.DeepEqual(got, want) {
		t.Fatalf("%q with %v: in slices %+v, want %+v", text, input, got, want)
	}
}

func tryMade(t *testing.T, control bool) {
	t.Helper()
	random := rand.New(rand.NewSource(3))
	m := maker{random: random, control: control}
	ends := [5]int{}
	untyped, printed := 0, 0
	for i := 0; i < 12000; i++ {
		text := m.exp(4, m.typ(2))
		code, isProgram := read(text)
		if !isProgram {
			untyped++
			continue
		}
		input := []int{}
		for n := random.Intn(9); n > 0; n-- {
			input = append(input, random.Intn(5)-1)
		}
		s := compare(t, text, code, input, 600)
		inSlices(t, random, text, code, input, s)
		ends[s.Status]++
		printed += len(s.Prints)
	}
	if untyped > 2000 || ends[api.Done] < 4000 || ends[api.Uncaught] < 1500 || ends[api.Exhausted] < 1500 || ends[api.Memory] > 0 || printed < 1500 {
		t.Errorf("%d have no type, they end as %v, with %d prints", untyped, ends, printed)
	}
}

func TestMade(t *testing.T) { tryMade(t, false) }

func TestMadeWithControl(t *testing.T) { tryMade(t, true) }

// Programs that run long, and print much or little.
func TestMadeByHand(t *testing.T) {
	for _, text := range []string{
		"let rec f n = f (print n + 1) in f 0", "let rec f n = 1 + f (print n + 1) in f 0", "let rec f x = f x in f 0", "let rec f x = f (f x) in f 0", "let rec f x = print x :: f (x + 1) in f 0",
		"let rec e n = o (print n) and o n = e (n + 1) in e 0", "let rec fib n = if n < 2 then print n else fib (n-1) + fib (n-2) in fib 9", "let rec s n = if n < 1 then 0 else n + s (n - 1) in print (s 50)",
		"let rec r a = fn l -> match l with [] -> a | x :: t -> r (print x :: a) t end in let rec c l = c (r [] l) in c (1 :: 2 :: 3 :: [])", "let rec f n = match (n, n) with (1, 2) -> 1 | (x, 3) -> print x | (3, y) -> y | (x, y) -> f (x + 1) end in f (0 - 9)", "let rec f g = f (fn x -> print (g x + 1)) in f (fn x -> x)", "let rec f g = g (print 1) + f (fn x -> g x + 1) in f (fn x -> print x)",
		"(fn a -> fn b -> fn c -> a (b c)) (fn x -> print (x * 2)) (fn x -> print (x + 1)) read", "let rec f n = if n = 100 then n / (n - 100) else 1 + f (print n + 1) in f 0", "let rec f n = print read :: f n in f 0",
		"let rec f n = try raise (print n) with e -> f (e + 1) end in f 0", "let rec f n = f (try raise (print n) with e -> e + 1 end) in f 0", "let rec f n = try 1 + f (print n + 1) with e -> e end in f 0", "let rec f n = if n = 0 then raise 0 else try print n + f (n - 1) with e -> raise (print e + 1) end in f 40", "let rec f n = if n = 0 then 1 / 0 else print n + f (n - 1) in try f 60 with e -> print e end", "let rec f n = match (n, print n) with (5, _) -> raise 5 | (x, y) -> try f (x + 1) + f (y + 2) with e -> raise (print e) end end in f 0",
		"let rec f n = callcc (fn k -> f (print n + 1)) in f 0", "let rec f n = f (callcc (fn k -> 1 + throw k (print n + 1))) in f 0", "let rec f n = 1 + callcc (fn k -> throw k (f (print n + 1))) in f 0", "let rec m k = fn n -> throw k (m k) in let f = callcc (fn k -> m k) in f (print 1)", "let rec m k = fn n -> if n = 0 then raise 77 else throw k (fn x -> m k (print (n - 1))) in try (callcc (fn k -> m k)) 50 with e -> e end", "let f = callcc (fn k -> let rec m u = throw k m in m) in let x = print read in if x = 0 then 99 else f 0",
		"let j = callcc (fn k -> let rec d n = if n = 0 then callcc (fn j -> throw k j) else 1 + d (print n-1) in try raise (d 50) with e -> raise (print e) end) in try throw j 5 with e -> e end", "let rec s j = fn n -> if n = 0 then throw j (print 0) else 1 + s j (n - 1) in let rec r n = if n = 0 then 0 else r (print (callcc (fn k -> s k 20)) + n - 1) in r 30",
	} {
		code, isProgram := read(text)
		if !isProgram {
			t.Fatalf("%q is no program", text)
		}
		input := []int{7, -7, 0}
		s := compare(t, text, code, input, 5000)
		inSlices(t, rand.New(rand.NewSource(4)), text, code, input, s)
		bounds(t, text, code, input)
	}
}

// bounds holds a run against P9, whatever a jump may be.
func bounds(t *testing.T, text string, code *Code, input []int) {
	t.Helper()
	const jumps = 60
	each := 4*parts(code) + 8
	wanted := trace(code, input, (jumps+1)*each)
	m := New(code, input)
	for n := 0; n <= jumps; n++ {
		s := m.State()
		least, most := wanted[min(n, len(wanted)-1)], wanted[min((n+1)*each, len(wanted)-1)]
		if len(s.Prints) < len(least.Prints) || len(s.Prints) > len(most.Prints) || !slices.Equal(s.Prints, most.Prints[:len(s.Prints)]) {
			t.Fatalf("%q behind %d jumps: %v, at least %v, at most %v", text, n, s.Prints, least.Prints, most.Prints)
		}
		if s.Status == api.Running && least.Status != api.Running {
			t.Fatalf("%q behind %d jumps: %+v, want %+v", text, n, s, least)
		}
		if s.Status != api.Running && (s.Status != most.Status || s.Value != most.Value || len(s.Prints) != len(most.Prints)) {
			t.Fatalf("%q behind %d jumps: %+v, want %+v", text, n, s, most)
		}
		m.Go(1)
	}
}
