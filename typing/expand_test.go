package typing

import (
	"fmt"
	"math/rand"
	"strings"
	"testing"

	"resume/tree"
)

// A second way to find types, which knows of no open types: a value that a let
// binds is typed anew at each use, as are the functions of a let rec.

type ty struct {
	sign  string // "": unknown
	parts []*ty
	is    *ty // of an unknown one: what it was made the same as
}

type bound struct {
	name  int
	one   *ty // what is of one type
	value int // else: a value, and what is in sight of it
	fun   int // or: a function of the let rec value
	isFun bool
	sight *bound
	outer *bound
}

type expander struct {
	tree  tree.Tree
	wrong bool
	steps int
}

func known(sign string, parts ...*ty) *ty { return &ty{sign: sign, parts: parts} }

func (y *ty) end() *ty {
	for y.is != nil {
		y = y.is
	}
	return y
}

func (y *ty) has(u *ty) bool {
	y = y.end()
	if y == u {
		return true
	}
	for _, p := range y.parts {
		if p.has(u) {
			return true
		}
	}
	return false
}

func (x *expander) same(a, b *ty) {
	a, b = a.end(), b.end()
	if a == b || x.wrong {
		return
	}
	if a.sign == "" {
		x.wrong = b.has(a)
		a.is = b
		return
	}
	if b.sign == "" {
		x.same(b, a)
		return
	}
	if a.sign != b.sign {
		x.wrong = true
		return
	}
	for i := range a.parts {
		x.same(a.parts[i], b.parts[i])
	}
}

func (x *expander) exp(at int, in *bound) *ty {
	x.steps++
	e := x.tree.Exps[at]
	if x.wrong || x.steps > 3000 {
		x.wrong = true
		return &ty{}
	}
	integer, truth := known("int"), known("bool")
	part := func(at int) *ty { return x.exp(at, in) }
	switch e.Kind {
	case tree.Number, tree.Read:
		return integer
	case tree.True, tree.False:
		return truth
	case tree.Empty:
		return known("list", &ty{})
	case tree.Name:
		return x.name(e.Num, in)
	case tree.Pair:
		return known("*", part(e.First), part(e.Second))
	case tree.Cons:
		y := known("list", part(e.First))
		x.same(y, part(e.Second))
		return y
	case tree.Equal, tree.Less:
		x.same(part(e.First), integer)
		x.same(part(e.Second), integer)
		return truth
	case tree.Add, tree.Subtract, tree.Multiply, tree.Divide:
		x.same(part(e.First), integer)
		x.same(part(e.Second), integer)
		return integer
	case tree.Print:
		x.same(part(e.First), integer)
		return integer
	case tree.Raise:
		x.same(part(e.First), integer)
		return &ty{}
	case tree.If:
		x.same(part(e.First), truth)
		y := part(e.Second)
		x.same(y, part(e.Third))
		return y
	case tree.Call:
		y := &ty{}
		x.same(part(e.First), known("->", part(e.Second), y))
		return y
	case tree.Callcc:
		y := &ty{}
		x.same(part(e.First), known("->", known("cont", y), y))
		return y
	case tree.Throw:
		x.same(part(e.First), known("cont", part(e.Second)))
		return &ty{}
	}
	return x.binding(e, at, in)
}

func (x *expander) binding(e tree.Exp, at int, in *bound) *ty {
	named := func(binder int) int { return x.tree.Binders[binder] }
	switch e.Kind {
	case tree.Fn:
		y := &ty{}
		return known("->", y, x.exp(e.First, &bound{name: named(e.Binder), one: y, outer: in}))
	case tree.Try:
		y := x.exp(e.First, in)
		x.same(y, x.exp(e.Second, &bound{name: named(e.Binder), one: known("int"), outer: in}))
		return y
	case tree.Let:
		y := x.exp(e.First, in)
		if x.isValue(e.First) {
			y = nil
		}
		return x.exp(e.Second, &bound{name: named(e.Binder), one: y, value: e.First, sight: in, outer: in})
	case tree.LetRec:
		x.group(e, in)
		inner := in
		for i, f := range e.Funs {
			inner = &bound{name: named(f.Binder), value: at, fun: i, isFun: true, sight: in, outer: inner}
		}
		return x.exp(e.First, inner)
	case tree.Match:
		matched, y := x.exp(e.First, in), &ty{}
		for _, a := range e.Arms {
			p, inner := x.pat(a.Pat, in)
			x.same(matched, p)
			x.same(y, x.exp(a.Body, inner))
		}
		return y
	}
	panic("no such expression")
}

func (x *expander) group(e tree.Exp, in *bound) []*ty {
	inner := in
	var funs []*ty
	for _, f := range e.Funs {
		y := known("->", &ty{}, &ty{})
		funs = append(funs, y)
		inner = &bound{name: x.tree.Binders[f.Binder], one: y, outer: inner}
	}
	for i, f := range e.Funs {
		x.same(funs[i].parts[1], x.exp(f.Body, &bound{name: x.tree.Binders[f.Param], one: funs[i].parts[0], outer: inner}))
	}
	return funs
}

func (x *expander) isValue(at int) bool {
	e := x.tree.Exps[at]
	isPair := e.Kind == tree.Pair || e.Kind == tree.Cons
	return isPair && x.isValue(e.First) && x.isValue(e.Second) ||
		strings.Contains(fmt.Sprintf(" %d %d %d %d %d %d ", tree.Name, tree.Number, tree.True, tree.False, tree.Empty, tree.Fn), fmt.Sprintf(" %d ", e.Kind))
}

func (x *expander) name(name int, in *bound) *ty {
	for in.name != name {
		in = in.outer
	}
	if in.one != nil {
		return in.one
	}
	if in.isFun {
		return x.group(x.tree.Exps[in.value], in.sight)[in.fun]
	}
	return x.exp(in.value, in.sight)
}

func (x *expander) pat(at int, in *bound) (*ty, *bound) {
	p := x.tree.Pats[at]
	y := &ty{}
	switch p.Kind {
	case tree.Number:
		y = known("int")
	case tree.True, tree.False:
		y = known("bool")
	case tree.Empty:
		y = known("list", y)
	case tree.Name:
		in = &bound{name: x.tree.Binders[p.Binder], one: y, outer: in}
	case tree.Pair, tree.Cons:
		first, inner := x.pat(p.First, in)
		second, inner := x.pat(p.Second, inner)
		if p.Kind == tree.Pair {
			return known("*", first, second), inner
		}
		x.same(second, known("list", first))
		return second, inner
	}
	return y, in
}

func (y *ty) text(unknowns *[]*ty) string {
	y = y.end()
	switch y.sign {
	case "":
		for i, u := range *unknowns {
			if u == y {
				return "'" + string(rune('a'+i%26))
			}
		}
		*unknowns = append(*unknowns, y)
		return y.text(unknowns)
	case "list", "cont":
		return y.parts[0].text(unknowns) + " " + y.sign
	case "*", "->":
		first := y.parts[0].text(unknowns)
		return "(" + first + " " + y.sign + " " + y.parts[1].text(unknowns) + ")"
	}
	return y.sign
}

// expand answers the type by the second way, and whether that took long.
func expand(t *testing.T, text string) (string, bool) {
	t.Helper()
	x := expander{tree: read(t, text)}
	y := x.exp(x.tree.Root, nil)
	if x.wrong {
		return "none", x.steps > 3000
	}
	return y.text(&[]*ty{}), false
}

// maker makes texts. It means them to have types, but errs at times.
type maker struct {
	random *rand.Rand
	names  []meant // in sight
	count  int
}

// meant: a name, and the type that it has if it is not open.
type meant struct {
	name string
	typ  *ty
}

func (m *maker) typ(depth int) *ty {
	switch n := m.random.Intn(10); {
	case depth == 0 || n < 4:
		return known([]string{"int", "int", "bool"}[m.random.Intn(3)])
	case n < 6:
		return known("list", m.typ(depth-1))
	case n < 7:
		return known("cont", m.typ(depth-1))
	case n < 8:
		return known("*", m.typ(depth-1), m.typ(depth-1))
	}
	return known("->", m.typ(depth-1), m.typ(depth-1))
}

func (m *maker) fresh() string {
	m.count++
	return fmt.Sprint("v", m.count)
}

func (m *maker) within(name string, typ *ty, depth int, want *ty) string {
	m.names = append(m.names, meant{name, typ})
	text := m.exp(depth, want)
	m.names = m.names[:len(m.names)-1]
	return text
}

// fitting answers a name that may be of a type, if there is one.
func (m *maker) fitting(want *ty) string {
	for tries := 0; tries < 8 && len(m.names) > 0; tries++ {
		n := m.names[m.random.Intn(len(m.names))]
		if n.typ == nil || n.typ.text(&[]*ty{}) == want.text(&[]*ty{}) {
			return n.name
		}
	}
	return ""
}

// exp answers an expression that is meant to be of a type.
func (m *maker) exp(depth int, want *ty) string {
	if m.random.Intn(60) == 0 {
		want = m.typ(1)
	}
	name := m.fitting(want)
	if name != "" && m.random.Intn(3) > 0 {
		return name
	}
	if depth > 0 && m.random.Intn(2) == 0 {
		return m.form(depth-1, want)
	}
	switch want.sign {
	case "int":
		return []string{"1", "read", "(1 + 2)"}[m.random.Intn(3)]
	case "bool":
		return []string{"true", "(1 < 2)"}[m.random.Intn(2)]
	case "list":
		if depth == 0 {
			return "[]"
		}
		return "(" + m.exp(depth-1, want.parts[0]) + " :: " + m.exp(depth-1, want) + ")"
	case "*":
		return "(" + m.exp(depth, want.parts[0]) + ", " + m.exp(depth, want.parts[1]) + ")"
	case "->":
		x := m.fresh()
		return "(fn " + x + " -> " + m.within(x, want.parts[0], depth, want.parts[1]) + ")"
	}
	return "(raise 1)"
}

func (m *maker) form(depth int, want *ty) string {
	x, typ := m.fresh(), m.typ(1)
	switch m.random.Intn(9) {
	case 0:
		return "(if " + m.exp(depth, known("bool")) + " then " + m.exp(depth, want) + " else " + m.exp(depth, want) + ")"
	case 1:
		return "(" + m.exp(depth, known("->", typ, want)) + " " + m.exp(depth, typ) + ")"
	case 2:
		return "(let " + x + " = " + m.exp(depth, typ) + " in " + m.within(x, typ, depth, want) + ")"
	case 3:
		return "(let " + x + " = " + m.value(2) + " in " + m.within(x, nil, depth, want) + ")"
	case 4:
		y := m.fresh()
		body := m.within(y, typ, depth, typ)
		if m.random.Intn(2) == 0 {
			return "(let rec " + x + " " + y + " = " + y + " in " + m.within(x, nil, depth, want) + ")"
		}
		return "(let rec " + x + " " + y + " = " + body + " in " + m.within(x, known("->", typ, typ), depth, want) + ")"
	case 5:
		return "(match " + m.exp(depth, known("list", typ)) + " with [] -> " + m.exp(depth, want) + " | " + x + " :: _ -> " + m.within(x, typ, depth, want) + " end)"
	case 6:
		return "(match (" + m.exp(depth, typ) + ", " + m.exp(depth, typ) + ") with (" + x + ", _) -> " + m.within(x, typ, depth, want) + " end)"
	case 7:
		return "(try " + m.exp(depth, want) + " with " + x + " -> " + m.within(x, known("int"), depth, want) + " end)"
	}
	if m.random.Intn(2) == 0 {
		return "(throw " + m.exp(depth, known("cont", typ)) + " " + m.exp(depth, typ) + ")"
	}
	return "(callcc (fn " + x + " -> " + m.within(x, known("cont", want), depth, want) + "))"
}

// value answers a value of which something may be open.
func (m *maker) value(depth int) string {
	x := m.fresh()
	if depth == 0 || len(m.names) > 0 && m.random.Intn(3) == 0 {
		if len(m.names) == 0 {
			return "[]"
		}
		return m.names[m.random.Intn(len(m.names))].name
	}
	switch m.random.Intn(6) {
	case 0:
		return "[]"
	case 1:
		return "(" + m.value(depth-1) + " :: [])"
	case 2:
		return "(" + m.value(depth-1) + ", " + m.value(depth-1) + ")"
	case 3:
		return "(fn " + x + " -> " + x + ")"
	case 4:
		m.names = append(m.names, meant{x, nil})
		text := "(fn " + x + " -> " + m.value(depth-1) + ")"
		m.names = m.names[:len(m.names)-1]
		return text
	}
	return "(fn " + x + " -> raise 1)"
}

func TestExpanded(t *testing.T) {
	m := maker{random: rand.New(rand.NewSource(5))}
	typed, untyped, long := 0, 0, 0
	for i := 0; i < 60000; i++ {
		m.count = 0
		text := m.exp(4, m.typ(2))
		want, tookLong := expand(t, text)
		got := find(t, text)
		if tookLong {
			long++
			continue
		}
		if got != want && got != ".." {
			t.Fatalf("the type of %q is %s, want %s", text, got, want)
		}
		if got == "none" {
			untyped++
		} else {
			typed++
		}
	}
	if typed < 10000 || untyped < 10000 || long > 2000 {
		t.Errorf("%d texts have a type, %d have none, %d took long", typed, untyped, long)
	}
}
