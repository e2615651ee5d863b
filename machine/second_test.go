package machine

import (
	"fmt"
	"strings"

	"resume/api"
	"resume/tree"
)

// A second evaluator, by another way: what waits is a Go function, names lie
// in Go maps, and each step answers the next one.

type step func() step

type then func(v any) step

type names map[int]any

type couple struct{ first, second any }

type function func(argument any, k then, t tries) step

// continuation: what waits, with the tries in it.
type continuation struct {
	k     then
	tries tries
}

// tries: the handlers of the tries that wait, the last one last.
type tries []then

type second struct {
	code   *Code
	input  []int
	status int
	value  string
	prints []int
}

func (s *second) end(status int, value string) step {
	s.status, s.value = status, value
	return nil
}

func (s *second) raise(n int, t tries) step {
	if len(t) == 0 {
		return s.end(api.Uncaught, fmt.Sprint(n))
	}
	return t[len(t)-1](n)
}

func with(n names, binder int, v any) names {
	inner := names{binder: v}
	for b, old := range n {
		if b != binder {
			inner[b] = old
		}
	}
	return inner
}

// back: a value comes back, which is a step of its own.
func back(k then, v any) step { return func() step { return k(v) } }

// look: the step in which an expression is looked at.
func (s *second) look(at int, n names, k then, t tries) step {
	return func() step {
		e := s.code.Tree.Exps[at]
		switch e.Kind {
		case tree.Number:
			return back(k, e.Num)
		case tree.True, tree.False:
			return back(k, e.Kind == tree.True)
		case tree.Empty:
			return back(k, []any{})
		case tree.Name:
			return back(k, n[s.code.Means[at]])
		case tree.Fn:
			return back(k, s.function(e.Binder, e.First, func() names { return n }))
		case tree.Read:
			if len(s.input) == 0 {
				return s.end(api.Exhausted, "")
			}
			first := s.input[0]
			s.input = s.input[1:]
			return back(k, first)
		case tree.LetRec:
			inner := n
			for _, f := range e.Funs {
				inner = with(inner, f.Binder, s.function(f.Param, f.Body, func() names { return inner }))
			}
			return s.look(e.First, inner, k, t)
		}
		return s.parts(e, n, k, t)
	}
}

func (s *second) function(param, body int, remembers func() names) function {
	return func(argument any, k then, t tries) step {
		return s.look(body, with(remembers(), param, argument), k, t)
	}
}

func (s *second) parts(e tree.Exp, n names, k then, t tries) step {
	if e.Kind == tree.Try {
		handler := func(v any) step { return s.look(e.Second, with(n, e.Binder, v), k, t) }
		return s.look(e.First, n, func(v any) step { return back(k, v) }, append(t[:len(t):len(t)], handler))
	}
	return s.look(e.First, n, func(v any) step {
		switch e.Kind {
		case tree.Let:
			return s.look(e.Second, with(n, e.Binder, v), k, t)
		case tree.If:
			if v.(bool) {
				return s.look(e.Second, n, k, t)
			}
			return s.look(e.Third, n, k, t)
		case tree.Match:
			for _, arm := range e.Arms {
				if inner := s.fit(arm.Pat, v, n); inner != nil {
					return s.look(arm.Body, inner, k, t)
				}
			}
			return s.raise(-2, t)
		case tree.Raise:
			return s.raise(v.(int), t)
		case tree.Print:
			s.prints = append(s.prints, v.(int))
			return back(k, v)
		case tree.Callcc:
			return v.(function)(continuation{k, t}, k, t)
		}
		return s.look(e.Second, n, func(w any) step { return s.both(e.Kind, v, w, k, t) }, t)
	}, t)
}

func (s *second) both(kind tree.Kind, v, w any, k then, t tries) step {
	switch kind {
	case tree.Call:
		return v.(function)(w, k, t)
	case tree.Throw:
		return back(v.(continuation).k, w)
	case tree.Pair:
		return back(k, couple{v, w})
	case tree.Cons:
		return back(k, append([]any{v}, w.([]any)...))
	case tree.Equal:
		return back(k, v.(int) == w.(int))
	case tree.Less:
		return back(k, v.(int) < w.(int))
	case tree.Divide:
		if w.(int) == 0 {
			return s.raise(-1, t)
		}
		return back(k, turned(v.(int)/w.(int)))
	case tree.Add:
		return back(k, turned(v.(int)+w.(int)))
	case tree.Subtract:
		return back(k, turned(v.(int)-w.(int)))
	}
	return back(k, turned(v.(int)*w.(int)))
}

func turned(n int) int {
	n &= 1<<32 - 1
	if n >= 1<<31 {
		n -= 1 << 32
	}
	return n
}

// fit answers the names with the pattern's; nil, if it does not fit.
func (s *second) fit(at int, v any, n names) names {
	p := s.code.Tree.Pats[at]
	fits := true
	switch p.Kind {
	case tree.Number:
		fits = v == any(p.Num)
	case tree.True, tree.False:
		fits = v == any(p.Kind == tree.True)
	case tree.Empty:
		fits = len(v.([]any)) == 0
	case tree.Name:
		return with(n, p.Binder, v)
	case tree.Pair:
		if inner := s.fit(p.First, v.(couple).first, n); inner != nil {
			return s.fit(p.Second, v.(couple).second, inner)
		}
		return nil
	case tree.Cons:
		list := v.([]any)
		if len(list) == 0 {
			return nil
		}
		if inner := s.fit(p.First, list[0], n); inner != nil {
			return s.fit(p.Second, list[1:], inner)
		}
		return nil
	}
	if fits {
		return with(n, -1, nil)
	}
	return nil
}

// told answers a value's text, and of how many parts it is.
func told(v any) (string, int) {
	switch v := v.(type) {
	case int, bool:
		return fmt.Sprint(v), 1
	case couple:
		first, n := told(v.first)
		second, m := told(v.second)
		return "(" + first + "," + second + ")", n + m + 1
	case []any:
		count, texts := 1, []string{}
		for _, element := range v {
			text, n := told(element)
			count += n
			texts = append(texts, text)
		}
		return "[" + strings.Join(texts, ",") + "]", count
	case continuation:
		return "cont", 1
	}
	return "fn", 1
}

// trace: how a run stands behind each step, from none on.
func trace(code *Code, input []int, steps int) []api.State {
	s := second{code: code, input: input}
	next := s.look(code.Tree.Root, names{}, func(v any) step {
		text, parts := told(v)
		if parts > 1023 {
			text = ".."
		}
		return s.end(api.Done, text)
	}, nil)
	list := []api.State{{}}
	for i := 0; i < steps && next != nil; i++ {
		next = next()
		list = append(list, api.State{Status: s.status, Value: s.value, Prints: s.prints})
	}
	return list
}
