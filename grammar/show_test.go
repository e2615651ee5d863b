package grammar

import (
	"fmt"
	"strings"

	"resume/tree"
)

var heads = map[tree.Kind]string{
	tree.Pair: ",", tree.Cons: "::", tree.Equal: "=", tree.Less: "<", tree.Add: "+", tree.Subtract: "-",
	tree.Multiply: "*", tree.Divide: "/", tree.Raise: "raise", tree.Callcc: "callcc", tree.Print: "print",
	tree.Throw: "throw", tree.Call: "@", tree.If: "if",
}

// showExp writes an expression with all its brackets, names as $0, $1, ..
func showExp(t tree.Tree, at int) string {
	e := t.Exps[at]
	name := func(binder int) string { return fmt.Sprintf("$%d", t.Binders[binder]) }
	part := func(at int) string { return showExp(t, at) }
	switch e.Kind {
	case tree.Number:
		return fmt.Sprint(e.Num)
	case tree.True:
		return "true"
	case tree.False:
		return "false"
	case tree.Name:
		return fmt.Sprintf("$%d", e.Num)
	case tree.Empty:
		return "[]"
	case tree.Read:
		return "read"
	case tree.Let:
		return list("let", name(e.Binder), part(e.First), part(e.Second))
	case tree.LetRec:
		parts := []string{"rec"}
		for _, f := range e.Funs {
			parts = append(parts, list(name(f.Binder), name(f.Param), part(f.Body)))
		}
		return list(append(parts, part(e.First))...)
	case tree.Fn:
		return list("fn", name(e.Binder), part(e.First))
	case tree.Match:
		parts := []string{"match", part(e.First)}
		for _, a := range e.Arms {
			parts = append(parts, list(showPat(t, a.Pat), part(a.Body)))
		}
		return list(parts...)
	case tree.Try:
		return list("try", part(e.First), name(e.Binder), part(e.Second))
	case tree.If:
		return list("if", part(e.First), part(e.Second), part(e.Third))
	case tree.Raise, tree.Callcc, tree.Print:
		return list(heads[e.Kind], part(e.First))
	}
	return list(heads[e.Kind], part(e.First), part(e.Second))
}

func showPat(t tree.Tree, at int) string {
	p := t.Pats[at]
	switch p.Kind {
	case tree.Number:
		return fmt.Sprint(p.Num)
	case tree.True:
		return "true"
	case tree.False:
		return "false"
	case tree.Name:
		return fmt.Sprintf("$%d", t.Binders[p.Binder])
	case tree.Any:
		return "_"
	case tree.Empty:
		return "[]"
	}
	return list(heads[p.Kind], showPat(t, p.First), showPat(t, p.Second))
}

func list(parts ...string) string { return "(" + strings.Join(parts, " ") + ")" }
