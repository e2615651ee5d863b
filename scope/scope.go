// Package scope finds what the names of a program mean (P4).
package scope

import "resume/tree"

// Nobody stands in the answer of Find where no name is used.
const Nobody = -1

type finder struct {
	tree  tree.Tree
	sight []int // the binders in sight, the innermost last
	means []int
	wrong bool
}

// Find answers for each expression that is a name its binder, and Nobody for
// each other one; false, if a name is not in sight or wrongly bound twice.
func Find(t tree.Tree) ([]int, bool) {
	f := finder{tree: t}
	for i := 0; i < len(t.Exps); i++ {
		f.means = append(f.means, Nobody)
	}
	f.exp(t.Root)
	if f.wrong {
		return nil, false
	}
	return f.means, true
}

func (f *finder) exp(at int) {
	e := f.tree.Exps[at]
	switch e.Kind {
	case tree.Name:
		binder := f.innermost(e.Num)
		f.means[at] = binder
	case tree.Raise, tree.Callcc, tree.Print:
		f.exp(e.First)
	case tree.Pair, tree.Cons, tree.Equal, tree.Less, tree.Add, tree.Subtract,
		tree.Multiply, tree.Divide, tree.Throw, tree.Call:
		f.exp(e.First)
		f.exp(e.Second)
	case tree.If:
		f.exp(e.First)
		f.exp(e.Second)
		f.exp(e.Third)
	case tree.Fn:
		f.within(e.Binder, e.First)
	case tree.Let, tree.Try:
		f.exp(e.First)
		f.within(e.Binder, e.Second)
	case tree.LetRec:
		f.letRec(e)
	case tree.Match:
		f.match(e)
	}
}

func (f *finder) innermost(name int) int {
	for i := len(f.sight) - 1; i >= 0; i-- {
		if f.tree.Binders[f.sight[i]] == name {
			return f.sight[i]
		}
	}
	f.wrong = true
	return Nobody
}

func (f *finder) within(binder, body int) {
	outer := len(f.sight)
	f.sight = append(f.sight, binder)
	f.exp(body)
	f.sight = f.sight[:outer]
}

func (f *finder) letRec(e tree.Exp) {
	outer := len(f.sight)
	for i := 0; i < len(e.Funs); i++ {
		f.bindOnce(outer, e.Funs[i].Binder)
	}
	for i := 0; i < len(e.Funs); i++ {
		f.within(e.Funs[i].Param, e.Funs[i].Body)
	}
	f.exp(e.First)
	f.sight = f.sight[:outer]
}

func (f *finder) match(e tree.Exp) {
	f.exp(e.First)
	outer := len(f.sight)
	for i := 0; i < len(e.Arms); i++ {
		f.pat(outer, e.Arms[i].Pat)
		f.exp(e.Arms[i].Body)
		f.sight = f.sight[:outer]
	}
}

func (f *finder) pat(outer, at int) {
	p := f.tree.Pats[at]
	switch p.Kind {
	case tree.Name:
		f.bindOnce(outer, p.Binder)
	case tree.Pair, tree.Cons:
		f.pat(outer, p.First)
		f.pat(outer, p.Second)
	}
}

// bindOnce brings a binder in sight, beside those of its pattern or its let
// rec that came in sight behind the first outer ones.
func (f *finder) bindOnce(outer, binder int) {
	for i := outer; i < len(f.sight); i++ {
		if f.tree.Binders[f.sight[i]] == f.tree.Binders[binder] {
			f.wrong = true
		}
	}
	f.sight = append(f.sight, binder)
}
