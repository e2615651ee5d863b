package grammar

import (
	"resume/tree"
	"resume/words"
)

func (r *reader) pat() int {
	first := r.simple()
	if !r.take(words.Cons) {
		return first
	}
	rest := r.pat()
	return r.addPat(tree.Pat{Kind: tree.Cons, First: first, Second: rest})
}

func (r *reader) simple() int {
	word := r.peek()
	switch word.Kind {
	case words.Open:
		return r.patBrackets()
	case words.Name:
		binder := r.binder()
		return r.addPat(tree.Pat{Kind: tree.Name, Binder: binder})
	case words.Any:
		r.step()
		return r.addPat(tree.Pat{Kind: tree.Any})
	}
	kind := constant(word.Kind)
	if kind == tree.None {
		r.fail()
	}
	r.step()
	return r.addPat(tree.Pat{Kind: kind, Num: word.Num})
}

func (r *reader) patBrackets() int {
	r.want(words.Open)
	first := r.pat()
	if r.take(words.Comma) {
		second := r.pat()
		first = r.addPat(tree.Pat{Kind: tree.Pair, First: first, Second: second})
	}
	r.want(words.Close)
	return first
}
