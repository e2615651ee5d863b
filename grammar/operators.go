package grammar

import (
	"resume/tree"
	"resume/words"
)

func (r *reader) cmp() int {
	left := r.cons()
	kind := comparison(r.peek().Kind)
	if kind == tree.None {
		return left
	}
	r.step()
	right := r.cons()
	return r.addExp(tree.Exp{Kind: kind, First: left, Second: right})
}

func comparison(kind words.Kind) tree.Kind {
	switch kind {
	case words.Equal:
		return tree.Equal
	case words.Less:
		return tree.Less
	}
	return tree.None
}

func (r *reader) cons() int {
	first := r.sum()
	if !r.take(words.Cons) {
		return first
	}
	rest := r.cons()
	return r.addExp(tree.Exp{Kind: tree.Cons, First: first, Second: rest})
}

func (r *reader) sum() int {
	left := r.prod()
	kind := addition(r.peek().Kind)
	for kind != tree.None {
		r.step()
		right := r.prod()
		left = r.addExp(tree.Exp{Kind: kind, First: left, Second: right})
		kind = addition(r.peek().Kind)
	}
	return left
}

func addition(kind words.Kind) tree.Kind {
	switch kind {
	case words.Plus:
		return tree.Add
	case words.Minus:
		return tree.Subtract
	}
	return tree.None
}

func (r *reader) prod() int {
	left := r.app()
	kind := multiplication(r.peek().Kind)
	for kind != tree.None {
		r.step()
		right := r.app()
		left = r.addExp(tree.Exp{Kind: kind, First: left, Second: right})
		kind = multiplication(r.peek().Kind)
	}
	return left
}

func multiplication(kind words.Kind) tree.Kind {
	switch kind {
	case words.Times:
		return tree.Multiply
	case words.Over:
		return tree.Divide
	}
	return tree.None
}

func (r *reader) app() int {
	first := r.peek().Kind
	if first == words.Throw {
		return r.throw()
	}
	kind := prefix(first)
	if kind != tree.None {
		r.step()
		part := r.atom()
		return r.addExp(tree.Exp{Kind: kind, First: part})
	}
	return r.call()
}

func prefix(kind words.Kind) tree.Kind {
	switch kind {
	case words.Raise:
		return tree.Raise
	case words.Callcc:
		return tree.Callcc
	case words.Print:
		return tree.Print
	}
	return tree.None
}

func (r *reader) throw() int {
	r.want(words.Throw)
	cont := r.atom()
	value := r.atom()
	return r.addExp(tree.Exp{Kind: tree.Throw, First: cont, Second: value})
}

func (r *reader) call() int {
	left := r.atom()
	for beginsAtom(r.peek().Kind) {
		right := r.atom()
		left = r.addExp(tree.Exp{Kind: tree.Call, First: left, Second: right})
	}
	return left
}

func beginsAtom(kind words.Kind) bool {
	return kind == words.Open || oneWordAtom(kind) != tree.None
}

func oneWordAtom(kind words.Kind) tree.Kind {
	switch kind {
	case words.Name:
		return tree.Name
	case words.Read:
		return tree.Read
	}
	return constant(kind)
}

func (r *reader) atom() int {
	word := r.peek()
	if word.Kind == words.Open {
		return r.brackets()
	}
	kind := oneWordAtom(word.Kind)
	if kind == tree.None {
		r.fail()
	}
	r.step()
	return r.addExp(tree.Exp{Kind: kind, Num: word.Num})
}

func (r *reader) brackets() int {
	r.want(words.Open)
	first := r.exp()
	if r.take(words.Comma) {
		second := r.exp()
		first = r.addExp(tree.Exp{Kind: tree.Pair, First: first, Second: second})
	}
	r.want(words.Close)
	return first
}
