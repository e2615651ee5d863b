package grammar

import (
	"resume/tree"
	"resume/words"
)

func (r *reader) exp() int {
	switch r.peek().Kind {
	case words.Let:
		return r.let()
	case words.Fn:
		return r.fn()
	case words.If:
		return r.choice()
	case words.Match:
		return r.match()
	case words.Try:
		return r.try()
	}
	return r.cmp()
}

func (r *reader) let() int {
	r.want(words.Let)
	if r.take(words.Rec) {
		return r.letRec()
	}
	binder := r.binder()
	r.want(words.Equal)
	bound := r.exp()
	r.want(words.In)
	body := r.exp()
	return r.addExp(tree.Exp{Kind: tree.Let, Binder: binder, First: bound, Second: body})
}

func (r *reader) letRec() int {
	var funs []tree.Fun
	more := true
	for more {
		fun := r.fun()
		funs = append(funs, fun)
		more = r.take(words.And)
	}
	r.want(words.In)
	body := r.exp()
	return r.addExp(tree.Exp{Kind: tree.LetRec, First: body, Funs: funs})
}

func (r *reader) fun() tree.Fun {
	binder := r.binder()
	param := r.binder()
	r.want(words.Equal)
	body := r.exp()
	return tree.Fun{Binder: binder, Param: param, Body: body}
}

func (r *reader) fn() int {
	r.want(words.Fn)
	binder := r.binder()
	r.want(words.Arrow)
	body := r.exp()
	return r.addExp(tree.Exp{Kind: tree.Fn, Binder: binder, First: body})
}

func (r *reader) choice() int {
	r.want(words.If)
	condition := r.exp()
	r.want(words.Then)
	yes := r.exp()
	r.want(words.Else)
	no := r.exp()
	return r.addExp(tree.Exp{Kind: tree.If, First: condition, Second: yes, Third: no})
}

func (r *reader) match() int {
	r.want(words.Match)
	matched := r.exp()
	r.want(words.With)
	var arms []tree.Arm
	more := true
	for more {
		arm := r.arm()
		arms = append(arms, arm)
		more = r.take(words.Bar)
	}
	r.want(words.End)
	return r.addExp(tree.Exp{Kind: tree.Match, First: matched, Arms: arms})
}

func (r *reader) arm() tree.Arm {
	pat := r.pat()
	r.want(words.Arrow)
	body := r.exp()
	return tree.Arm{Pat: pat, Body: body}
}

func (r *reader) try() int {
	r.want(words.Try)
	tried := r.exp()
	r.want(words.With)
	binder := r.binder()
	r.want(words.Arrow)
	body := r.exp()
	r.want(words.End)
	return r.addExp(tree.Exp{Kind: tree.Try, Binder: binder, First: tried, Second: body})
}
