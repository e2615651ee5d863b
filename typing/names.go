package typing

import (
	"resume/tree"
	"resume/types"
)

// within answers the type of a body in which a name of one type is in sight.
func (f *finder) within(binder int, typ types.Type, body int) types.Type {
	outer := len(f.fixed)
	f.fix(binder, typ)
	result := f.exp(body)
	f.fixed = f.fixed[:outer]
	return result
}

func (f *finder) fix(binder int, typ types.Type) {
	f.names[binder] = typ
	f.fixed = append(f.fixed, typ)
}

// open lets a name be of another type at each use, as far as the names around
// that are of one type leave that open.
func (f *finder) open(binder int) {
	if !f.store.Open(f.names[binder], f.fixed) {
		f.wrong = true
	}
}

func (f *finder) fn(e tree.Exp) types.Type {
	from := f.store.Unknown()
	to := f.within(e.Binder, from, e.First)
	return f.store.Function(from, to)
}

func (f *finder) try(e tree.Exp) types.Type {
	result := f.exp(e.First)
	caught := f.within(e.Binder, types.Int, e.Second)
	f.same(result, caught)
	return result
}

func (f *finder) let(e tree.Exp) types.Type {
	typ := f.exp(e.First)
	if !f.isValue(e.First) {
		return f.within(e.Binder, typ, e.Second)
	}
	f.names[e.Binder] = typ
	f.open(e.Binder)
	return f.exp(e.Second)
}

func (f *finder) isValue(at int) bool {
	e := f.tree.Exps[at]
	switch e.Kind {
	case tree.Name, tree.Number, tree.True, tree.False, tree.Empty, tree.Fn:
		return true
	case tree.Pair, tree.Cons:
		if !f.isValue(e.First) {
			return false
		}
		return f.isValue(e.Second)
	}
	return false
}

func (f *finder) letRec(e tree.Exp) types.Type {
	outer := len(f.fixed)
	var results []types.Type
	for i := 0; i < len(e.Funs); i++ {
		from := f.store.Unknown()
		to := f.store.Unknown()
		typ := f.store.Function(from, to)
		f.fix(e.Funs[i].Binder, typ)
		f.names[e.Funs[i].Param] = from // fixed by its function's type
		results = append(results, to)
	}
	for i := 0; i < len(e.Funs); i++ {
		f.want(e.Funs[i].Body, results[i])
	}
	f.fixed = f.fixed[:outer]
	for i := 0; i < len(e.Funs); i++ {
		f.open(e.Funs[i].Binder)
	}
	return f.exp(e.First)
}

func (f *finder) match(e tree.Exp) types.Type {
	matched := f.exp(e.First)
	result := f.store.Unknown()
	outer := len(f.fixed)
	for i := 0; i < len(e.Arms); i++ {
		fits := f.pat(e.Arms[i].Pat)
		f.same(matched, fits)
		f.want(e.Arms[i].Body, result)
		f.fixed = f.fixed[:outer]
	}
	return result
}

func (f *finder) pat(at int) types.Type {
	p := f.tree.Pats[at]
	switch p.Kind {
	case tree.Number:
		return types.Int
	case tree.True, tree.False:
		return types.Bool
	case tree.Empty:
		return f.empty()
	case tree.Pair:
		first := f.pat(p.First)
		second := f.pat(p.Second)
		return f.store.Pair(first, second)
	case tree.Cons:
		element := f.pat(p.First)
		whole := f.store.List(element)
		rest := f.pat(p.Second)
		f.same(rest, whole)
		return whole
	}
	anything := f.store.Unknown()
	if p.Kind == tree.Name {
		f.fix(p.Binder, anything)
	}
	return anything
}
