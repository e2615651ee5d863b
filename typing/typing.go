// Package typing finds the type of a program (P5).
package typing

import (
	"resume/tree"
	"resume/types"
)

type finder struct {
	tree  tree.Tree
	means []int // for each expression that is a name, its binder
	store types.Store
	names []types.Type // for each binder, the type of its name
	fixed []types.Type // the types of the names around that are of one type
	wrong bool
}

// Find tells the type of a program, as a text; false, if it has none. It wants
// what scope.Find answered for the program.
func Find(t tree.Tree, means []int) (string, bool) {
	f := finder{tree: t, means: means, store: types.New()}
	for i := 0; i < len(t.Binders); i++ {
		f.names = append(f.names, types.Int)
	}
	whole := f.exp(t.Root)
	if f.wrong || !f.store.Sound() {
		return "", false
	}
	return f.store.Text(whole), true
}

func (f *finder) exp(at int) types.Type {
	e := f.tree.Exps[at]
	switch e.Kind {
	case tree.Number, tree.Read:
		return types.Int
	case tree.True, tree.False:
		return types.Bool
	case tree.Name:
		return f.store.Instance(f.names[f.means[at]])
	case tree.Empty:
		return f.empty()
	case tree.Pair:
		return f.pair(e)
	case tree.Cons:
		return f.cons(e)
	case tree.Equal, tree.Less:
		f.want(e.First, types.Int)
		f.want(e.Second, types.Int)
		return types.Bool
	case tree.Add, tree.Subtract, tree.Multiply, tree.Divide:
		f.want(e.First, types.Int)
		f.want(e.Second, types.Int)
		return types.Int
	case tree.Print:
		f.want(e.First, types.Int)
		return types.Int
	case tree.Raise:
		f.want(e.First, types.Int)
		return f.store.Unknown()
	}
	return f.form(e)
}

func (f *finder) form(e tree.Exp) types.Type {
	switch e.Kind {
	case tree.Let:
		return f.let(e)
	case tree.LetRec:
		return f.letRec(e)
	case tree.Fn:
		return f.fn(e)
	case tree.If:
		return f.choice(e)
	case tree.Match:
		return f.match(e)
	case tree.Try:
		return f.try(e)
	case tree.Callcc:
		return f.callcc(e)
	case tree.Throw:
		return f.throw(e)
	}
	return f.call(e)
}

func (f *finder) same(left, right types.Type) {
	if !f.store.Same(left, right) {
		f.wrong = true
	}
}

// want finds an expression's type and makes it the same as typ.
func (f *finder) want(at int, typ types.Type) {
	found := f.exp(at)
	f.same(found, typ)
}

func (f *finder) empty() types.Type {
	element := f.store.Unknown()
	return f.store.List(element)
}

func (f *finder) pair(e tree.Exp) types.Type {
	first := f.exp(e.First)
	second := f.exp(e.Second)
	return f.store.Pair(first, second)
}

func (f *finder) cons(e tree.Exp) types.Type {
	element := f.exp(e.First)
	whole := f.store.List(element)
	f.want(e.Second, whole)
	return whole
}

func (f *finder) choice(e tree.Exp) types.Type {
	f.want(e.First, types.Bool)
	result := f.exp(e.Second)
	f.want(e.Third, result)
	return result
}

func (f *finder) call(e tree.Exp) types.Type {
	called := f.exp(e.First)
	argument := f.exp(e.Second)
	result := f.store.Unknown()
	wanted := f.store.Function(argument, result)
	f.same(called, wanted)
	return result
}

func (f *finder) callcc(e tree.Exp) types.Type {
	result := f.store.Unknown()
	taken := f.store.Cont(result)
	wanted := f.store.Function(taken, result)
	f.want(e.First, wanted)
	return result
}

func (f *finder) throw(e tree.Exp) types.Type {
	cont := f.exp(e.First)
	value := f.exp(e.Second)
	wanted := f.store.Cont(value)
	f.same(cont, wanted)
	return f.store.Unknown()
}
