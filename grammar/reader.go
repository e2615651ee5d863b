// Package grammar reads words as an expression (P3).
package grammar

import (
	"resume/tree"
	"resume/words"
)

// reader stands before the word list[at]. A fault moves it behind the last
// word, where nothing fits: so what is under way ends soon, and need not ask
// after each part whether it was read.
type reader struct {
	list   []words.Word
	at     int
	failed bool
	tree   tree.Tree
}

// Read answers the expression that the words are; false, if they are none.
func Read(list []words.Word) (tree.Tree, bool) {
	r := reader{list: list}
	root := r.exp()
	if r.failed || r.at < len(r.list) {
		return tree.Tree{}, false
	}
	r.tree.Root = root
	return r.tree, true
}

func (r *reader) fail() {
	r.failed = true
	r.at = len(r.list)
}

func (r *reader) peek() words.Word {
	if r.at < len(r.list) {
		return r.list[r.at]
	}
	return words.Word{Kind: words.Nothing}
}

func (r *reader) step() {
	if r.at < len(r.list) {
		r.at++
	}
}

// take goes over a word of this kind, if there is one here.
func (r *reader) take(kind words.Kind) bool {
	if r.peek().Kind != kind {
		return false
	}
	r.step()
	return true
}

// want goes over a word of this kind, which must stand here.
func (r *reader) want(kind words.Kind) {
	if !r.take(kind) {
		r.fail()
	}
}

// binder reads a name that is bound here.
func (r *reader) binder() int {
	name := r.peek()
	r.want(words.Name)
	r.tree.Binders = append(r.tree.Binders, name.Num)
	return len(r.tree.Binders) - 1
}

func (r *reader) addExp(e tree.Exp) int {
	r.tree.Exps = append(r.tree.Exps, e)
	return len(r.tree.Exps) - 1
}

func (r *reader) addPat(p tree.Pat) int {
	r.tree.Pats = append(r.tree.Pats, p)
	return len(r.tree.Pats) - 1
}

// constant tells which constant a word is, in expressions and patterns alike.
func constant(kind words.Kind) tree.Kind {
	switch kind {
	case words.Number:
		return tree.Number
	case words.True:
		return tree.True
	case words.False:
		return tree.False
	case words.Empty:
		return tree.Empty
	}
	return tree.None
}
