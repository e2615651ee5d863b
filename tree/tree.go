// Package tree has the parts of a program that was read: expressions,
// functions, patterns. They lie in lists and name each other by their places
// there; a part stands just behind the parts that it is made of, which lie
// together in the order of the text.
package tree

// Kind tells which expression or pattern a part is.
type Kind int

const (
	None Kind = iota // no expression or pattern
	Number
	True
	False
	Name // an expression: a name that is used; a pattern: one that is bound
	Empty
	Any // of patterns alone
	Pair
	Cons
	Read // from here on of expressions alone
	Let
	LetRec
	Fn
	If
	Match
	Try
	Equal
	Less
	Add
	Subtract
	Multiply
	Divide
	Raise
	Callcc
	Print
	Throw
	Call
)

// Tree is a program.
type Tree struct {
	Exps []Exp
	Pats []Pat
	Root int // the expression that is the whole

	// Binders has an element for each place that binds a name, in the order of
	// the text: which name it binds (as package words counts them).
	Binders []int
}

// Exp is an expression. Its parts are expressions, in the order of the text;
// how many there are, its kind tells.
type Exp struct {
	Kind   Kind
	Num    int // Number: its value; Name: which name it is
	Binder int // Let, Fn, Try
	First  int // LetRec: what stands behind in
	Second int
	Third  int
	Funs   []Fun // LetRec
	Arms   []Arm // Match
}

// Fun is a function of a let rec.
type Fun struct {
	Binder int
	Param  int // the parameter's binder
	Body   int
}

// Arm is a pattern of a match, and the expression behind its arrow.
type Arm struct {
	Pat  int
	Body int
}

// Pat is a pattern. Pair and Cons have two parts, which are patterns.
type Pat struct {
	Kind   Kind
	Num    int // Number: its value
	Binder int // Name
	First  int
	Second int
}
