// Package values has what a run holds (P8): values, names that are bound to
// them, and what waits for one. None of it changes once it is made; so what
// functions and continuations remember is shared, not copied.
package values

// Kind tells which value one is.
type Kind int

const (
	None Kind = iota // no value
	Number
	Truth
	List
	Pair
	Function
	Continuation
)

// Value is what an expression becomes.
type Value struct {
	Kind  Kind
	Num   int    // Number: itself; Truth: 1, if it is true
	Parts *Parts // Pair; List: the first element and the rest, nil for the empty one
	Param int    // Function: its parameter's binder
	Body  int    // Function: the expression that a call looks at
	Sight *Sight // Function: what it remembers
	Waits *Wait  // Continuation: what waits once it is taken up
}

// Parts are the two values that a pair, or a list that is not empty, is made of.
type Parts struct {
	First  Value
	Second Value
}

// Functions stands for a binder where the functions of a let rec are in sight.
const Functions = -1

// Sight is a name in sight and its value, or the functions of a let rec
// together; Next is what is in sight further out. The functions' values are
// made where they are used: were they kept here, they would hold themselves.
type Sight struct {
	Binder int
	Value  Value  // of a name alone
	LetRec int    // of Functions alone: their expression
	Own    *Sight // of Functions alone: they, and what they remember; nil, if Next is just that
	Next   *Sight
}

// Wait is an expression that waits for the value of a part; Next is what waits
// behind it.
type Wait struct {
	Exp   int
	Sight *Sight // for the parts that are to be looked at yet
	Both  bool   // it waits for its second part's value, and First is its first one's
	First Value
	Next  *Wait
}
