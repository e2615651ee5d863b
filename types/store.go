// Package types has a store of types (P5): they are laid in, made the same as
// others, opened for uses of their own, and told as a text.
package types

// Type is a type of a store, known by its place there.
type Type int32

type kind uint8

const (
	unknown kind = iota
	integer
	boolean
	list
	cont
	pair
	function
	link // what was made the same as its first part
)

// node is small, for a short program can have millions.
type node struct {
	kind   kind
	open   bool // it is an unknown type that is another at each use, or one is in it
	first  Type
	second Type
	mark   int32 // how far the last walk that met it has come with it
	note   int32 // of use to one call alone
}

const blockSize = 256

type block struct {
	nodes [blockSize]node
}

// Store has types. Those that were made the same share what they are, so a
// type that has more parts than could ever be counted may still be small here.
// It grows by blocks, for to move millions takes long.
type Store struct {
	blocks []*block
	size   int
	walks  int32
}

// The types of numbers and of truths lie in every store.
const (
	Int  Type = 0
	Bool Type = 1
)

// New answers a store for a program's types.
func New() Store {
	var s Store
	s.add(node{kind: integer})
	s.add(node{kind: boolean})
	return s
}

// Unknown lays in a type of which nothing is known yet.
func (s *Store) Unknown() Type { return s.add(node{kind: unknown}) }

// List lays in the type of the lists of an element's type.
func (s *Store) List(element Type) Type { return s.add(node{kind: list, first: element}) }

// Cont lays in the type of the continuations that want a value's type.
func (s *Store) Cont(value Type) Type { return s.add(node{kind: cont, first: value}) }

// Pair lays in the type of pairs.
func (s *Store) Pair(first, second Type) Type {
	return s.add(node{kind: pair, first: first, second: second})
}

// Function lays in the type of functions.
func (s *Store) Function(from, to Type) Type {
	return s.add(node{kind: function, first: from, second: to})
}

func (s *Store) add(n node) Type {
	if s.size == len(s.blocks)*blockSize {
		s.blocks = append(s.blocks, &block{})
	}
	t := Type(s.size)
	s.size++
	*s.at(t) = n
	return t
}

func (s *Store) at(t Type) *node {
	return &s.blocks[t/blockSize].nodes[t%blockSize]
}

// find answers the type that stands for all that were made the same as t.
func (s *Store) find(t Type) Type {
	end := t
	for s.at(end).kind == link {
		end = s.at(end).first
	}
	// The next one who asks need not go the long way again.
	for t != end {
		n := s.at(t)
		t = n.first
		n.first = end
	}
	return end
}

// parts answers how many parts a type has, and what stands for them.
func (s *Store) parts(t Type) (int, [2]Type) {
	var parts [2]Type
	n := s.at(t)
	switch n.kind {
	case list, cont:
		parts[0] = s.find(n.first)
		return 1, parts
	case pair, function:
		parts[0] = s.find(n.first)
		parts[1] = s.find(n.second)
		return 2, parts
	}
	return 0, parts
}
