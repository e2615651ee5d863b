package types

// Open lets the unknown types in t be others at each use (Instance), but for
// those that are in one of the fixed types. It answers false, and opens none,
// if t is part of itself. An open type must not be made the same as another.
func (s *Store) Open(t Type, fixed []Type) bool {
	inner, sound := s.inside(t)
	if !sound {
		return false
	}
	const free, held = 0, 1
	for i := 0; i < len(inner); i++ {
		s.at(inner[i]).note = free
	}
	s.walks++
	for i := 0; i < len(fixed); i++ {
		around, _ := s.walk(fixed[i])
		for j := 0; j < len(around); j++ {
			s.at(around[j]).note = held
		}
	}
	for i := 0; i < len(inner); i++ {
		n := s.at(inner[i])
		n.open = n.kind == unknown && n.note == free
		count, parts := s.parts(inner[i])
		for j := 0; j < count; j++ {
			if s.at(parts[j]).open {
				n.open = true
			}
		}
	}
	return true
}

// Instance answers a type for one use of t: t with fresh unknown types for its
// open ones; t itself, if it has none.
func (s *Store) Instance(t Type) Type {
	root := s.find(t)
	if !s.at(root).open {
		return t
	}
	// What is not open may be part of itself. What is open was sound, and has
	// not changed since, so that its parts have their notes before it.
	inner, _ := s.inside(root)
	for i := 0; i < len(inner); i++ {
		n := s.at(inner[i])
		n.note = int32(inner[i])
		if n.open {
			fresh := s.copied(inner[i])
			n.note = int32(fresh)
		}
	}
	return Type(s.at(root).note)
}

// copied lays in what t is, made of what its parts have in their notes.
func (s *Store) copied(t Type) Type {
	fresh := node{kind: s.at(t).kind}
	count, parts := s.parts(t)
	if count > 0 {
		fresh.first = Type(s.at(parts[0]).note)
	}
	if count > 1 {
		fresh.second = Type(s.at(parts[1]).note)
	}
	return s.add(fresh)
}
