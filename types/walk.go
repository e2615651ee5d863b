package types

// inside answers t and the types that are in it, each once, and behind its
// parts; false, if one is part of itself.
func (s *Store) inside(t Type) ([]Type, bool) {
	s.walks++
	return s.walk(t)
}

// walk answers as inside does, but for what was met since s.walks was counted
// up. It keeps a list of what is due, for types may lie deeper in each other
// than calls should.
func (s *Store) walk(t Type) ([]Type, bool) {
	opened := 2 * s.walks
	closed := opened + 1
	root := s.find(t)
	due := []Type{root}
	var done []Type
	sound := true
	for len(due) > 0 {
		next := due[len(due)-1]
		n := s.at(next)
		if n.mark == closed || n.mark == opened {
			due = due[:len(due)-1]
			if n.mark == opened {
				n.mark = closed
				done = append(done, next)
			}
			continue
		}
		n.mark = opened
		count, parts := s.parts(next)
		for i := 0; i < count; i++ {
			// What is opened and not yet closed is what next is a part of.
			if s.at(parts[i]).mark == opened {
				sound = false
			} else {
				due = append(due, parts[i])
			}
		}
	}
	return done, sound
}

// Sound tells that no type of the store is part of itself.
func (s *Store) Sound() bool {
	s.walks++
	for i := 0; i < s.size; i++ {
		_, sound := s.walk(Type(i))
		if !sound {
			return false
		}
	}
	return true
}
