package types

type couple struct {
	left  Type
	right Type
}

// Same makes two types the same; false, if they cannot be. A type may become
// part of itself by that, which Sound tells.
func (s *Store) Same(left, right Type) bool {
	due := []couple{{left, right}}
	for len(due) > 0 {
		last := due[len(due)-1]
		due = due[:len(due)-1]
		l := s.find(last.left)
		r := s.find(last.right)
		if l == r {
			continue
		}
		a := *s.at(l)
		b := *s.at(r)
		if b.kind == unknown {
			s.link(r, l)
			continue
		}
		if a.kind != unknown && a.kind != b.kind {
			return false
		}
		// They are joined before their parts are looked at, so that a couple is
		// never due twice: that is why this ends, even at a type in itself.
		s.link(l, r)
		switch a.kind {
		case list, cont:
			due = append(due, couple{a.first, b.first})
		case pair, function:
			due = append(due, couple{a.first, b.first}, couple{a.second, b.second})
		}
	}
	return true
}

func (s *Store) link(from, to Type) {
	*s.at(from) = node{kind: link, first: to}
}
