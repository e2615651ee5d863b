package types

import "resume/api"

type writer struct {
	store    *Store
	unknowns []Type // those that were written, in their order
	text     []byte
}

// Text tells a type, which is no part of itself.
func (s *Store) Text(t Type) string {
	if s.length(t) > api.MaxParts {
		return api.Great
	}
	w := writer{store: s}
	root := s.find(t)
	w.write(root)
	return string(w.text)
}

// length counts the parts of a text, but does not count on from where there
// are too many: there may be more than numbers can tell.
func (s *Store) length(t Type) int {
	const tooMany = api.MaxParts + 1
	inner, sound := s.inside(t)
	if !sound {
		return tooMany
	}
	for i := 0; i < len(inner); i++ {
		n := s.at(inner[i])
		n.note = 1
		count, parts := s.parts(inner[i])
		for j := 0; j < count; j++ {
			n.note += s.at(parts[j]).note
		}
		if n.note > tooMany {
			n.note = tooMany
		}
	}
	root := s.find(t)
	return int(s.at(root).note)
}

func (w *writer) write(t Type) {
	_, parts := w.store.parts(t)
	switch w.store.at(t).kind {
	case integer:
		w.add("int")
	case boolean:
		w.add("bool")
	case list:
		w.write(parts[0])
		w.add(" list")
	case cont:
		w.write(parts[0])
		w.add(" cont")
	case pair:
		w.both(parts, " * ")
	case function:
		w.both(parts, " -> ")
	case unknown:
		w.unknown(t)
	}
}

func (w *writer) both(parts [2]Type, sign string) {
	w.add("(")
	w.write(parts[0])
	w.add(sign)
	w.write(parts[1])
	w.add(")")
}

func (w *writer) unknown(t Type) {
	const letters = 26
	count := 0
	for count < len(w.unknowns) && w.unknowns[count] != t {
		count++
	}
	if count == len(w.unknowns) {
		w.unknowns = append(w.unknowns, t)
	}
	w.text = append(w.text, '\'', byte('a'+count%letters))
}

func (w *writer) add(s string) {
	w.text = append(w.text, s...)
}
