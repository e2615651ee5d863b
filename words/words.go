// Package words cuts a text into words (P3).
package words

import "resume/api"

// Kind tells which word a word is.
type Kind int

// The keywords stand here in the order of the table keywords, the signs in
// that of the table signs: a word's kind is counted from Let or from Arrow.
const (
	Nothing Kind = iota // what is found behind the last word
	Number
	Name
	Let
	Rec
	And
	In
	Fn
	If
	Then
	Else
	Match
	With
	End
	Try
	Raise
	Callcc
	Throw
	Print
	Read
	True
	False
	Any
	Arrow
	Cons
	Empty
	Equal
	Less
	Plus
	Minus
	Times
	Over
	Open
	Close
	Comma
	Bar
)

var keywords = [20]string{
	"let", "rec", "and", "in", "fn", "if", "then", "else", "match", "with",
	"end", "try", "raise", "callcc", "throw", "print", "read", "true", "false", "_",
}

// The longer signs stand first, so that a sign goes as far as it can.
var signs = [13]string{
	"->", "::", "[]", "=", "<", "+", "-", "*", "/", "(", ")", ",", "|",
}

// Word is a word. Num is the value of a number; of a name it tells which one
// it is: names are counted from 0, as they first stand in the text. So no part
// of the text need be kept.
type Word struct {
	Kind Kind
	Num  int
}

type splitter struct {
	text  string
	at    int
	list  []Word
	names []string
}

// Split answers the words of a text; false, if it is no words.
func Split(text string) ([]Word, bool) {
	s := splitter{text: text}
	for s.at < len(s.text) {
		first := s.text[s.at]
		if !s.step(first) {
			return nil, false
		}
	}
	return s.list, true
}

// step goes over a blank, or over a word by its first byte.
func (s *splitter) step(first byte) bool {
	switch {
	case first == ' ' || first == '\n':
		s.at++
		return true
	case isDigit(first):
		return s.number()
	case beginsName(first):
		s.name()
		return true
	}
	return s.sign()
}

func (s *splitter) add(kind Kind, num int) {
	s.list = append(s.list, Word{Kind: kind, Num: num})
}

func (s *splitter) number() bool {
	n := 0
	for s.at < len(s.text) && isDigit(s.text[s.at]) {
		// A number that is too great already grows no further: it could turn over.
		if n <= api.MaxNum {
			n = 10*n + int(s.text[s.at]-'0')
		}
		s.at++
	}
	s.add(Number, n)
	return n <= api.MaxNum
}

func (s *splitter) name() {
	from := s.at
	for s.at < len(s.text) && goesOnName(s.text[s.at]) {
		s.at++
	}
	text := s.text[from:s.at]
	for i := 0; i < len(keywords); i++ {
		if keywords[i] == text {
			s.add(Let+Kind(i), 0)
			return
		}
	}
	num := s.countName(text)
	s.add(Name, num)
}

func (s *splitter) countName(text string) int {
	for i := 0; i < len(s.names); i++ {
		if s.names[i] == text {
			return i
		}
	}
	s.names = append(s.names, text)
	return len(s.names) - 1
}

func (s *splitter) sign() bool {
	for i := 0; i < len(signs); i++ {
		end := s.at + len(signs[i])
		if end <= len(s.text) && s.text[s.at:end] == signs[i] {
			s.at = end
			s.add(Arrow+Kind(i), 0)
			return true
		}
	}
	return false
}

func isDigit(c byte) bool { return c >= '0' && c <= '9' }

func beginsName(c byte) bool { return c == '_' || c >= 'a' && c <= 'z' }

func goesOnName(c byte) bool { return beginsName(c) || isDigit(c) }
