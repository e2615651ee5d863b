package grammar

import (
	"strconv"
	"strings"
	"testing"

	"resume/words"
)

// The grammar of P3 once more, as plain rules, for a recognizer that knows
// nothing of the reader. What repeats is written as a rule that calls itself.
var rules = map[string][]string{
	"EXP":    {"let NAME = EXP in EXP", "let rec FUNS in EXP", "fn NAME -> EXP", "if EXP then EXP else EXP", "match EXP with ARMS end", "try EXP with NAME -> EXP end", "CMP"},
	"FUNS":   {"NAME NAME = EXP", "NAME NAME = EXP and FUNS"},
	"ARMS":   {"PAT -> EXP", "PAT -> EXP | ARMS"},
	"CMP":    {"CONS", "CONS = CONS", "CONS < CONS"},
	"CONS":   {"SUM", "SUM :: CONS"},
	"SUM":    {"PROD", "PROD + SUM", "PROD - SUM"},
	"PROD":   {"APP", "APP * PROD", "APP / PROD"},
	"APP":    {"raise ATOM", "callcc ATOM", "print ATOM", "throw ATOM ATOM", "ATOMS"},
	"ATOMS":  {"ATOM", "ATOM ATOMS"},
	"ATOM":   {"NUMBER", "true", "false", "NAME", "[]", "read", "( EXP )", "( EXP , EXP )"},
	"PAT":    {"SIMPLE", "SIMPLE :: PAT"},
	"SIMPLE": {"NUMBER", "true", "false", "NAME", "_", "[]", "( PAT )", "( PAT , PAT )"},
	"NAME":   {"x", "y"},
	"NUMBER": {"1"},
}

var vocabulary = strings.Fields("let rec and in fn if then else match with end try raise callcc throw print read true false _ -> :: [] = < + - * / ( ) , | x y 1")

type recognizer struct {
	list []string
	ends map[string][]int
}

// from answers where a symbol that begins at a word can end.
func (r *recognizer) from(symbol string, at int) []int {
	alternatives, is := rules[symbol]
	if !is {
		if at < len(r.list) && r.list[at] == symbol {
			return []int{at + 1}
		}
		return nil
	}
	key := symbol + strconv.Itoa(at)
	known, is := r.ends[key]
	if is {
		return known
	}
	found := map[int]bool{}
	for _, a := range alternatives {
		for _, end := range r.sequence(strings.Fields(a), at) {
			found[end] = true
		}
	}
	var ends []int
	for end := range found {
		ends = append(ends, end)
	}
	r.ends[key] = ends
	return ends
}

func (r *recognizer) sequence(symbols []string, at int) []int {
	if len(symbols) == 0 {
		return []int{at}
	}
	var ends []int
	for _, middle := range r.from(symbols[0], at) {
		ends = append(ends, r.sequence(symbols[1:], middle)...)
	}
	return ends
}

func isExp(list []string) bool {
	r := recognizer{list, map[string][]int{}}
	for _, end := range r.from("EXP", 0) {
		if end == len(list) {
			return true
		}
	}
	return false
}

func compare(t *testing.T, list []string) bool {
	t.Helper()
	text := strings.Join(list, " ")
	want := isExp(list)
	got := read(t, text) != "none"
	if got != want {
		t.Errorf("%q: read: %v, want %v", text, got, want)
	}
	return want
}

func TestAllShortTexts(t *testing.T) {
	count := 0
	for _, a := range vocabulary {
		for _, b := range vocabulary {
			for _, c := range vocabulary {
				if compare(t, []string{a, b, c}) {
					count++
				}
			}
		}
	}
	if count == 0 {
		t.Error("none of these is an expression")
	}
}

// dice are the same at each run.
type dice struct{ state uint64 }

func (d *dice) below(n int) int {
	d.state = d.state*6364136223846793005 + 1442695040888963407
	return int(d.state>>33) % n
}

// derive makes words of a symbol; where there is no room left, by the rules
// that end soonest.
func (d *dice) derive(symbol string, room int) []string {
	alternatives, is := rules[symbol]
	if !is {
		return []string{symbol}
	}
	pick := d.below(len(alternatives))
	if room <= 0 {
		pick = 0
		switch symbol {
		case "EXP", "APP":
			pick = len(alternatives) - 1
		}
	}
	var list []string
	for _, s := range strings.Fields(alternatives[pick]) {
		list = append(list, d.derive(s, room-1)...)
	}
	return list
}

func (d *dice) spoil(list []string) []string {
	at := d.below(len(list))
	word := vocabulary[d.below(len(vocabulary))]
	before := append([]string{}, list[:at]...)
	switch d.below(3) {
	case 0:
		return append(before, list[at+1:]...)
	case 1:
		return append(append(before, word), list[at:]...)
	}
	return append(append(before, word), list[at+1:]...)
}

func TestRandomTexts(t *testing.T) {
	d := dice{1}
	right, wrong := 0, 0
	for i := 0; i < 6000; i++ {
		list := d.derive("EXP", 4+d.below(8))
		if len(list) > 120 {
			continue
		}
		if !compare(t, list) {
			t.Fatalf("%v is derived, but not recognized", list)
		}
		spoiled := d.spoil(list)
		if compare(t, spoiled) {
			right++
		} else {
			wrong++
		}
	}
	if right < 300 || wrong < 1500 {
		t.Errorf("%d spoiled texts are right, %d wrong", right, wrong)
	}
}

// binary has the signs with two parts; those of one level bind alike.
var binary = []struct {
	signs string
	right bool
}{{"= <", false}, {"::", true}, {"+ -", false}, {"* /", false}}

// made is a text and how it must be read.
type made struct{ text, shape string }

// chain makes an expression of operators from a level on.
func (d *dice) chain(level, room int) made {
	if level == len(binary) {
		return d.application(room)
	}
	signs := strings.Fields(binary[level].signs)
	parts := []made{d.chain(level+1, room)}
	var between []string
	for room > 0 && d.below(4) == 0 && !(level == 0 && len(between) == 1) {
		between = append(between, signs[d.below(len(signs))])
		parts = append(parts, d.chain(level+1, room-2))
	}
	text := parts[0].text
	for i, s := range between {
		text += " " + s + " " + parts[i+1].text
	}
	if !binary[level].right {
		shape := parts[0].shape
		for i, s := range between {
			shape = list(s, shape, parts[i+1].shape)
		}
		return made{text, shape}
	}
	shape := parts[len(parts)-1].shape
	for i := len(between) - 1; i >= 0; i-- {
		shape = list(between[i], parts[i].shape, shape)
	}
	return made{text, shape}
}

func (d *dice) application(room int) made {
	whole := d.atom(room)
	switch {
	case room > 0 && d.below(5) == 0:
		head := []string{"raise", "callcc", "print"}[d.below(3)]
		return made{head + " " + whole.text, list(head, whole.shape)}
	case room > 0 && d.below(6) == 0:
		second := d.atom(room - 1)
		return made{"throw " + whole.text + " " + second.text, list("throw", whole.shape, second.shape)}
	}
	for room > 0 && d.below(4) == 0 {
		argument := d.atom(room - 1)
		whole = made{whole.text + " " + argument.text, list("@", whole.shape, argument.shape)}
	}
	return whole
}

func (d *dice) atom(room int) made {
	if room > 0 && d.below(4) == 0 {
		inner := d.chain(0, room-1)
		return made{"(" + inner.text + ")", inner.shape}
	}
	if room > 0 && d.below(8) == 0 {
		first := d.chain(0, room-1)
		second := d.chain(0, room-1)
		return made{"(" + first.text + "," + second.text + ")", list(",", first.shape, second.shape)}
	}
	plain := []string{"0", "7", "true", "false", "[]", "read"}[d.below(6)]
	return made{plain, plain}
}

func TestRandomShapes(t *testing.T) {
	d := dice{2}
	for i := 0; i < 5000; i++ {
		m := d.chain(0, 5)
		got := read(t, m.text)
		if got != m.shape {
			t.Errorf("%q is read as %s, want %s", m.text, got, m.shape)
		}
	}
}

// No list of words makes the reader go on for ever or leave its list, whatever
// the numbers in it.
func TestAnyWords(t *testing.T) {
	d := dice{3}
	for i := 0; i < 2000; i++ {
		var list []words.Word
		for len(list) < d.below(60) {
			list = append(list, words.Word{Kind: words.Kind(d.below(40)), Num: d.below(9) - 4})
		}
		Read(list)
	}
}
