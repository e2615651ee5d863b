package words

import (
	"fmt"
	"strings"
	"testing"
)

// show writes words so that a test can compare them: numbers as #7, names as
// $0, $1, .. by their count, the others as they are written.
func show(list []Word) string {
	var parts []string
	for _, w := range list {
		switch {
		case w.Kind == Number:
			parts = append(parts, fmt.Sprintf("#%d", w.Num))
		case w.Kind == Name:
			parts = append(parts, fmt.Sprintf("$%d", w.Num))
		case w.Kind >= Arrow && w.Num == 0:
			parts = append(parts, signs[w.Kind-Arrow])
		case w.Kind >= Let && w.Num == 0:
			parts = append(parts, keywords[w.Kind-Let])
		default:
			parts = append(parts, "?")
		}
	}
	return strings.Join(parts, " ")
}

func TestWords(t *testing.T) {
	for _, c := range []struct{ text, want string }{
		{"", ""}, {" ", ""}, {" \n\n ", ""},
		{"1", "#1"}, {"0", "#0"}, {"007", "#7"}, {"999999", "#999999"},
		{strings.Repeat("0", 234) + "999999", "#999999"},
		{"1 2", "#1 #2"}, {"1\n2", "#1 #2"}, {"\n1 ", "#1"},
		{"1x", "#1 $0"}, {"x1", "$0"}, {"1x1", "#1 $0"}, {"1_", "#1 _"}, {"1_1", "#1 $0"},
		{"999999x", "#999999 $0"}, {"0let", "#0 let"},
		{"x", "$0"}, {"az", "$0"}, {"a0z9_", "$0"}, {"x y x z y", "$0 $1 $0 $2 $1"},
		{"_", "_"}, {"_x", "$0"}, {"__", "$0"}, {"_1", "$0"}, {"x_", "$0"}, {"_ _", "_ _"},
		{"let rec and in fn if then else match with end try raise callcc throw print read true false _",
			"let rec and in fn if then else match with end try raise callcc throw print read true false _"},
		{"letx let1 let_ _let lets le", "$0 $1 $2 $3 $4 $5"}, {"inn i fnx trues", "$0 $1 $2 $3"}, {"letrec", "$0"},
		{"-> :: [] = < + - * / ( ) , |", "-> :: [] = < + - * / ( ) , |"},
		{"->::[]=<+-*/(),|", "-> :: [] = < + - * / ( ) , |"},
		{"-->", "- ->"}, {"->->", "-> ->"}, {"- -", "- -"}, {"--", "- -"}, {"::::", ":: ::"},
		{"<-", "< -"}, {"<->", "< ->"}, {"==", "= ="}, {"[][]", "[] []"}, {"((", "( ("}, {"||", "| |"},
		{"fn x->x+1", "fn $0 -> $0 + #1"}, {"x::y", "$0 :: $1"}, {"f(1,2)", "$0 ( #1 , #2 )"},
		{"let\nx=1in x", "let $0 = #1 in $0"},
	} {
		list, ok := Split(c.text)
		if !ok || show(list) != c.want {
			t.Errorf("Split(%.60q) = %s, %v, want %s", c.text, show(list), ok, c.want)
		}
	}
}

func TestNoWords(t *testing.T) {
	for _, s := range []string{
		"1000000", "1000000x", "0001000000", "9999999", strings.Repeat("9", 240), "18446744073709551617", "4294967296",
		"1 + 1000000", "#", "1 + # 2", "X", "fn X -> 1", "xY", "1\t", "\t", "\r", "1\r\n", "\v", "\f", "\x00", "x\x00",
		"[", "]", "[ ]", "[1]", "[x", ":", ": :", ":=", ":::", ">", "- >", "=>", "<>", "!", "\"", "'", "'a", "&", "%", "$",
		".", ";", "?", "@", "\\", "^", "`", "{", "}", "~", "\x7f", "\x80", "\xff", "é", "x é", "\u00a0", "\ufeff1", "1\u2028", "١", "ａ",
	} {
		list, ok := Split(s)
		if ok || list != nil {
			t.Errorf("Split(%q) = %s, %v", s, show(list), ok)
		}
	}
}

func TestEachByte(t *testing.T) {
	const alone = "=<+-*/(),| \n_0123456789abcdefghijklmnopqrstuvwxyz"
	const within = "_0123456789abcdefghijklmnopqrstuvwxyz"
	for c := 0; c < 256; c++ {
		s := string([]byte{byte(c)})
		_, ok := Split(s)
		if ok != strings.Contains(alone, s) {
			t.Errorf("Split(%q): %v", s, ok)
		}
		list, ok := Split("a" + s + "a")
		one := ok && len(list) == 1
		if one != strings.Contains(within, s) {
			t.Errorf("Split(%q): %s", "a"+s+"a", show(list))
		}
	}
}
