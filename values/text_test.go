package values

import (
	"fmt"
	"strings"
	"testing"
)

func number(n int) Value { return Value{Kind: Number, Num: n} }

func pair(first, second Value) Value {
	return Value{Kind: Pair, Parts: &Parts{First: first, Second: second}}
}

func cons(first, rest Value) Value {
	return Value{Kind: List, Parts: &Parts{First: first, Second: rest}}
}

func list(elements ...Value) Value {
	all := Value{Kind: List}
	for i := len(elements) - 1; i >= 0; i-- {
		all = cons(elements[i], all)
	}
	return all
}

// same: a list of so many of one value.
func same(count int, v Value) Value {
	all := list()
	for ; count > 0; count-- {
		all = cons(v, all)
	}
	return all
}

func check(t *testing.T, v Value, want string) {
	t.Helper()
	if got := Text(v); got != want {
		t.Errorf("the text is %.100q (%d bytes), want %.100q (%d bytes)", got, len(got), want, len(want))
	}
}

func TestText(t *testing.T) {
	yes, no, fn, cont := Value{Kind: Truth, Num: 1}, Value{Kind: Truth}, Value{Kind: Function}, Value{Kind: Continuation}
	for _, c := range []struct {
		v    Value
		want string
	}{
		{number(0), "0"}, {number(-7), "-7"}, {number(2147483647), "2147483647"}, {number(-2147483648), "-2147483648"},
		{yes, "true"}, {no, "false"}, {fn, "fn"}, {cont, "cont"},
		{list(), "[]"}, {list(number(1)), "[1]"}, {list(number(1), number(-2), number(3)), "[1,-2,3]"},
		{pair(number(1), yes), "(1,true)"}, {pair(pair(no, fn), pair(cont, list())), "((false,fn),(cont,[]))"},
		{list(list(), list(number(1), number(2)), list()), "[[],[1,2],[]]"},
		{list(pair(number(1), list(yes, no)), pair(number(2), list())), "[(1,[true,false]),(2,[])]"},
		{pair(list(fn, fn), cont), "([fn,fn],cont)"},
	} {
		check(t, c.v, c.want)
	}
}

// A list is one part besides its elements, a pair besides its two.
func TestManyParts(t *testing.T) {
	ones := func(count int) string { return "[" + strings.TrimSuffix(strings.Repeat("1,", count), ",") + "]" }
	check(t, same(1022, number(1)), ones(1022))
	check(t, same(1023, number(1)), "..")
	check(t, same(1000000, number(1)), "..")
	check(t, same(1022, Value{Kind: Function}), strings.ReplaceAll(ones(1022), "1", "fn"))
	check(t, same(1022, Value{Kind: Continuation}), strings.ReplaceAll(ones(1022), "1", "cont"))
	check(t, same(1023, Value{Kind: Truth}), "..")
	check(t, same(511, same(1, number(1))), strings.ReplaceAll(ones(511), "1", "[1]"))
	check(t, cons(list(), same(511, same(1, number(1)))), "..")
	check(t, same(1022, list()), strings.ReplaceAll(ones(1022), "1", "[]"))
	check(t, same(340, pair(number(1), number(2))), strings.ReplaceAll(ones(340), "1", "(1,2)"))
	check(t, cons(pair(number(1), number(2)), same(340, pair(number(1), number(2)))), "..")
	check(t, pair(same(1020, number(1)), number(2)), "("+ones(1020)+",2)")
	check(t, pair(same(1021, number(1)), number(2)), "..")
	check(t, pair(number(2), same(1021, number(1))), "..")
	check(t, pair(list(), same(1020, number(1))), "([],"+ones(1020)+")")
	check(t, pair(list(), same(1021, number(1))), "..")
}

// Values are told no matter how deep they are, or how many parts they have.
func TestGreatValues(t *testing.T) {
	left, right, lists := number(0), number(0), list()
	for i := 1; i <= 511; i++ {
		left, right = pair(left, number(i)), pair(number(i), right)
	}
	for i := 1; i < 1023; i++ {
		lists = list(lists)
	}
	if got, want := Text(left), strings.Repeat("(", 511)+"0,1)"; !strings.HasPrefix(got, want) || !strings.HasSuffix(got, ",511)") {
		t.Errorf("%.600q", got)
	}
	if got := Text(right); !strings.HasPrefix(got, "(511,(510,") || !strings.HasSuffix(got, "(1,0"+strings.Repeat(")", 511)) {
		t.Errorf("%.100q", got)
	}
	check(t, lists, strings.Repeat("[", 1023)+strings.Repeat("]", 1023))
	check(t, pair(left, number(1)), "..")
	check(t, pair(number(1), right), "..")
	check(t, list(lists), "..")
	for i := 0; i < 300000; i++ {
		left, right, lists = pair(left, number(1)), pair(number(1), right), list(lists)
	}
	check(t, left, "..")
	check(t, right, "..")
	check(t, lists, "..")
	twice := number(1)
	for i := 0; i < 9; i++ {
		twice = pair(twice, twice)
	}
	if got := Text(twice); strings.Count(got, "1") != 512 || strings.Count(got, "(") != 511 {
		t.Errorf("%.100q", got)
	}
	for i := 0; i < 300; i++ {
		twice = pair(twice, twice)
		check(t, twice, "..")
	}
}

// A text does not hang on those that were asked for before.
func TestTextAgain(t *testing.T) {
	for i := 0; i < 3; i++ {
		check(t, same(1023, number(1)), "..")
		check(t, list(number(i)), fmt.Sprint("[", i, "]"))
	}
}
