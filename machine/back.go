package machine

import (
	"strconv"

	"resume/api"
	"resume/tree"
	"resume/values"
)

// comeBack is the step in which a value comes back to what waits last.
func (m *Machine) comeBack() {
	v := m.value
	w := m.waits
	m.waits = w.Next
	e := m.code.Tree.Exps[w.Exp]
	switch e.Kind {
	case tree.Let:
		m.within(w.Sight, e.Binder, v, e.Second)
	case tree.If:
		m.choose(e, v, w.Sight)
	case tree.Match:
		m.match(e.Arms, v, w.Sight)
	case tree.Try:
		m.goOn(v)
	case tree.Raise:
		m.raise(v.Num)
	case tree.Print:
		m.prints = append(m.prints, v.Num)
		m.goOn(v)
	case tree.Callcc:
		m.call(v, values.Value{Kind: values.Continuation, Waits: w.Next})
	default:
		m.part(e, v, w)
	}
}

// within looks at an expression in which one more name is in sight.
func (m *Machine) within(sight *values.Sight, binder int, v values.Value, exp int) {
	m.lookAt(exp, &values.Sight{Binder: binder, Value: v, Next: sight})
}

func (m *Machine) choose(e tree.Exp, v values.Value, sight *values.Sight) {
	if v.Num == 1 {
		m.lookAt(e.Second, sight)
	} else {
		m.lookAt(e.Third, sight)
	}
}

// part takes the value of one of the two parts that an expression has.
func (m *Machine) part(e tree.Exp, v values.Value, w *values.Wait) {
	if w.Both {
		m.both(e.Kind, w.First, v)
		return
	}
	m.waits = &values.Wait{Exp: w.Exp, Both: true, First: v, Next: w.Next}
	m.lookAt(e.Second, w.Sight)
}

func (m *Machine) both(kind tree.Kind, first, second values.Value) {
	switch kind {
	case tree.Call:
		m.call(first, second)
	case tree.Throw:
		m.waits = first.Waits
		m.goOn(second)
	case tree.Pair:
		m.goOn(values.Value{Kind: values.Pair, Parts: &values.Parts{First: first, Second: second}})
	case tree.Cons:
		m.goOn(values.Value{Kind: values.List, Parts: &values.Parts{First: first, Second: second}})
	case tree.Equal:
		m.truth(first.Num == second.Num)
	case tree.Less:
		m.truth(first.Num < second.Num)
	default:
		m.compute(kind, first.Num, second.Num)
	}
}

func (m *Machine) call(function, argument values.Value) {
	m.within(function.Sight, function.Param, argument, function.Body)
}

func (m *Machine) compute(kind tree.Kind, left, right int) {
	switch kind {
	case tree.Add:
		m.number(left + right)
	case tree.Subtract:
		m.number(left - right)
	case tree.Multiply:
		m.number(left * right)
	case tree.Divide:
		if right == 0 {
			m.raise(api.Div)
			return
		}
		m.number(left / right)
	}
}

// raise gives up what waits, as far as the first try.
func (m *Machine) raise(n int) {
	for m.waits != nil {
		w := m.waits
		m.waits = w.Next
		e := m.code.Tree.Exps[w.Exp]
		if e.Kind == tree.Try {
			m.within(w.Sight, e.Binder, values.Value{Kind: values.Number, Num: n}, e.Second)
			return
		}
	}
	text := strconv.Itoa(n)
	m.end(api.Uncaught, text)
}
