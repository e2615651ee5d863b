package machine

import (
	"resume/api"
	"resume/tree"
	"resume/values"
)

// look is the step in which an expression is looked at.
func (m *Machine) look() {
	at := m.exp
	sight := m.sight
	e := m.code.Tree.Exps[at]
	switch e.Kind {
	case tree.Number:
		m.number(e.Num)
	case tree.True, tree.False:
		m.truth(e.Kind == tree.True)
	case tree.Empty:
		m.goOn(values.Value{Kind: values.List})
	case tree.Name:
		m.name(sight, m.code.Means[at])
	case tree.Fn:
		kept := m.kept(sight, m.code.Kept[at])
		m.goOn(values.Value{Kind: values.Function, Param: e.Binder, Body: e.First, Sight: kept})
	case tree.Read:
		m.read()
	case tree.LetRec:
		kept := m.kept(sight, m.code.Kept[at])
		alone := &values.Sight{Binder: values.Functions, LetRec: at, Next: kept}
		m.lookAt(e.First, &values.Sight{Binder: values.Functions, LetRec: at, Own: alone, Next: sight})
	default:
		m.waits = &values.Wait{Exp: at, Sight: sight, Next: m.waits}
		m.lookAt(e.First, sight)
	}
}

func (m *Machine) read() {
	if len(m.input) == 0 {
		m.end(api.Exhausted, "")
		return
	}
	n := m.input[0]
	m.input = m.input[1:]
	m.number(n)
}

// name gives the value of a name: there is one, for package scope has found
// its binder.
func (m *Machine) name(sight *values.Sight, binder int) {
	for s := sight; s != nil; s = s.Next {
		if s.Binder == binder {
			m.goOn(s.Value)
			return
		}
		v, found := m.function(s, binder)
		if found {
			m.goOn(v)
			return
		}
	}
}

// function answers a function of a let rec that is in sight.
func (m *Machine) function(s *values.Sight, binder int) (values.Value, bool) {
	if s.Binder != values.Functions {
		return values.Value{}, false
	}
	funs := m.code.Tree.Exps[s.LetRec].Funs
	for i := 0; i < len(funs); i++ {
		if funs[i].Binder == binder {
			return values.Value{Kind: values.Function, Param: funs[i].Param, Body: funs[i].Body, Sight: own(s)}, true
		}
	}
	return values.Value{}, false
}

// own answers the functions of a let rec with what they remember alone.
func own(functions *values.Sight) *values.Sight {
	if functions.Own != nil {
		return functions.Own
	}
	return functions
}

// kept answers what a function remembers of what is in sight: the names that
// it uses. With all that is in sight it could keep alive every function before
// it, in a run that holds but one at any time.
func (m *Machine) kept(sight *values.Sight, used []bool) *values.Sight {
	var kept *values.Sight
	for s := sight; s != nil; s = s.Next {
		if s.Binder == values.Functions {
			if m.anyUsed(s.LetRec, used) {
				kept = &values.Sight{Binder: values.Functions, LetRec: s.LetRec, Own: own(s), Next: kept}
			}
		} else if used[s.Binder] {
			kept = &values.Sight{Binder: s.Binder, Value: s.Value, Next: kept}
		}
	}
	return kept
}

func (m *Machine) anyUsed(letRec int, used []bool) bool {
	funs := m.code.Tree.Exps[letRec].Funs
	for i := 0; i < len(funs); i++ {
		if used[funs[i].Binder] {
			return true
		}
	}
	return false
}
