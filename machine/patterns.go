package machine

import (
	"resume/api"
	"resume/tree"
	"resume/values"
)

func (m *Machine) match(arms []tree.Arm, v values.Value, sight *values.Sight) {
	for i := 0; i < len(arms); i++ {
		inner, fits := m.fit(arms[i].Pat, v, sight)
		if fits {
			m.lookAt(arms[i].Body, inner)
			return
		}
	}
	m.raise(api.Match)
}

// fit tells whether a pattern fits a value; if so, it answers what is in sight
// with the pattern's names before sight.
func (m *Machine) fit(at int, v values.Value, sight *values.Sight) (*values.Sight, bool) {
	p := m.code.Tree.Pats[at]
	fits := true
	switch p.Kind {
	case tree.Number:
		fits = v.Num == p.Num
	case tree.True:
		fits = v.Num == 1
	case tree.False:
		fits = v.Num == 0
	case tree.Empty:
		fits = v.Parts == nil
	case tree.Name:
		return &values.Sight{Binder: p.Binder, Value: v, Next: sight}, true
	case tree.Pair, tree.Cons:
		return m.fitParts(p, v, sight)
	}
	if !fits {
		return nil, false
	}
	return sight, true
}

func (m *Machine) fitParts(p tree.Pat, v values.Value, sight *values.Sight) (*values.Sight, bool) {
	if v.Parts == nil {
		return nil, false
	}
	inner, fits := m.fit(p.First, v.Parts.First, sight)
	if !fits {
		return nil, false
	}
	return m.fit(p.Second, v.Parts.Second, inner)
}
