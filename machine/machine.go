// Package machine runs programs. It goes as the document's evaluator E does
// (P8), and a jump is one of its steps; but the step that finds nothing
// waiting for a value is made along with the one that came to the value.
package machine

import (
	"resume/api"
	"resume/tree"
	"resume/values"
)

// Code is a program that has a type. Its runs share it, and nothing changes it.
type Code struct {
	Tree  tree.Tree
	Means []int    // for each expression that is a name, its binder
	Kept  [][]bool // for each fn and let rec, which binders' names its functions use
}

// Machine is a run as it stands.
type Machine struct {
	code    *Code
	input   []int // what was not read yet
	looking bool  // at exp; else value comes back to what waits last
	exp     int
	sight   *values.Sight // for exp
	value   values.Value
	waits   *values.Wait // what waits, the last one first
	status  int
	text    string // what the run ended with
	prints  []int
	jumps   int
}

// New begins a run.
func New(code *Code, input []int) *Machine {
	m := Machine{code: code, looking: true, exp: code.Tree.Root, status: api.Running}
	m.input = append(m.input, input...)
	return &m
}

// Go makes so many jumps, or fewer, if the run ends.
func (m *Machine) Go(fuel int) {
	for i := 0; i < fuel && m.status == api.Running; i++ {
		m.jumps++
		if m.looking {
			m.look()
		} else {
			m.comeBack()
		}
	}
}

// State tells how the run stands.
func (m *Machine) State() api.State {
	s := api.State{Status: m.status, Value: m.text, Jumps: m.jumps}
	if len(m.prints) > 0 {
		s.Prints = make([]int, len(m.prints))
	}
	for i := 0; i < len(m.prints); i++ {
		s.Prints[i] = m.prints[i]
	}
	return s
}

func (m *Machine) lookAt(exp int, sight *values.Sight) {
	m.looking = true
	m.exp = exp
	m.sight = sight
}

func (m *Machine) goOn(v values.Value) {
	if m.waits == nil {
		text := values.Text(v)
		m.end(api.Done, text)
		return
	}
	m.looking = false
	m.value = v
}

// number goes on with a number, which turns over if 32 bits cannot hold it.
func (m *Machine) number(n int) {
	m.goOn(values.Value{Kind: values.Number, Num: int(int32(n))})
}

func (m *Machine) truth(isTrue bool) {
	v := values.Value{Kind: values.Truth}
	if isTrue {
		v.Num = 1
	}
	m.goOn(v)
}

// end lets go of what the run has held, which may be much.
func (m *Machine) end(status int, text string) {
	m.status = status
	m.text = text
	m.input = nil
	m.sight = nil
	m.value = values.Value{}
	m.waits = nil
}
