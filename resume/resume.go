// Package resume: a small typed language with continuations: see DOC.md.
package resume

import (
	"resume/api"
	"resume/grammar"
	"resume/machine"
	"resume/scope"
	"resume/typing"
	"resume/words"
)

// Program is a program that was read and typed.
type Program struct {
	typ  string
	code *machine.Code
}

// Run is a run of a program.
type Run struct {
	machine *machine.Machine
}

// Compile reads and types a text (P3 to P5).
func Compile(s string) (*Program, api.Errno) {
	if len(s) > api.MaxSrc {
		return nil, api.ErrLong
	}
	list, isWords := words.Split(s)
	if !isWords {
		return nil, api.ErrLex
	}
	whole, isExp := grammar.Read(list)
	if !isExp {
		return nil, api.ErrSyntax
	}
	means, inSight := scope.Find(whole)
	if !inSight {
		return nil, api.ErrScope
	}
	typ, hasType := typing.Find(whole, means)
	if !hasType {
		return nil, api.ErrType
	}
	kept := scope.Kept(whole, means)
	code := machine.Code{Tree: whole, Means: means, Kept: kept}
	return &Program{typ: typ, code: &code}, api.OK
}

// Type tells the program's type (P5).
func (p *Program) Type() string {
	if p == nil {
		return ""
	}
	return p.typ
}

// Start begins a run (P6). What is no program has none: ErrArg.
func (p *Program) Start(input []int, words int) (*Run, api.Errno) {
	if len(input) > api.MaxIn {
		return nil, api.ErrLong
	}
	if words < api.MinWords || words > api.MaxWords || !areNumbers(input) {
		return nil, api.ErrArg
	}
	if p == nil || p.code == nil {
		return nil, api.ErrArg
	}
	return &Run{machine: machine.New(p.code, input)}, api.OK
}

func areNumbers(list []int) bool {
	for i := 0; i < len(list); i++ {
		if list[i] < -api.Half || list[i] >= api.Half {
			return false
		}
	}
	return true
}

// Go goes on (P7). What is no run does not: ErrArg.
func (r *Run) Go(fuel int) api.Errno {
	if fuel < 0 || fuel > api.MaxFuel || r == nil || r.machine == nil {
		return api.ErrArg
	}
	r.machine.Go(fuel)
	return api.OK
}

// State tells how the run stands (P7).
func (r *Run) State() api.State {
	if r == nil || r.machine == nil {
		return api.State{}
	}
	return r.machine.State()
}
