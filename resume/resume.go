// Package resume: a small typed language with continuations: see DOC.md.
package resume

import (
	"resume/api"
	"resume/grammar"
	"resume/scope"
	"resume/typing"
	"resume/words"
)

// Program is a program that was read and typed.
type Program struct {
	typ string
}

// Run is a run of a program.
type Run struct{}

// Compile reads and types a text (P3 to P5).
func Compile(s string) (*Program, api.Errno) {
	if len(s) > api.MaxSrc {
		return nil, api.ErrLong
	}
	list, isWords := words.Split(s)
	if !isWords {
		return nil, api.ErrLex
	}
	whole, isExp := grammar.Read(list)
	if !isExp {
		return nil, api.ErrSyntax
	}
	means, inSight := scope.Find(whole)
	if !inSight {
		return nil, api.ErrScope
	}
	typ, hasType := typing.Find(whole, means)
	if !hasType {
		return nil, api.ErrType
	}
	return &Program{typ: typ}, api.OK
}

// Type tells the program's type (P5).
func (p *Program) Type() string {
	if p == nil {
		return ""
	}
	return p.typ
}

// Start begins a run (P6).
func (p *Program) Start(input []int, words int) (*Run, api.Errno) { return nil, api.OK }

// Go goes on (P7).
func (r *Run) Go(fuel int) api.Errno { return api.OK }

// State tells how the run stands (P7).
func (r *Run) State() api.State { return api.State{} }
