package values

import (
	"strconv"

	"resume/api"
)

type writer struct {
	text  []byte
	parts int
}

// Text tells a value.
func Text(v Value) string {
	var w writer
	w.write(v)
	if w.parts > api.MaxParts {
		return api.Great
	}
	return string(w.text)
}

// write goes no further than the text may be long, for a value may have more
// parts than could ever be told, and be deeper than calls can be.
func (w *writer) write(v Value) {
	w.parts++
	if w.parts > api.MaxParts {
		return
	}
	switch v.Kind {
	case Number:
		digits := strconv.Itoa(v.Num)
		w.add(digits)
	case Truth:
		w.truth(v)
	case List:
		w.list(v)
	case Pair:
		w.pair(v)
	case Function:
		w.add("fn")
	case Continuation:
		w.add("cont")
	}
}

func (w *writer) truth(v Value) {
	if v.Num == 1 {
		w.add("true")
	} else {
		w.add("false")
	}
}

func (w *writer) list(v Value) {
	w.add("[")
	sign := ""
	for v.Parts != nil && w.parts <= api.MaxParts {
		w.add(sign)
		w.write(v.Parts.First)
		v = v.Parts.Second
		sign = ","
	}
	w.add("]")
}

func (w *writer) pair(v Value) {
	w.add("(")
	w.write(v.Parts.First)
	w.add(",")
	w.write(v.Parts.Second)
	w.add(")")
}

func (w *writer) add(s string) {
	w.text = append(w.text, s...)
}
