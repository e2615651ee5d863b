package scope

import "resume/tree"

// Kept answers for each fn, and for the functions of each let rec together,
// which binders' names they use: a list with an element for each binder. It is
// nil for other expressions. means is what Find answers.
func Kept(t tree.Tree, means []int) [][]bool {
	var starts []int // where the parts of each expression begin, for they lie together
	var kept [][]bool
	for i := 0; i < len(t.Exps); i++ {
		e := t.Exps[i]
		start := i
		var list []bool
		switch e.Kind {
		case tree.Number, tree.True, tree.False, tree.Name, tree.Empty, tree.Read:
		case tree.LetRec:
			start = starts[e.Funs[0].Body]
			list = used(t, means[start:starts[e.First]])
		case tree.Fn:
			start = starts[e.First]
			list = used(t, means[start:i])
		default:
			start = starts[e.First]
		}
		starts = append(starts, start)
		kept = append(kept, list)
	}
	return kept
}

func used(t tree.Tree, means []int) []bool {
	list := make([]bool, len(t.Binders))
	for i := 0; i < len(means); i++ {
		if means[i] != Nobody {
			list[means[i]] = true
		}
	}
	return list
}
