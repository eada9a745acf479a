package solve

import (
	"slices"
	"strconv"

	"augury/api"
	"augury/term"
)

// question is what is left to find out, if all these terms are to be true: the
// simple ones of those that are no Consts, rising, each once, so that the same
// question has the same ones. It may not be, if one is the Const 0.
func (p *Solver) question(terms []int) (question []int, may bool, e api.Errno) {
	for _, id := range terms {
		simple, e := p.simp.Do(id)
		if e != api.OK {
			return nil, false, e
		}
		n, _ := p.store.Node(simple)
		switch {
		case n.Op != api.Const:
			question = append(question, simple)
		case n.N == 0:
			return nil, false, api.OK
		}
	}
	slices.Sort(question)
	return slices.Compact(question), true, api.OK
}

// key is the text by which a question's answer is found again.
func key(question []int) string {
	var text []byte
	for _, id := range question {
		text = strconv.AppendInt(text, int64(id), 10)
		text = append(text, ' ')
	}
	return string(text)
}

// below tells of the nodes up to a question's last term which ones are terms of
// it, or below them.
func below(s *term.Store, question []int) []bool {
	is := make([]bool, question[len(question)-1]+1)
	for _, id := range question {
		is[id] = true
	}
	// Kids have lesser numbers, so that each one comes behind what is above it.
	for id := len(is) - 1; id >= 0; id-- {
		if !is[id] {
			continue
		}
		n, _ := s.Node(id)
		// A kid that is none is 0 here, the first node, which has no kids: with
		// that taken for one, too, at most one needless variable is kept.
		for _, kid := range n.Kids {
			is[kid] = true
		}
	}
	return is
}
