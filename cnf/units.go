package cnf

import (
	"container/heap"
	"sort"

	"augury/api"
)

// Units is the given literals and those that follow from them, in the order in
// which they come, and whether they leave no clause without one that may hold.
func Units(c api.Cnf, given []int) ([]int, bool) {
	if !May(c) {
		return nil, false
	}
	u := units{
		clauses: c.Clauses,
		vars:    c.Vars,
		decided: map[int]int{},
		left:    make([]int, len(c.Clauses)),
		newest:  make([]int, 2*c.Vars+1),
	}
	if !u.give(given) {
		return u.came, false
	}
	for k := range c.Clauses {
		u.lay(k)
	}
	for !u.broken && u.ready.Len() > 0 {
		u.follow(heap.Pop(&u.ready).(int))
	}
	return u.came, !u.broken
}

// units is what came so far, and what that leaves of the clauses. Nothing of it
// is ever undone, so that a clause's literals need no more than to be counted
// down: of one that holds there is always one left.
type units struct {
	clauses [][]int
	vars    int
	came    []int
	decided map[int]int // by variables: the literal that holds
	left    []int       // by clauses: how many literals there are whose nots didn't come
	places  []place     // where those stand that were left at first
	newest  []int       // by literals, from the least on: how many places there were with its newest one
	ready   queue       // the clauses that came to have one left
	broken  bool        // a clause has none left
}

// place is a clause in which a literal stands; older is how many places there
// were with the literal's one ahead of it, 0 if it is the first.
type place struct{ clause, older int }

// give lets the given literals come, till the not of one came ahead of it.
func (u *units) give(given []int) bool {
	for _, l := range given {
		if !isLiteral(l, u.vars) {
			continue
		}
		switch u.decided[variable(l)] {
		case 0:
			u.come(l)
		case -l:
			return false
		}
	}
	return true
}

// lay finds which literals the given ones leave of the clause k.
func (u *units) lay(k int) {
	for _, l := range u.clauses[k] {
		if u.decided[variable(l)] != -l {
			u.stand(l, k)
		}
	}
	u.look(k)
}

// stand notes that the literal l stands in the clause k, once even if it stands
// there more often.
func (u *units) stand(l, k int) {
	at := u.newest[u.vars+l]
	if at > 0 && u.places[at-1].clause == k {
		return
	}
	u.places = append(u.places, place{k, at})
	u.newest[u.vars+l] = len(u.places)
	u.left[k]++
}

// look asks whether the clause k has one literal left, or none.
func (u *units) look(k int) {
	switch u.left[k] {
	case 0:
		u.broken = true
	case 1:
		heap.Push(&u.ready, k)
	}
}

// follow lets the one literal come that the clause k has left, unless that came
// already.
func (u *units) follow(k int) {
	for _, l := range u.clauses[k] {
		if u.decided[variable(l)] == 0 {
			u.come(l)
			return
		}
	}
}

// come lets the literal l come.
func (u *units) come(l int) {
	u.decided[variable(l)] = l
	u.came = append(u.came, l)
	for at := u.newest[u.vars-l]; at > 0; at = u.places[at-1].older {
		k := u.places[at-1].clause
		u.left[k]--
		u.look(k)
	}
}

// queue is numbers of clauses, the least one on top.
type queue struct{ sort.IntSlice }

// Push puts a number behind the others.
func (q *queue) Push(k any) { q.IntSlice = append(q.IntSlice, k.(int)) }

// Pop takes away the number behind the others.
func (q *queue) Pop() any {
	last := q.Len() - 1
	k := q.IntSlice[last]
	q.IntSlice = q.IntSlice[:last]
	return k
}
