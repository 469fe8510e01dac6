package queue

import (
	"cmp"
	"container/heap"

	"reveille/api"
)

// timer is a timer, and when it was set: as the how-manieth.
type timer struct {
	api.Timer
	turn int
}

// line is timers in a heap of the library, the next one first.
type line interface {
	heap.Interface
	first() timer // there must be one
}

// due is the next timer of a line, if its time is at most now.
func due(l line, now int) (api.Timer, bool) {
	if l.Len() == 0 || l.first().At > now {
		return api.Timer{}, false
	}
	return l.first().Timer, true
}

// pop takes that timer away.
func pop(l line, now int) (api.Timer, bool) {
	t, ok := due(l, now)
	if ok {
		heap.Pop(l)
	}
	return t, ok
}

// row is a line of timers alone.
type row []timer

func (r *row) first() timer { return (*r)[0] }

// Len, Less, Swap, Push and Pop are for the library's heap.
func (r *row) Len() int { return len(*r) }

func (r *row) Less(i, j int) bool {
	a, b := (*r)[i], (*r)[j]
	return cmp.Or(cmp.Compare(a.At, b.At), cmp.Compare(a.turn, b.turn)) < 0
}

func (r *row) Swap(i, j int) { (*r)[i], (*r)[j] = (*r)[j], (*r)[i] }

func (r *row) Push(x any) { *r = append(*r, x.(timer)) }

func (r *row) Pop() any {
	last := len(*r) - 1
	t := (*r)[last]
	*r = (*r)[:last]
	return t
}

// placedRow is a line in which timers are found by their Ids.
type placedRow struct {
	row
	places map[int]int
}

// Swap, Push and Pop are a row's, and keep the places.
func (p *placedRow) Swap(i, j int) {
	p.row.Swap(i, j)
	p.places[p.row[i].Id], p.places[p.row[j].Id] = i, j
}

func (p *placedRow) Push(x any) {
	p.places[x.(timer).Id] = p.Len()
	p.row.Push(x)
}

func (p *placedRow) Pop() any {
	t := p.row.Pop().(timer)
	delete(p.places, t.Id)
	return t
}
