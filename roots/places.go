package roots

import (
	"iter"
	"slices"

	"dustcart/api"
)

// row returns what the places are that differ from p by their index at most; none, if p has a kind or a mutator that there is not.
func (r *Roots) row(p api.Place) []int {
	switch {
	case p.Kind == api.PlaceSlot && p.Mutator >= 0 && p.Mutator < len(r.slots):
		return r.slots[p.Mutator][:]
	case p.Kind == api.PlaceGlobal && p.Mutator == 0:
		return r.globals[:]
	case p.Kind == api.PlaceQueue && p.Mutator == 0:
		return r.queue
	}
	return nil
}

// firsts returns where each row begins, in order; the queue is among them even if it has no element.
func (r *Roots) firsts() []api.Place {
	var list []api.Place
	for mutator := range r.slots {
		list = append(list, api.Place{Kind: api.PlaceSlot, Mutator: mutator})
	}
	return append(list, api.Place{Kind: api.PlaceGlobal}, api.Place{Kind: api.PlaceQueue})
}

// filled yields all places that are not empty, in order, each with what it is, which may be replaced meanwhile.
func (r *Roots) filled() iter.Seq2[api.Place, *int] {
	return func(yield func(api.Place, *int) bool) {
		for _, p := range r.firsts() {
			row := r.row(p)
			for i := range row {
				p.Index = i
				if row[i] != 0 && !yield(p, &row[i]) {
					return
				}
			}
		}
	}
}

// at returns what a place is, to be read or set; nil, if there is no such place.
func (r *Roots) at(p api.Place) *int {
	row := r.row(p)
	if p.Index < 0 || p.Index >= len(row) {
		return nil
	}
	return &row[p.Index]
}

// Get returns what a place is.
func (r *Roots) Get(p api.Place) (int, api.Errno) {
	if !r.made() {
		return 0, api.ErrState
	}
	at := r.at(p)
	if at == nil {
		return 0, api.ErrArg
	}
	return *at, api.OK
}

// Set lets a place be an address.
func (r *Roots) Set(p api.Place, addr int) api.Errno {
	if !r.made() {
		return api.ErrState
	}
	at := r.at(p)
	if at == nil || addr < 0 || addr == 0 && p.Kind == api.PlaceQueue {
		return api.ErrArg
	}
	*at = addr
	return api.OK
}

// Places returns all places that are not empty, in order.
func (r *Roots) Places() []api.Place {
	if !r.made() {
		return nil
	}
	var list []api.Place
	for p := range r.filled() {
		list = append(list, p)
	}
	return list
}

// Leads returns the different addresses in places, in the order of the first place of each.
func (r *Roots) Leads() []int {
	if !r.made() {
		return nil
	}
	var list []int
	seen := map[int]bool{}
	for _, at := range r.filled() {
		if !seen[*at] {
			seen[*at] = true
			list = append(list, *at)
		}
	}
	return list
}

// Replace replaces addresses by others, all at once, and returns in how many places.
func (r *Roots) Replace(from, to []int) (int, api.Errno) {
	if !r.made() {
		return 0, api.ErrState
	}
	if len(from) != len(to) || !addresses(from) || !addresses(to) || !rising(from) {
		return 0, api.ErrArg
	}
	places := 0
	for _, at := range r.filled() {
		if i, found := slices.BinarySearch(from, *at); found {
			*at = to[i]
			places++
		}
	}
	return places, api.OK
}

// addresses tells whether all numbers of a list are addresses that are not 0.
func addresses(list []int) bool {
	for _, addr := range list {
		if addr <= 0 {
			return false
		}
	}
	return true
}

// rising tells whether each number of a list is greater than the one before it.
func rising(list []int) bool {
	for i := 1; i < len(list); i++ {
		if list[i] <= list[i-1] {
			return false
		}
	}
	return true
}
