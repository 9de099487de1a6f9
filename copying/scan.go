package copying

import "dustcart/api"

// The orders in which objects are scanned.
const (
	oldestFirst = 0
	newestFirst = 1
)

// toScan is the objects that are left to be scanned: a run of a list, which loses elements at its beginning or at its end.
type toScan struct {
	api.Run
	list []int
}

func (s *toScan) add(addr int) {
	s.list = append(s.list[:s.Start+s.Size], addr)
	s.Size++
}

func (s *toScan) remove(order int) int {
	s.Size--
	if order == newestFirst {
		return s.list[s.Start+s.Size]
	}
	s.Start++
	return s.list[s.Start-1]
}
