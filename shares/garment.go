package shares

import (
	"numnah/api"
	"numnah/fraction"
)

// contested divides what is claimed twice by the contested garment. The estate and the claims are in parts of one, of which unit are one.
func contested(estate, a, b, unit int) (api.Frac, api.Frac) {
	first, second := max(0, estate-b), max(0, estate-a)
	left := estate - first - second
	return fraction.Lowest(2*first+left, 2*unit), fraction.Lowest(2*second+left, 2*unit)
}

// isAward reports whether a list is an award for the heirs, of shares that can be compared.
func (h *heirs) isAward(award []api.Frac) bool {
	if len(award) != len(h.claims) {
		return false
	}
	total := fraction.Whole(0)
	for i, share := range award {
		if !fraction.IsValid(share) || share.Den > api.MaxShare || share.Num < 0 || share.Num > h.claims[i]*share.Den {
			return false
		}
		total = fraction.Sum(total, share)
	}
	return total == fraction.Whole(h.estate)
}

// agree reports whether two shares of an award are what the contested garment gives for their sum.
func (h *heirs) agree(award []api.Frac, i, j int) bool {
	f, g := award[i], award[j]
	unit := f.Den * g.Den
	first, second := contested(f.Num*g.Den+g.Num*f.Den, h.claims[i]*unit, h.claims[j]*unit, unit)
	return first == f && second == g
}

// Garment returns the award of two claims by the contested garment.
func Garment(estate int, a, b int) (api.Frac, api.Frac, api.Errno) {
	if _, ok := readHeirs([]int{a, b}, estate); !ok {
		return api.Frac{}, api.Frac{}, api.ErrArg
	}
	first, second := contested(estate, a, b, 1)
	return first, second, api.OK
}

// Agrees returns the lexicographically smallest two positions whose shares are not what the contested garment gives for them, and whether there are none.
func Agrees(claims []int, estate int, award []api.Frac) ([2]int, bool, api.Errno) {
	h, ok := readHeirs(claims, estate)
	if !ok {
		return [2]int{}, false, api.ErrArg
	}
	if !h.isAward(award) {
		return [2]int{}, false, api.ErrAnswer
	}
	for i := range award {
		for j := i + 1; j < len(award); j++ {
			if !h.agree(award, i, j) {
				return [2]int{i, j}, false, api.OK
			}
		}
	}
	return [2]int{}, true, api.OK
}
