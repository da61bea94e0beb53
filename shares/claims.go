package shares

import (
	"cmp"
	"slices"

	"numnah/api"
	"numnah/fraction"
)

// heirs have claims on an estate.
type heirs struct {
	claims      []int
	estate, sum int // the sum is that of the claims
}

func isClaim(c int) bool {
	return c >= 0 && c <= api.MaxClaim
}

// readHeirs reads claims and an estate, and reports whether they are that.
func readHeirs(claims []int, estate int) (*heirs, bool) {
	if len(claims) < 1 || len(claims) > api.MaxHeirs {
		return nil, false
	}
	h := &heirs{claims: claims, estate: estate}
	for _, c := range claims {
		if !isClaim(c) {
			return nil, false
		}
		h.sum += c
	}
	return h, estate >= 0 && estate <= h.sum
}

// rules are the rules by their numbers.
func (h *heirs) rules() map[int]func() []api.Frac {
	return map[int]func() []api.Frac{
		0: h.proportional,
		1: h.equalAwards,
		2: h.equalLosses,
		3: h.talmud,
		4: h.piniles,
	}
}

// level is the award of equal awards for an estate that is at most the sum of the claims. All shares are in parts of one: the number that is returned last tells into how many parts.
func (h *heirs) level(estate int) ([]int, int) {
	// The smallest claims are awarded whole, until what is left for each of the others is at most the smallest one of theirs.
	left, others := estate, len(h.claims)
	for _, c := range sorted(h.claims, cmp.Compare) {
		if c*others >= left {
			break
		}
		left -= c
		others--
	}
	parts := make([]int, len(h.claims))
	for i, c := range h.claims {
		parts[i] = min(c*others, left)
	}
	return parts, others
}

// proportional is the rule 0.
func (h *heirs) proportional() []api.Frac {
	award := make([]api.Frac, len(h.claims))
	for i, c := range h.claims {
		award[i] = fraction.Lowest(c*h.estate, max(1, h.sum))
	}
	return award
}

// equalAwards is the rule 1.
func (h *heirs) equalAwards() []api.Frac {
	parts, unit := h.level(h.estate)
	award := make([]api.Frac, len(parts))
	for i, part := range parts {
		award[i] = fraction.Lowest(part, unit)
	}
	return award
}

// equalLosses is the rule 2: what is missing from the sum of the claims is divided by equal awards, and lost.
func (h *heirs) equalLosses() []api.Frac {
	parts, unit := h.level(h.sum - h.estate)
	award := make([]api.Frac, len(parts))
	for i, part := range parts {
		award[i] = fraction.Lowest(h.claims[i]*unit-part, unit)
	}
	return award
}

// halves is an award of equal awards for the claims divided by 2. The estate is twice what is divided, so that the parts, with the claims as they are, are halves.
func (h *heirs) halves(estate int) []api.Frac {
	parts, unit := h.level(estate)
	award := make([]api.Frac, len(parts))
	for i, part := range parts {
		award[i] = fraction.Lowest(part, 2*unit)
	}
	return award
}

// talmud is the rule 3.
func (h *heirs) talmud() []api.Frac {
	if 2*h.estate <= h.sum {
		return h.halves(2 * h.estate)
	}
	award := h.halves(2 * (h.sum - h.estate))
	for i, c := range h.claims {
		award[i] = fraction.Difference(fraction.Whole(c), award[i])
	}
	return award
}

// piniles is the rule 4.
func (h *heirs) piniles() []api.Frac {
	if 2*h.estate <= h.sum {
		return h.halves(2 * h.estate)
	}
	award := h.halves(2*h.estate - h.sum)
	for i, c := range h.claims {
		award[i] = fraction.Sum(fraction.Lowest(c, 2), award[i])
	}
	return award
}

// Award returns the award of a rule.
func Award(rule int, claims []int, estate int) ([]api.Frac, api.Errno) {
	h, ok := readHeirs(claims, estate)
	if !ok {
		return nil, api.ErrArg
	}
	award, ok := h.rules()[rule]
	if !ok {
		return nil, api.ErrArg
	}
	return award(), api.OK
}

// Right returns OK if the award is that of the rule.
func Right(rule int, claims []int, estate int, award []api.Frac) api.Errno {
	right, err := Award(rule, claims, estate)
	if err != api.OK {
		return err
	}
	if !slices.Equal(right, award) {
		return api.ErrAnswer
	}
	return api.OK
}
