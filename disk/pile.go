package disk

// pile is the picks that were not asked for yet.
type pile []int

// next is the next pick; one that is missing, or below 0, is 0.
func (p *pile) next() int {
	if len(*p) == 0 {
		return 0
	}
	pick := (*p)[0]
	*p = (*p)[1:]
	return max(pick, 0)
}
