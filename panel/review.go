package panel

// review returns what a call is behind votes, and whether they changed it.
func review(call int, votes []int) (now int, upheld bool) {
	count := map[int]int{}
	for _, vote := range votes {
		count[vote]++
	}
	// Only one number can have more than half, so it makes no difference in which order they are looked at.
	for vote, n := range count {
		if 2*n > len(votes) && vote != call {
			return vote, true
		}
	}
	return call, false
}
