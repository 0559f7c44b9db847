package panel

import "icehall/api"

// bias returns how much a judge favours the own club, and whether there is anything to compare.
func bias(m api.Marks, judge int) (ratio, bool) {
	if len(m.Judges) < 2 {
		return ratio{}, false
	}
	var own, others []ratio
	for i, club := range m.Skaters {
		if club == m.Judges[judge] {
			own = append(own, excess(m.Marks[i], judge))
		} else {
			others = append(others, excess(m.Marks[i], judge))
		}
	}
	if len(own) == 0 || len(others) == 0 {
		return ratio{}, false
	}
	return mean(own).minus(mean(others)), true
}

// excess returns a judge's mark less the mean of the marks of the others, of whom there is one at least.
func excess(marks []int, judge int) ratio {
	var others []ratio
	for i, mark := range marks {
		if i != judge {
			others = append(others, whole(mark))
		}
	}
	return whole(marks[judge]).minus(mean(others))
}
