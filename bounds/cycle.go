package bounds

import "latecomer/api"

// firstCycle returns the first cycle of l with a negative sum.
func firstCycle(l []api.Constraint) []int {
	steps := stepsOf(l)
	walks := shortWalks(steps.lengthen)
	var cycle []int
	var start, at, sum int
	// No walk that leads back with a negative sum has fewer constraints than the one that is sought here. So it goes through no variable twice; and wherever it might begin, the first one begins with its smallest index.
search:
	for rest := len(walks) - 2; rest >= 0; rest-- {
		for i, c := range l {
			if len(cycle) == 0 {
				start, at = c.From, c.From
			}
			if c.From == at && sum+c.Most+walks[rest][c.To][start] < 0 {
				cycle = append(cycle, i)
				at, sum = c.To, sum+c.Most
				continue search
			}
		}
	}
	return cycle
}

// shortWalks returns the least sums of the walks of at most no constraint, one constraint, two constraints and so on, up to where one leads back with a negative sum.
func shortWalks(lengthen func(matrix) matrix) []matrix {
	walks := []matrix{free()}
	for k := range api.MaxVars {
		walks = append(walks, lengthen(walks[k]))
		if walks[k+1].isContradictory() {
			break
		}
	}
	return walks
}

// lengthen returns the least sums of walks that may go on where those of walks end, by one of the steps.
func (steps *matrix) lengthen(walks matrix) matrix {
	longer := free()
	for i := range walks {
		for k, sum := range walks[i] {
			if sum != api.NoBound {
				longer[i].extend(sum, &steps[k])
			}
		}
	}
	return longer
}
