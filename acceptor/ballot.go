package acceptor

import (
	"carillon/api"
)

// great is the greatest Round.
const great = 1<<53 - 1

// numbers are a ballot's Round and Node: the first ones that are not the same tell which ballot is less.
type numbers [2]int

func numbersOf(b api.Ballot) numbers {
	return numbers{b.Round, b.Node}
}

func (x numbers) ahead(y numbers) bool {
	for i := range x {
		if x[i] != y[i] {
			return x[i] < y[i]
		}
	}
	return false
}

func same(a, b api.Ballot) bool {
	return numbersOf(a) == numbersOf(b)
}

func isNone(b api.Ballot) bool {
	return numbersOf(b) == numbers{}
}

func isRightOrNone(b api.Ballot) bool {
	return Right(b) || isNone(b)
}
