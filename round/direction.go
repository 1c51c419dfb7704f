package round

import (
	"soroban/api"
	"soroban/guard"
)

// loss is what a number loses of its magnitude: how it compares with a half of the last digit that stays, and whether this digit is odd.
type loss struct {
	half int
	odd  bool
}

// direction reports whether a number with a sign that loses something goes away from 0.
type direction func(negative bool, l loss) bool

// directions returns the directions by their numbers.
func directions() map[int]direction {
	return map[int]direction{
		api.RdEven: func(_ bool, l loss) bool { return l.half > 0 || l.half == 0 && l.odd },
		api.RdAway: func(_ bool, l loss) bool { return l.half >= 0 },
		api.RdZero: func(bool, loss) bool { return false },
		api.RdUp:   func(negative bool, _ loss) bool { return !negative },
		api.RdDown: func(negative bool, _ loss) bool { return negative },
	}
}

// directionOf returns a direction; if there is no such one, the call ends with ErrArg.
func directionOf(dir int) direction {
	away, ok := directions()[dir]
	guard.Must(ok, api.ErrArg)
	return away
}
