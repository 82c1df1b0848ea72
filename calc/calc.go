// Package calc: sums of any number of things (chapter 1).
package calc

import (
	"slices"

	"latchkey/api"
)

// Kinds.
const (
	Add   = 0
	Sub   = 1
	Mul   = 2
	Less  = 3
	Equal = 4
	And   = 5
	Or    = 6
	Max   = 7
	Min   = 8
)

// Eval reckons l by kind (P1.1). Max and Min of no numbers, and what is no
// kind, are ErrRange.
func Eval(kind int, l ...int) (int, api.Errno) {
	switch kind {
	case Add:
		return sum(l...), api.OK
	case Sub:
		return difference(l...), api.OK
	case Mul:
		return product(l...), api.OK
	case Less:
		return truth(rising(l...)), api.OK
	case Equal:
		return truth(alike(l...)), api.OK
	case And:
		return commonBits(l...), api.OK
	case Or:
		return anyBits(l...), api.OK
	case Max, Min:
		return extreme(kind, l...)
	}
	return 0, api.ErrRange
}

// Known says whether kind is one of the kinds.
func Known(kind int) bool {
	return kind >= Add && kind <= Min
}

// Wrap answers n modulo m, 0 to m - 1; 0 if m is below 1.
func Wrap(n, m int) int {
	if m < 1 {
		return 0
	}
	rest := n % m
	if rest < 0 {
		// Go's rest has the sign of n; it is above -m, so this can't run round.
		rest += m
	}
	return rest
}

func sum(l ...int) int {
	total := 0
	for _, n := range l {
		total += n
	}
	return total
}

func difference(l ...int) int {
	if len(l) == 0 {
		return 0
	}
	return l[0] - sum(l[1:]...)
}

func product(l ...int) int {
	total := 1
	for _, n := range l {
		total *= n
	}
	return total
}

func rising(l ...int) bool {
	for i := 1; i < len(l); i++ {
		if l[i-1] >= l[i] {
			return false
		}
	}
	return true
}

func alike(l ...int) bool {
	for _, n := range l {
		if n != l[0] {
			return false
		}
	}
	return true
}

func commonBits(l ...int) int {
	// All bits set, so that the first number alone decides what is left.
	bits := -1
	for _, n := range l {
		bits &= n
	}
	return bits
}

func anyBits(l ...int) int {
	bits := 0
	for _, n := range l {
		bits |= n
	}
	return bits
}

func extreme(kind int, l ...int) (int, api.Errno) {
	if len(l) == 0 {
		return 0, api.ErrRange
	}
	if kind == Max {
		return slices.Max(l), api.OK
	}
	return slices.Min(l), api.OK
}

func truth(holds bool) int {
	if holds {
		return 1
	}
	return 0
}
