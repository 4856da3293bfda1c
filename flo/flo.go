// Package flo: numbers with a point, to their edges: see DOC.md, chapter 1.
package flo

import (
	"math"
	"strconv"
	"strings"
)

// The classes, in the document's numbering.
const (
	noNumber = iota
	lowEnd
	belowNought
	lowNought
	highNought
	aboveNought
	highEnd
)

const (
	signBit = 1 << 63
	// lastKey is above the key of +Inf, so that no number comes last of all.
	lastKey = math.MaxUint64
	// digits is how many base 16 digits 64 bits have.
	digits = 16
)

// Class tells a number's class.
func Class(x float64) int {
	switch {
	case math.IsNaN(x):
		return noNumber
	case math.IsInf(x, -1):
		return lowEnd
	case math.IsInf(x, 1):
		return highEnd
	case x < 0:
		return belowNought
	case x > 0:
		return aboveNought
	case math.Signbit(x):
		return lowNought
	}
	return highNought
}

// Key tells a number's place among all.
func Key(x float64) uint64 {
	if Class(x) == noNumber {
		return lastKey
	}
	bits := math.Float64bits(x)
	if bits&signBit == 0 {
		return bits | signBit
	}
	// Below nought the greater bits are the lesser number: turned, they rise.
	return ^bits
}

// Of tells the number of a key.
func Of(key uint64) (float64, bool) {
	if key == lastKey {
		return math.NaN(), true
	}
	bits := ^key
	if key&signBit != 0 {
		bits = key &^ signBit
	}
	x := math.Float64frombits(bits)
	// All that are no number share the last key, so their own bits give none.
	if Class(x) == noNumber {
		return 0, false
	}
	return x, true
}

// Cmp puts two in order.
func Cmp(a, b float64) int {
	k, l := Key(a), Key(b)
	switch {
	case k < l:
		return -1
	case k > l:
		return 1
	}
	return 0
}

// Min tells the least.
func Min(l ...float64) float64 {
	least := math.Inf(1)
	for _, x := range l {
		if Class(x) == noNumber {
			return math.NaN()
		}
		if Cmp(x, least) < 0 {
			least = x
		}
	}
	return least
}

// Max tells the greatest.
func Max(l ...float64) float64 {
	most := math.Inf(-1)
	for _, x := range l {
		if Class(x) == noNumber {
			return math.NaN()
		}
		if Cmp(x, most) > 0 {
			most = x
		}
	}
	return most
}

// Same tells whether two are one.
func Same(a, b float64) bool {
	return Cmp(a, b) == 0
}

// Show writes a number.
func Show(x float64) string {
	switch Class(x) {
	case noNumber:
		return "nan"
	case lowEnd:
		return "-inf"
	case highEnd:
		return "inf"
	}
	s := strconv.FormatUint(math.Float64bits(x), 16)
	return strings.Repeat("0", digits-len(s)) + s
}

// Parse reads one.
func Parse(s string) (float64, bool) {
	switch s {
	case "nan":
		return math.NaN(), true
	case "inf":
		return math.Inf(1), true
	case "-inf":
		return math.Inf(-1), true
	}
	if len(s) != digits {
		return 0, false
	}
	bits, err := strconv.ParseUint(s, 16, 64)
	if err != nil {
		return 0, false
	}
	x := math.Float64frombits(bits)
	// Great letters, and the bits of an Inf or of no number, are Show of none.
	if Show(x) != s {
		return 0, false
	}
	return x, true
}
