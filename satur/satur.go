// Package satur is layer 1: counts that never wrap: see shared/doc/01-satur.md.
package satur

import (
	"math/bits"

	"ostiary/api"
)

// Cut cuts a number to a count.
func Cut(n int) int { return cut(n) }

// Add tells the sum of two counts: both are cut first, so that it fits an int.
func Add(a, b int) int { return cut(cut(a) + cut(b)) }

// Sub tells the difference of two counts, nothing where b is more than a.
func Sub(a, b int) int { return cut(cut(a) - cut(b)) }

// Mul tells the product of two counts.
func Mul(a, b int) int { return Scale(a, b, 1) }

// Div tells how often b goes into a: the most, if b is 0, but 0 of a 0.
func Div(a, b int) int { return Scale(a, 1, b) }

// Scale tells how often den goes into the product of n and num, which may be greater than a word.
func Scale(n, num, den int) int {
	hi, lo := bits.Mul64(word(n), word(num))
	d := word(den)
	if hi|lo == 0 {
		return 0
	}
	// Here Div64 would panic: den is 0, or goes in more often than a word tells.
	if hi >= d {
		return api.MaxCount
	}
	times, _ := bits.Div64(hi, lo, d)
	return cut(times)
}

// Sum tells what counts are together.
func Sum(l []int) int {
	sum := 0
	for _, n := range l {
		sum = Add(sum, n)
	}
	return sum
}

// cut is the one place where numbers are cut. It takes words too, since one of 2^63 or more would be below 0 as an int.
func cut[N int | uint64](n N) int { return int(max(0, min(n, api.MaxCount))) }

// word tells a number, cut, as a word.
func word(n int) uint64 { return uint64(cut(n)) }
