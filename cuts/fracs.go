package cuts

import "congou/api"

// isFrac reports whether f is a valid Frac from low to high with a Den up to
// maxDen, all of them small.
func isFrac(f api.Frac, low, high, maxDen int) bool {
	if f.Den < 1 || f.Den > maxDen {
		return false
	}
	return allWithin(low*f.Den, high*f.Den, f.Num) && gcd(f.Num, f.Den) == 1
}

// fraction returns num/den in lowest terms, where den is not 0.
func fraction(num, den int) api.Frac {
	g := gcd(num, den)
	if den < 0 {
		g = -g
	}
	return api.Frac{Num: num / g, Den: den / g}
}

func compare(a, b api.Frac) int { return a.Num*b.Den - b.Num*a.Den }

// gcd returns the greatest common divisor, without sign.
func gcd(a, b int) int {
	for b != 0 {
		a, b = b, a%b
	}
	return max(a, -a)
}

// floor returns num/den rounded down, where den is above 0.
func floor(num, den int) int {
	if num%den < 0 {
		return num/den - 1
	}
	return num / den
}
