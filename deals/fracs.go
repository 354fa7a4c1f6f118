package deals

import "congou/api"

// quotient returns num/den in lowest terms, where den is above 0. No product here
// is too great for an int: Dens are at most 12^8 in steps and below 10^7 in
// deals, and the values below 2000.
func quotient(num, den int) api.Frac {
	g := gcd(num, den)
	return api.Frac{Num: num / g, Den: den / g}
}

func whole(n int) api.Frac { return quotient(n, 1) }

func plus(f, g api.Frac) api.Frac { return quotient(f.Num*g.Den+g.Num*f.Den, f.Den*g.Den) }

func times(f, g api.Frac) api.Frac { return quotient(f.Num*g.Num, f.Den*g.Den) }

func compare(f, g api.Frac) int { return f.Num*g.Den - g.Num*f.Den }

// gcd returns the greatest common divisor, without sign.
func gcd(a, b int) int {
	for b != 0 {
		a, b = b, a%b
	}
	return max(a, -a)
}
