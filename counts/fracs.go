package counts

import "congou/api"

// quotient returns num/den in lowest terms, where den is above 0. No product
// here is too great for an int: chances are of numbers up to 3^16, and the Dens
// of what is off divide the sum of all times the product of all other sums.
func quotient(num, den int) api.Frac {
	g := gcd(num, den)
	return api.Frac{Num: num / g, Den: den / g}
}

func plus(f, g api.Frac) api.Frac { return quotient(f.Num*g.Den+g.Num*f.Den, f.Den*g.Den) }

// gcd returns the greatest common divisor of numbers from 0 on, not both 0.
func gcd(a, b int) int {
	for b != 0 {
		a, b = b, a%b
	}
	return a
}
