package curves

import "congou/api"

// ratio is a Frac to reckon with. All Dens for one t divide the cube of its Den
// times the six differences of knots around its piece; so they and their common
// multiples are below 10^10, and no number here is too great for an int.
type ratio struct{ api.Frac }

// quotient returns num/den in lowest terms, where den is not 0.
func quotient(num, den int) ratio {
	g := gcd(num, den)
	if den < 0 {
		g = -g
	}
	return ratio{api.Frac{Num: num / g, Den: den / g}}
}

func whole(n int) ratio { return quotient(n, 1) }

func (r ratio) plus(s ratio) ratio {
	den := r.Den / gcd(r.Den, s.Den) * s.Den
	return quotient(r.Num*(den/r.Den)+s.Num*(den/s.Den), den)
}

func (r ratio) times(s ratio) ratio {
	return quotient(r.Num*s.Num, r.Den*s.Den)
}

// part returns which part of the way between two numbers leads to r, and 0 if
// there is no way.
func (r ratio) part(from, to int) ratio {
	if from == to {
		return whole(0)
	}
	return quotient(r.Num-from*r.Den, r.Den*(to-from))
}

func fracs(list []ratio) []api.Frac {
	out := make([]api.Frac, len(list))
	for i, r := range list {
		out[i] = r.Frac
	}
	return out
}

// gcd returns the greatest common divisor, without sign.
func gcd(a, b int) int {
	for b != 0 {
		a, b = b, a%b
	}
	return max(a, -a)
}
