package radio

import "math"

// times is a product of signals by their parts. A product and a sum might be rounded at once; a conversion keeps them apart.
func times(p, q complex128) complex128 {
	a, b := real(p), imag(p)
	c, d := real(q), imag(q)
	return complex(float64(a*c)-float64(b*d), float64(a*d)+float64(b*c))
}

// Mix is the product of signals.
func Mix(l []complex128) complex128 {
	product := complex(1, 0)
	for _, z := range l {
		product = times(product, z)
	}
	return product
}

// Power is a signal's.
func Power(z complex128) float64 {
	a, b := real(z), imag(z)
	return float64(a*a) + float64(b*b)
}

// Turned is a signal behind quarter turns to the left, or, below 0, to the right.
func Turned(z complex128, quarters int) complex128 {
	// The two last bits are what is left of whole turns, below 0 too.
	for range quarters & 3 {
		z = complex(-imag(z), real(z))
	}
	return z
}

// Strong is the strongest of some readings, and where it stands first.
func Strong(l []int8) (int8, int) {
	strongest, at := int8(math.MinInt8), -1
	for i, reading := range l {
		if at < 0 || reading > strongest {
			strongest, at = reading, i
		}
	}
	return strongest, at
}
