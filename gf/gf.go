// Package gf is layer 1: the field of 256 elements.
package gf

import "buttress/api"

const (
	// modulus is x^8 + x^4 + x^3 + x^2 + 1 without x^8, which falls off a byte's end by itself.
	modulus = 0x1d

	// order is how many elements there are but 0: 2 is a power of itself again after so many steps.
	order = 255
)

// Mul is the product of a and b as polynomials, modulo that of the field.
func Mul(a byte, b byte) byte {
	var product byte
	for b != 0 {
		if b&1 != 0 {
			product ^= a
		}
		a = double(a)
		b >>= 1
	}
	return product
}

// Div is the element whose product with b is a; ErrZero if b is 0.
func Div(a byte, b byte) (byte, api.Errno) {
	if b == 0 {
		return 0, api.ErrZero
	}
	return Mul(a, Pow(b, -1)), api.OK
}

// Pow is a times itself n times; below 0 the power of what 1 divided by a is, or 0 where a is 0.
func Pow(a byte, n int) byte {
	switch {
	case n == 0:
		return 1
	case a == 0:
		return 0
	}
	list := powers()
	return list[find(list, a)*rest(n)%order]
}

// Exp is the power of 2 by n.
func Exp(n int) byte {
	return powers()[rest(n)]
}

// Log is the least number from 0 on whose Exp is a; ErrZero if a is 0.
func Log(a byte) (int, api.Errno) {
	if a == 0 {
		return 0, api.ErrZero
	}
	return find(powers(), a), api.OK
}

// Eval is the value at x of the polynomial with the coefficients p, that of the highest power first.
func Eval(p []byte, x byte) byte {
	var value byte
	for _, c := range p {
		value = Mul(value, x) ^ c
	}
	return value
}

// Mix is out with c times in added to it, place by place, as new memory; ErrArg if they are not equally long.
func Mix(out []byte, in []byte, c byte) ([]byte, api.Errno) {
	if len(out) != len(in) {
		return nil, api.ErrArg
	}
	sum := make([]byte, len(out))
	for i := range sum {
		sum[i] = out[i] ^ Mul(in[i], c)
	}
	return sum, api.OK
}

// double is a times 2. The bit that falls off chooses the modulus by a product, not by a branch: in long lists of bytes a branch there costs most of the time.
func double(a byte) byte {
	return a<<1 ^ a>>7*modulus
}

// powers are those of 2 from 0 on, up to where they begin anew: each element but 0 stands there once.
func powers() [order]byte {
	var list [order]byte
	power := byte(1)
	for n := range order {
		list[n] = power
		power = double(power)
	}
	return list
}

// find is the place of a, which is not 0, among the powers of 2.
func find(list [order]byte, a byte) int {
	for n := range order {
		if list[n] == a {
			return n
		}
	}
	return 0
}

// rest is what n leaves modulo order, from 0 on. It never takes -n, which the least int does not have.
func rest(n int) int {
	return (n%order + order) % order
}
