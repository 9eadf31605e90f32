package num

import (
	"math/bits"
)

// wide is a whole number of 128 bits, its upper and its lower half; what is below 0 stands as two's complement has it.
type wide [2]uint64

// The places of a wide number's halves.
const (
	high = iota
	low
)

func product(a, b int64) wide {
	h, l := bits.Mul64(magnitude(a), magnitude(b))
	w := wide{h, l}
	if (a < 0) != (b < 0) {
		return w.negated()
	}
	return w
}

// magnitude is a number without its sign; the least one is turned about modulo 2^64, which is right without a sign.
func magnitude(n int64) uint64 {
	if n < 0 {
		return -uint64(n)
	}
	return uint64(n)
}

// ten is ten to the power of n.
func ten(n int) int64 {
	power := int64(1)
	for range n {
		power *= 10
	}
	return power
}

func (w wide) negative() bool { return w[high]>>63 == 1 }

func (w wide) negated() wide {
	return wide{^w[high], ^w[low]}.plus(wide{0, 1})
}

func (w wide) size() wide {
	if w.negative() {
		return w.negated()
	}
	return w
}

func (w wide) plus(v wide) wide {
	l, carry := bits.Add64(w[low], v[low], 0)
	h, _ := bits.Add64(w[high], v[high], carry)
	return wide{h, l}
}

// over is what a wide number without a sign is, divided by d, and what is left.
func (w wide) over(d uint64) (wide, uint64) {
	h, rest := w[high]/d, w[high]%d
	l, rest := bits.Div64(rest, w[low], d)
	return wide{h, l}, rest
}
