package fold

import (
	"math/bits"

	"daybook/api"
)

// Total is the sum of values.
func Total(l []api.Value) (api.Value, api.Errno) {
	var sum wide
	for _, v := range l {
		if v.Kind != api.KInt {
			return api.Value{}, api.ErrFold
		}
		sum = sum.plus(v.N)
	}
	n, is := sum.narrow()
	if !is {
		return api.Value{}, api.ErrFold
	}
	return number(n), api.OK
}

// wide is a number's lower half and its upper one, which has the sign: on its way a sum may be greater than a number.
type wide [2]uint64

func (w wide) plus(n int64) wide {
	lower, carry := bits.Add64(w[0], uint64(n), 0)
	upper, _ := bits.Add64(w[1], uint64(n>>63), carry)
	return wide{lower, upper}
}

// narrow is it in one word; false, if it has no room there: if the upper half is more than the sign of the lower one.
func (w wide) narrow() (int64, bool) {
	n := int64(w[0])
	return n, w[1] == uint64(n>>63)
}
