package fold

import (
	"math/big"
	"math/rand"
	"slices"
	"testing"

	"daybook/api"
)

// expectTotal asks for a sum, or for an error.
func expectTotal(t *testing.T, l []api.Value, want api.Value, wantE api.Errno) {
	t.Helper()
	if got, e := Total(l); got != want || e != wantE {
		t.Errorf("Total(%v) of %d = %v, %v, want %v, %v", some(l), len(l), got, e, want, wantE)
	}
}

func TestTotal(t *testing.T) {
	for _, x := range []struct {
		l    []int64
		want int64
	}{
		{nil, 0},
		{[]int64{}, 0},
		{[]int64{0}, 0},
		{[]int64{7}, 7},
		{[]int64{-7}, -7},
		{[]int64{7, -7}, 0},
		{[]int64{1, 2, 3, 3}, 9},
		{[]int64{-1, 1}, 0},
		{[]int64{-1, -1, 1}, -1},
		{[]int64{most}, most},
		{[]int64{least}, least},
		{[]int64{most, 1, -1}, most},
		{[]int64{-1, most, 1}, most},
		{[]int64{most, most, -most}, most},
		{[]int64{least, -1, 1}, least},
		{[]int64{least, least, most, 1}, least},
		{[]int64{least, least, most, most, 2}, 0},
		{[]int64{most, least}, -1},
		{[]int64{most, most, least, least}, -2},
		{[]int64{most, most, most, least, least, -1}, most - 3},
		{[]int64{1 << 62, 1 << 62, -1}, most},
		{[]int64{-1 << 62, -1 << 62}, least},
	} {
		l := ints(x.l...)
		expectTotal(t, l, number(x.want), api.OK)
		slices.Reverse(l)
		expectTotal(t, l, number(x.want), api.OK)
	}
}

func TestTotalThatIsNone(t *testing.T) {
	for _, l := range [][]int64{
		{most, 1}, {1, most}, {least, -1}, {most, most}, {least, least}, {1 << 62, 1 << 62}, {-1 << 62, -1 << 62, -1},
		{most, most, most, most}, {least, least, least}, {most, most, -most, 1}, {least, least, most},
		// Whose last 64 bits alone are a number.
		{most, most, 2}, {most, most, 3}, {least, least, 5}, {least, least, -5},
		slices.Repeat([]int64{1 << 62}, 4), slices.Repeat([]int64{-1 << 62}, 8), slices.Repeat([]int64{most}, 1000), slices.Repeat([]int64{least}, 1000),
	} {
		expectTotal(t, ints(l...), api.Value{}, api.ErrFold)
	}
}

func TestTotalOfOthers(t *testing.T) {
	others := append(list(`true false "" "1" # #01 @1 !1 :a`), api.Value{}, api.Value{N: 1}, api.Value{Kind: 9, N: 1}, api.Value{Kind: -1, N: 1})
	for _, v := range others {
		for at := range 4 {
			expectTotal(t, slices.Insert(ints(1, 2, 3), at, v), api.Value{}, api.ErrFold)
		}
		expectTotal(t, []api.Value{v}, api.Value{}, api.ErrFold)
		expectTotal(t, append(ints(most, 1), v), api.Value{}, api.ErrFold)
	}
	expectTotal(t, []api.Value{{Kind: api.KInt, N: 5, S: "a"}, number(1)}, number(6), api.OK)
}

// Very many numbers, whose sum is far off on the way.
func TestTotalFarOff(t *testing.T) {
	const times = 1 << 19
	l := slices.Concat(slices.Repeat(ints(most), times), slices.Repeat(ints(-most), times))
	expectTotal(t, l, number(0), api.OK)
	expectTotal(t, append(l, number(least)), number(least), api.OK)
	expectTotal(t, append(l, number(least), number(-1)), api.Value{}, api.ErrFold)
	expectTotal(t, append(l, number(most), number(1)), api.Value{}, api.ErrFold)
	slices.Reverse(l)
	expectTotal(t, append(l, number(most)), number(most), api.OK)
}

// drawnNumber is any number, one near an edge, or a small one.
func drawnNumber(r *rand.Rand) int64 {
	switch r.Intn(4) {
	case 0:
		return int64(r.Uint64())
	case 1:
		return most - int64(r.Intn(3))
	case 2:
		return least + int64(r.Intn(3))
	}
	return int64(r.Intn(5)) - 2
}

// modelTotal goes by numbers without an end.
func modelTotal(l []api.Value) (api.Value, api.Errno) {
	sum := new(big.Int)
	for _, v := range l {
		if v.Kind != api.KInt {
			return api.Value{}, api.ErrFold
		}
		sum.Add(sum, big.NewInt(v.N))
	}
	if !sum.IsInt64() {
		return api.Value{}, api.ErrFold
	}
	return number(sum.Int64()), api.OK
}

// In which order values are summed makes no difference.
func TestTotalAsTheModel(t *testing.T) {
	r := rand.New(rand.NewSource(1))
	var sums int
	for range 50000 {
		var l []api.Value
		for range r.Intn(8) {
			l = append(l, number(drawnNumber(r)))
		}
		want, wantE := modelTotal(l)
		if wantE == api.OK {
			sums++
		}
		for range 3 {
			expectTotal(t, l, want, wantE)
			r.Shuffle(len(l), func(i, j int) { l[i], l[j] = l[j], l[i] })
		}
	}
	if sums < 10000 || sums > 40000 {
		t.Errorf("%d sums of 50000 are numbers", sums)
	}
}
