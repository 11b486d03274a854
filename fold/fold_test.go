package fold

import (
	"slices"
	"strings"
	"testing"

	"daybook/api"
	"daybook/rows"
)

func TestExamplesOfTheChapter(t *testing.T) {
	r := rel("x n", `"a" 1`, `"a" 5`, `"b" 2`)
	x := []string{"x"}
	expect(t, r, x, asks("count - c, sum n s, least n m"), rel("x c s m", `"a" 2 6 1`, `"b" 1 2 2`), api.OK)
	expect(t, r, nil, asks("distinct x d"), rel("d", "2"), api.OK)
	expect(t, r, nil, asks("sum x s"), rows.Rel{}, api.ErrFold)
	expect(t, rel("x n"), nil, asks("sum x s"), rel("s"), api.OK)
	expect(t, r, x, asks("count - x"), rows.Rel{}, api.ErrArg)
	expect(t, r, x, asks("count n c"), rows.Rel{}, api.ErrArg)
}

func TestOperations(t *testing.T) {
	if Count != 1 || Distinct != 2 || Sum != 3 || Least != 4 || Greatest != 5 {
		t.Error("operations have other numbers")
	}
	r := rel("x y", "1 5", "1 6", "2 -9", "2 5", "2 7", "3 0")
	all := "count - c, distinct y d, sum y s, least y l, greatest y g"
	expect(t, r, []string{"x"}, asks(all), rel("x c d s l g", "1 2 2 11 5 6", "2 3 3 3 -9 7", "3 1 1 0 0 0"), api.OK)
	expect(t, r, nil, asks(all), rel("c d s l g", "6 5 14 -9 7"), api.OK)
	// What a group is made by is told, too: of each row, and as it is.
	expect(t, r, []string{"x"}, asks("greatest x g, least x l, sum x s, distinct x d"), rel("x g l s d", "1 1 1 2 1", "2 2 2 6 1", "3 3 3 3 1"), api.OK)
	// One column is told of many times, in the order that is asked for.
	expect(t, r, nil, asks("greatest y c, greatest y b, sum x a, greatest x d, greatest y e"), rel("c b a d e", "7 7 11 3 7"), api.OK)
}

// The least and the greatest value are those of the order of values, whatever they are.
func TestLeastAndGreatest(t *testing.T) {
	values := list(`-9223372036854775808 -1 0 9223372036854775807 false true "" "\00" "B" "a" "aa" # #00 #ff @0 @9007199254740991 !-5 !5 :a :b`)
	for i := range values {
		for j := range i + 1 {
			r := rows.Rel{Cols: []string{"x"}}
			for _, v := range values[j : i+1] {
				r.Rows = append(r.Rows, api.Row{v})
			}
			want := rows.Rel{Cols: []string{"l", "g", "d"}, Rows: []api.Row{{values[j], values[i], number(int64(i - j + 1))}}}
			expect(t, r, nil, asks("least x l, greatest x g, distinct x d"), want, api.OK)
		}
	}
	// In the second column they do not stand in order.
	r := rel("x y", `1 "b"`, `2 !5`, `3 -7`, `4 "a"`, `5 :z`, `6 false`)
	expect(t, r, nil, asks("least y l, greatest y g"), rel("l g", "-7 :z"), api.OK)
}

// Values are unlike, if their kind, number or bytes are; also those that may not be.
func TestDistinct(t *testing.T) {
	r := rows.Rel{Cols: []string{"x", "y"}}
	odd := []api.Value{{}, number(5), {Kind: api.KInt, N: 5, S: "a"}, {Kind: api.KTime, N: 5}, {Kind: 99, S: "a"}, {Kind: -1}}
	for i := range int64(60) {
		r.Rows = append(r.Rows, api.Row{number(i), odd[i%6]})
	}
	expect(t, r, nil, asks("distinct y d, distinct x e, count - c"), rel("d e c", "6 60 60"), api.OK)
	want := rows.Rel{Cols: []string{"l", "g"}, Rows: []api.Row{{{Kind: -1}, {Kind: 99, S: "a"}}}}
	expect(t, r, nil, asks("least y l, greatest y g"), want, api.OK)
}

// A sum goes over rows, not over values that are unlike.
func TestSumOfEachRow(t *testing.T) {
	r := rel("x n", "1 7", "2 7", "3 7", "4 -1")
	expect(t, r, nil, asks("sum n s, distinct n d"), rel("s d", "20 2"), api.OK)
}

func TestSumsAtTheEdge(t *testing.T) {
	r := rel("g x n", "1 1 9223372036854775807", "1 2 1", "1 3 -1", "2 1 -9223372036854775808", "2 2 -1", "2 3 1", "3 1 9223372036854775807", "3 2 9223372036854775807", "3 3 -9223372036854775808", "3 4 -9223372036854775808")
	expect(t, r, []string{"g"}, asks("sum n s"), rel("g s", "1 9223372036854775807", "2 -9223372036854775808", "3 -2"), api.OK)
	expect(t, r, nil, asks("sum n s"), rel("s", "-3"), api.OK)
	over := rel("g n", "1 1", "2 1", "2 9223372036854775807")
	expect(t, over, []string{"g"}, asks("sum n s"), rows.Rel{}, api.ErrFold)
	expect(t, over, []string{"n"}, asks("sum n s"), rel("n s", "1 2", "9223372036854775807 9223372036854775807"), api.OK)
	under := rel("g n", "1 -9223372036854775808", "1 -1", "2 5")
	expect(t, under, []string{"g"}, asks("count - c, sum n s"), rows.Rel{}, api.ErrFold)
	expect(t, under, []string{"g"}, asks("count - c, greatest n s"), rel("g c s", "1 2 -1", "2 1 5"), api.OK)
}

// One value that is no number, in whichever group, leaves nothing of a sum, and of nothing else.
func TestSumsOfOthers(t *testing.T) {
	for _, v := range append(list(`true "1" #01 @1 !1 :a`), api.Value{}, api.Value{Kind: 9, N: 1}) {
		r := rows.Rel{Cols: []string{"x", "n"}, Rows: []api.Row{{number(1), number(5)}, {number(2), v}, {number(3), v}}}
		expect(t, r, []string{"x"}, asks("count - c, sum n s"), rows.Rel{}, api.ErrFold)
		expect(t, r, nil, asks("least n l, sum n s, greatest n g"), rows.Rel{}, api.ErrFold)
		expect(t, r, []string{"x"}, asks("sum x s, count - c"), rel("x s c", "1 1 1", "2 2 1", "3 3 1"), api.OK)
	}
	// A number is what is of the kind.
	odd := rows.Rel{Cols: []string{"n"}, Rows: []api.Row{{number(5)}, {{Kind: api.KInt, N: 5, S: "a"}}}}
	expect(t, odd, nil, asks("sum n s"), rel("s", "10"), api.OK)
}

// Groups stand in the order of what they are made by, in the order of columns that is asked for.
func TestOrderOfGroups(t *testing.T) {
	r := rel("x y z", "1 2 1", "1 2 2", "1 3 1", "2 1 1", "2 2 3")
	count := asks("count - c")
	for _, x := range []struct {
		by   string
		want rows.Rel
	}{
		{"", rel("c", "5")},
		{"x", rel("x c", "1 3", "2 2")},
		{"y", rel("y c", "1 1", "2 3", "3 1")},
		{"z", rel("z c", "1 3", "2 1", "3 1")},
		{"x y", rel("x y c", "1 2 2", "1 3 1", "2 1 1", "2 2 1")},
		{"y x", rel("y x c", "1 2 1", "2 1 2", "2 2 1", "3 1 1")},
		{"z y", rel("z y c", "1 1 1", "1 2 1", "1 3 1", "2 2 1", "3 2 1")},
		{"z x y", rel("z x y c", "1 1 2 1", "1 1 3 1", "1 2 1 1", "2 1 2 1", "3 2 2 1")},
	} {
		expect(t, r, strings.Fields(x.by), count, x.want, api.OK)
	}
	mixed := rel("x y", `1 "b"`, "2 !1", "3 @1", `4 "a"`, "5 1", "6 @1")
	expect(t, mixed, []string{"y"}, count, rel("y c", "1 1", `"a" 1`, `"b" 1`, "@1 2", "!1 1"), api.OK)
}

// Without tellings there are the groups alone; without columns all rows are one, if there are any.
func TestLittle(t *testing.T) {
	r := rel("x y", "1 2", "1 3", "2 2")
	expect(t, r, []string{"y"}, nil, rel("y", "2", "3"), api.OK)
	expect(t, r, []string{"y", "x"}, []Agg{}, rel("y x", "2 1", "2 2", "3 1"), api.OK)
	expect(t, r, nil, nil, rel("", ""), api.OK)
	expect(t, r, []string{}, asks("count - c"), rel("c", "3"), api.OK)
	expect(t, rel("", ""), nil, asks("count - c"), rel("c", "1"), api.OK)
	expect(t, rel("", ""), nil, nil, rel("", ""), api.OK)
	expect(t, rows.Rel{}, nil, nil, rows.Rel{}, api.OK)
	expect(t, rows.Rel{}, nil, asks("count - c"), rel("c"), api.OK)
	expect(t, rel("x y"), []string{"y"}, asks("count - c, sum x s, least y l"), rel("y c s l"), api.OK)
	expect(t, rel("x y"), nil, asks("distinct x d, greatest y g"), rel("d g"), api.OK)
}

// Columns are any names; the empty one, too.
func TestAnyColumns(t *testing.T) {
	r := rows.Rel{Cols: []string{"", "?x", "X"}, Rows: []api.Row{ints(1, 2, 3), ints(1, 5, 0)}}
	want := rows.Rel{Cols: []string{"", "count"}, Rows: []api.Row{ints(1, 2)}}
	expect(t, r, []string{""}, []Agg{{Count, "", "count"}}, want, api.OK)
	want = rows.Rel{Cols: []string{"?x", "", "x"}, Rows: []api.Row{ints(2, 1, 3), ints(5, 1, 0)}}
	expect(t, r, []string{"?x"}, []Agg{{Sum, "", ""}, {Least, "X", "x"}}, want, api.OK)
	expect(t, r, []string{""}, []Agg{{Count, "", ""}}, rows.Rel{}, api.ErrArg)
	// What is told may be called as a column that nothing is made by.
	expect(t, r, []string{"X"}, []Agg{{Greatest, "?x", "?x"}}, rows.Rel{Cols: []string{"X", "?x"}, Rows: []api.Row{ints(0, 5), ints(3, 2)}}, api.OK)
}

func TestWrongTellings(t *testing.T) {
	good := Agg{Count, "", "c"}
	for _, r := range []rows.Rel{rel("x y", "1 2", `1 "a"`, "2 2"), rel("x y")} {
		for _, a := range []Agg{
			{0, "x", "a"}, {6, "x", "a"}, {-1, "x", "a"}, {0, "", "a"}, {6, "", "a"}, {1 << 40, "x", "a"}, {-3, "y", "a"},
			{Count, "x", "a"}, {Count, "w", "a"}, {Count, "a", "a"},
			{Distinct, "", "a"}, {Sum, "", "a"}, {Least, "", "a"}, {Greatest, "", "a"},
			{Distinct, "w", "a"}, {Sum, "w", "a"}, {Least, "c", "a"}, {Greatest, "a", "a"}, {Least, "X", "a"},
			{Count, "", "x"}, {Sum, "x", "x"}, {Count, "", "c"}, {Least, "y", "c"},
		} {
			for _, l := range [][]Agg{{good, a}, {a, good}, {good, {Sum, "y", "s"}, a}} {
				expect(t, r, []string{"x"}, l, rows.Rel{}, api.ErrArg)
			}
		}
	}
}

func TestWrongColumns(t *testing.T) {
	for _, r := range []rows.Rel{rel("x y z", `1 "a" 3`, `2 "a" 3`), rel("x y z")} {
		for _, by := range [][]string{{"w"}, {""}, {"x", "x"}, {"x", "y", "x"}, {"x", "y", "z", "w"}, {"x", "y", "z", "x"}, {"X"}, {"c"}, letters('a', 1<<20), slices.Repeat([]string{"x"}, 1<<20)} {
			expect(t, r, by, asks("count - c"), rows.Rel{}, api.ErrArg)
			expect(t, r, by, asks("sum y c"), rows.Rel{}, api.ErrArg)
			expect(t, r, by, nil, rows.Rel{}, api.ErrArg)
			expectGroups(t, r, by, nil, api.ErrArg)
		}
	}
	expect(t, rows.Rel{}, []string{"x"}, nil, rows.Rel{}, api.ErrArg)
	expectGroups(t, rows.Rel{}, []string{"x"}, nil, api.ErrArg)
	expectGroups(t, rel("", ""), []string{""}, nil, api.ErrArg)
}

func TestWhatMayNotBe(t *testing.T) {
	for _, r := range mayNot() {
		for _, by := range [][]string{nil, {"x"}, r.Cols, {"w"}} {
			expect(t, r, by, nil, rows.Rel{}, api.ErrArg)
			expect(t, r, by, asks("count - c"), rows.Rel{}, api.ErrArg)
			expect(t, r, by, asks("sum x s"), rows.Rel{}, api.ErrArg)
			expectGroups(t, r, by, nil, api.ErrArg)
		}
	}
}

func TestColumnsAtTheLimit(t *testing.T) {
	const all = rows.MaxCols
	r := rows.Rel{Cols: letters('a', all), Rows: []api.Row{make(api.Row, all)}}
	expect(t, r, r.Cols, nil, r, api.OK)
	expect(t, r, r.Cols, asks("count - c_"), rows.Rel{}, api.ErrRows)
	for n := range all + 1 {
		want := rows.Rel{Cols: slices.Concat(r.Cols[:n], letters('A', all-n)), Rows: []api.Row{append(make(api.Row, n), slices.Repeat(ints(1), all-n)...)}}
		expect(t, r, r.Cols[:n], counts('A', all-n), want, api.OK)
		expect(t, r, r.Cols[:n], counts('A', all-n+1), rows.Rel{}, api.ErrRows)
	}
	expect(t, rows.Rel{}, nil, counts('A', all+1), rows.Rel{}, api.ErrRows)
	// Columns too many, and a sum that is none.
	expect(t, r, nil, append(counts('A', all), Agg{Sum, "a", "s"}), rows.Rel{}, api.ErrRows)
	expect(t, r, nil, append(counts('A', all-1), Agg{Sum, "a", "s"}), rows.Rel{}, api.ErrFold)
	// Columns too many, and what is asked for wrongly.
	for _, a := range []Agg{{Count, "", "B"}, {Count, "", "a"}, {Count, "a", "s"}, {Sum, "w_", "s"}, {9, "a", "s"}} {
		for _, n := range []int{all, 2 * all, 200000} {
			expect(t, r, r.Cols[:1], append(counts('A', 5), a), rows.Rel{}, api.ErrArg)
			expect(t, r, r.Cols[:1], append(counts(0x10000, n), append(counts('A', 5), a)...), rows.Rel{}, api.ErrArg)
		}
	}
}

// So many tellings take little time.
func TestVeryManyTellings(t *testing.T) {
	var l []Agg
	for i := range 1 << 20 {
		l = append(l, Agg{Count, "", string([]byte{byte(i), byte(i >> 8), byte(i >> 16)})})
	}
	expect(t, rel("x"), nil, l, rows.Rel{}, api.ErrRows)
	l[0].As = l[len(l)-1].As
	expect(t, rel("x"), nil, l, rows.Rel{}, api.ErrArg)
}

func TestRowsAtTheLimit(t *testing.T) {
	full := rows.Rel{Cols: []string{"x", "y"}}
	turned := rows.Rel{Cols: []string{"y", "c", "s"}}
	for i := range int64(rows.MaxRows) {
		full.Rows = append(full.Rows, ints(i, rows.MaxRows-i))
		turned.Rows = append(turned.Rows, ints(i+1, 1, rows.MaxRows-i-1))
	}
	expect(t, full, []string{"y"}, asks("count - c, sum x s"), turned, api.OK)
	expect(t, full, nil, asks("count - c, distinct y d, sum x s, sum y t, least y l, greatest x g"), rel("c d s t l g", "100000 100000 4999950000 5000050000 1 99999"), api.OK)
	got, e := Groups(full, []string{"y", "x"})
	if e != api.OK || len(got) != rows.MaxRows || got[0].Rows[0][1] != number(1) || len(got[0].Rows) != 1 {
		t.Errorf("groups of a full relation: %d, %v", len(got), e)
	}
	expectGroups(t, full, nil, []rows.Rel{full}, api.OK)
}
