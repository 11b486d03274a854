package fold

import (
	"math/rand"
	"slices"
	"testing"

	"daybook/api"
	"daybook/rows"
)

// Groups are apart, and together all rows.
func groupsAreApart(t *testing.T, r rows.Rel, by []string) {
	t.Helper()
	l, e := Groups(r, by)
	if e != api.OK {
		t.Fatal(e)
	}
	together, sum := rows.Rel{Cols: r.Cols}, 0
	for _, g := range l {
		if len(g.Rows) == 0 {
			t.Errorf("a group of %s by %q has no rows", brief(r), by)
		}
		sum += len(g.Rows)
		if together, e = rows.Or(together, g); e != api.OK {
			t.Fatal(e)
		}
	}
	if !same(together, r) || sum != len(r.Rows) {
		t.Errorf("groups of %s by %q: %v", brief(r), by, l)
	}
}

// valuesOf are those of a relation's column, of each row.
func valuesOf(r rows.Rel, col string) []api.Value {
	var l []api.Value
	for _, x := range r.Rows {
		l = append(l, x[slices.Index(r.Cols, col)])
	}
	return l
}

// What is told of groups is together what is told of all rows.
func togetherAll(t *testing.T, r rows.Rel, by []string, col string) {
	t.Helper()
	tell := []Agg{{Count, "", "_c"}, {Least, col, "_l"}, {Greatest, col, "_g"}}
	ofGroups, e := Fold(r, by, tell)
	if e != api.OK {
		t.Fatal(e)
	}
	count, e := Total(valuesOf(ofGroups, "_c"))
	if e != api.OK || count != number(int64(len(r.Rows))) {
		t.Errorf("counts of %s by %q: %v, %v", brief(r), by, count, e)
	}
	ofAll, e := Fold(r, nil, tell[1:])
	if e != api.OK {
		t.Fatal(e)
	}
	expect(t, ofGroups, nil, []Agg{{Least, "_l", "_l"}, {Greatest, "_g", "_g"}}, ofAll, api.OK)
}

// totalsTogether asks that the sum of sums is that of all; it says whether there were sums.
func totalsTogether(t *testing.T, r rows.Rel, by []string, col string) bool {
	t.Helper()
	ofGroups, e := Fold(r, by, []Agg{{Sum, col, "_s"}})
	if e != api.OK {
		return false
	}
	sum, e := Total(valuesOf(ofGroups, "_s"))
	all, allE := Total(valuesOf(r, col))
	if sum != all || e != allE {
		t.Errorf("sums of %s by %q: %v, %v, of all %v, %v", brief(r), by, sum, e, all, allE)
	}
	return e == api.OK
}

func TestWhatFollows(t *testing.T) {
	r := rand.New(rand.NewSource(3))
	var sums int
	for range 3000 {
		for _, pool := range drawnPools() {
			x := drawnRel(r, pool)
			by := drawnBy(r, x.Cols)
			groupsAreApart(t, x, by)
			for _, col := range x.Cols {
				togetherAll(t, x, by, col)
				if totalsTogether(t, x, by, col) {
					sums++
				}
			}
		}
	}
	if sums < 5000 {
		t.Errorf("there were %d sums", sums)
	}
}

// A relation without columns is a group of one row.
func TestWhatFollowsOfLittle(t *testing.T) {
	groupsAreApart(t, rows.Rel{}, nil)
	groupsAreApart(t, rel("", ""), nil)
	groupsAreApart(t, numbers("x", 0, rows.MaxRows), nil)
}
