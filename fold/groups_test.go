package fold

import (
	"strings"
	"testing"

	"daybook/api"
	"daybook/rows"
)

func TestGroups(t *testing.T) {
	r := rel("x y z", "1 2 1", "1 2 2", "1 3 1", "2 1 1", "2 2 3")
	one, two := rel("x y z", "1 2 1", "1 2 2", "1 3 1"), rel("x y z", "2 1 1", "2 2 3")
	for _, x := range []struct {
		by   string
		want []rows.Rel
	}{
		{"", []rows.Rel{r}},
		{"x", []rows.Rel{one, two}},
		// Within a group rows stand in the relation's order, whatever it is made by.
		{"y", []rows.Rel{rel("x y z", "2 1 1"), rel("x y z", "1 2 1", "1 2 2", "2 2 3"), rel("x y z", "1 3 1")}},
		{"z", []rows.Rel{rel("x y z", "1 2 1", "1 3 1", "2 1 1"), rel("x y z", "1 2 2"), rel("x y z", "2 2 3")}},
		{"y x", []rows.Rel{rel("x y z", "2 1 1"), rel("x y z", "1 2 1", "1 2 2"), rel("x y z", "2 2 3"), rel("x y z", "1 3 1")}},
		{"x y", []rows.Rel{rel("x y z", "1 2 1", "1 2 2"), rel("x y z", "1 3 1"), rel("x y z", "2 1 1"), rel("x y z", "2 2 3")}},
		{"z y x", []rows.Rel{rel("x y z", "2 1 1"), rel("x y z", "1 2 1"), rel("x y z", "1 3 1"), rel("x y z", "1 2 2"), rel("x y z", "2 2 3")}},
	} {
		expectGroups(t, r, strings.Fields(x.by), x.want, api.OK)
	}
}

func TestFewGroups(t *testing.T) {
	expectGroups(t, rows.Rel{}, nil, nil, api.OK)
	expectGroups(t, rel("", ""), nil, []rows.Rel{rel("", "")}, api.OK)
	expectGroups(t, rel("x y"), nil, nil, api.OK)
	expectGroups(t, rel("x y"), []string{"y"}, nil, api.OK)
	expectGroups(t, rel("x y", "1 2"), []string{}, []rows.Rel{rel("x y", "1 2")}, api.OK)
	expectGroups(t, rel("x y", "1 2", "2 2"), []string{"y"}, []rows.Rel{rel("x y", "1 2", "2 2")}, api.OK)
}

// A value makes another group, if its kind, its number or its bytes are others; also one that may not be.
func TestGroupsOfAnyValues(t *testing.T) {
	odd := []api.Value{{Kind: -1}, {}, number(5), {Kind: api.KInt, N: 5, S: "a"}, {Kind: api.KTime, N: 5}, {Kind: 99, S: "a"}}
	r := rows.Rel{Cols: []string{"n", "v"}}
	for i := range int64(12) {
		r.Rows = append(r.Rows, api.Row{number(i), odd[i*5%6]})
	}
	var want []rows.Rel
	for _, v := range odd {
		g := rows.Rel{Cols: r.Cols}
		for _, x := range r.Rows {
			if x[1] == v {
				g.Rows = append(g.Rows, x)
			}
		}
		want = append(want, g)
	}
	expectGroups(t, r, []string{"v"}, want, api.OK)
}
