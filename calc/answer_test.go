package calc

import (
	"strings"
	"testing"

	"daybook/api"
)

// expectAnswers asks what functions answer, told by texts: name and values, and the answer, or nothing where there is none.
func expectAnswers(t *testing.T, rows [][2]string) {
	t.Helper()
	for _, x := range rows {
		name, values, _ := strings.Cut(x[0], " ")
		var want api.Value
		if x[1] != "" {
			want = read(x[1])
		}
		expectDo(t, name, list(values), want, x[1] != "", api.OK)
	}
}

func TestNumbers(t *testing.T) {
	expectAnswers(t, [][2]string{
		{"+ 9223372036854775807 1", ""}, {"+ 1 9223372036854775807", ""}, {"+ 9223372036854775807 0", "9223372036854775807"}, {"+ 9223372036854775806 1", "9223372036854775807"}, {"+ 9223372036854775807 9223372036854775807", ""},
		{"+ -9223372036854775808 -1", ""}, {"+ -1 -9223372036854775808", ""}, {"+ -9223372036854775808 -9223372036854775808", ""}, {"+ -9223372036854775807 -1", "-9223372036854775808"}, {"+ -9223372036854775808 0", "-9223372036854775808"}, {"+ -9223372036854775808 9223372036854775807", "-1"}, {"+ 9223372036854775807 -9223372036854775808", "-1"},
		{"+ 4611686018427387904 4611686018427387904", ""}, {"+ -4611686018427387904 -4611686018427387904", "-9223372036854775808"}, {"+ 2 3", "5"}, {"+ -2 3", "1"}, {"+ 0 0", "0"},

		{"- 2 3", "-1"}, {"- 3 2", "1"}, {"- 0 -9223372036854775808", ""}, {"- -1 -9223372036854775808", "9223372036854775807"}, {"- 1 -9223372036854775808", ""}, {"- -9223372036854775808 1", ""}, {"- -9223372036854775808 0", "-9223372036854775808"}, {"- -9223372036854775808 -9223372036854775808", "0"}, {"- 9223372036854775807 -1", ""}, {"- 9223372036854775807 9223372036854775807", "0"}, {"- -2 9223372036854775807", ""}, {"- -1 9223372036854775807", "-9223372036854775808"}, {"- 0 9223372036854775807", "-9223372036854775807"}, {"- -9223372036854775808 9223372036854775807", ""}, {"- 9223372036854775807 -9223372036854775808", ""},

		{"* 6 7", "42"}, {"* -6 7", "-42"}, {"* 6 -7", "-42"}, {"* -6 -7", "42"}, {"* 0 -9223372036854775808", "0"}, {"* -9223372036854775808 0", "0"}, {"* 0 0", "0"}, {"* -1 0", "0"},
		{"* -9223372036854775808 1", "-9223372036854775808"}, {"* 1 -9223372036854775808", "-9223372036854775808"}, {"* -9223372036854775808 -1", ""}, {"* -1 -9223372036854775808", ""}, {"* 9223372036854775807 -1", "-9223372036854775807"}, {"* 9223372036854775807 2", ""}, {"* 9223372036854775807 9223372036854775807", ""}, {"* -9223372036854775808 -9223372036854775808", ""}, {"* -9223372036854775808 2", ""},
		{"* 4294967296 4294967296", ""}, {"* 4294967296 2147483648", ""}, {"* 4294967296 -2147483648", "-9223372036854775808"}, {"* -4294967296 -2147483648", ""}, {"* 4294967296 2147483647", "9223372032559808512"}, {"* 3037000499 3037000499", "9223372030926249001"}, {"* 3037000500 3037000500", ""}, {"* 4611686018427387904 4", ""}, {"* 4611686018427387904 -2", "-9223372036854775808"}, {"* 4611686018427387904 2", ""}, {"* -4611686018427387904 2", "-9223372036854775808"}, {"* 6148914691236517205 3", ""},

		{"/ -7 2", "-3"}, {"/ 7 2", "3"}, {"/ 7 -2", "-3"}, {"/ -7 -2", "3"}, {"/ 1 2", "0"}, {"/ -1 2", "0"}, {"/ 6 3", "2"}, {"/ 0 5", "0"}, {"/ 5 0", ""}, {"/ 0 0", ""}, {"/ -9223372036854775808 0", ""}, {"/ -9223372036854775808 -1", ""}, {"/ -9223372036854775808 1", "-9223372036854775808"}, {"/ -9223372036854775807 -1", "9223372036854775807"}, {"/ -9223372036854775808 -9223372036854775808", "1"}, {"/ 9223372036854775807 -1", "-9223372036854775807"}, {"/ 9223372036854775807 -9223372036854775808", "0"},
		{"mod -7 2", "-1"}, {"mod 7 2", "1"}, {"mod 7 -2", "1"}, {"mod -7 -2", "-1"}, {"mod 6 3", "0"}, {"mod -6 3", "0"}, {"mod 5 0", ""}, {"mod 0 0", ""}, {"mod -9223372036854775808 -1", ""}, {"mod -9223372036854775807 -1", "0"}, {"mod -9223372036854775808 1", "0"}, {"mod -9223372036854775808 10", "-8"}, {"mod 9223372036854775807 -9223372036854775808", "9223372036854775807"}, {"mod 9223372036854775807 10", "7"}, {"mod 0 -1", "0"},

		{"neg 5", "-5"}, {"neg -5", "5"}, {"neg 0", "0"}, {"neg -9223372036854775808", ""}, {"neg 9223372036854775807", "-9223372036854775807"}, {"neg -9223372036854775807", "9223372036854775807"},
		{"abs 5", "5"}, {"abs -5", "5"}, {"abs 0", "0"}, {"abs -9223372036854775808", ""}, {"abs 9223372036854775807", "9223372036854775807"}, {"abs -9223372036854775807", "9223372036854775807"}, {"abs -1", "1"},

		{"number !-5", "-5"}, {"number !-9223372036854775808", "-9223372036854775808"}, {"number true", "1"}, {"number false", "0"}, {"number @9007199254740991", "9007199254740991"}, {"number @0", "0"},
		{"time -5", "!-5"}, {"time 9223372036854775807", "!9223372036854775807"}, {"time -9223372036854775808", "!-9223372036854775808"}, {"time 0", "!0"},
	})
}

func TestTexts(t *testing.T) {
	expectAnswers(t, [][2]string{
		{`min 1 "a"`, "1"}, {`max 1 "a"`, `"a"`}, {"min 2 1", "1"}, {"max 2 1", "2"}, {"min 1 1", "1"}, {"max 1 1", "1"}, {"min true !-9", "true"}, {"max true !-9", "!-9"}, {`min "b" "ab"`, `"ab"`}, {`max "b" "ab"`, `"b"`}, {"min #61 #", "#"}, {"max :a @5", ":a"}, {"max -9223372036854775808 9223372036854775807", "9223372036854775807"},

		{`len "abc"`, "3"}, {`len ""`, "0"}, {`len "\00\ff"`, "2"}, {`len "\c3\a9"`, "2"}, {"len #00ff", "2"}, {"len #", "0"}, {"len :user/name", "9"},

		{`cat "ab" "c"`, `"abc"`}, {`cat "" ""`, `""`}, {`cat "" "a"`, `"a"`}, {`cat "a" ""`, `"a"`}, {"cat #61 #62", "#6162"}, {"cat # #", "#"}, {`cat "a" #62`, ""}, {`cat #62 "a"`, ""}, {`cat "" #`, ""},

		{`sub "abc" 1 3`, `"bc"`}, {`sub "abc" 0 3`, `"abc"`}, {`sub "abc" 0 0`, `""`}, {`sub "abc" 3 3`, `""`}, {`sub "abc" 1 2`, `"b"`}, {`sub "abc" 2 1`, ""}, {`sub "abc" 0 4`, ""}, {`sub "abc" 4 4`, ""}, {`sub "abc" -1 2`, ""}, {`sub "abc" -2 -1`, ""}, {`sub "" 0 0`, `""`}, {`sub "" 0 1`, ""}, {`sub "" 1 0`, ""},
		{`sub "abc" 0 9223372036854775807`, ""}, {`sub "abc" -9223372036854775808 2`, ""}, {`sub "abc" 9223372036854775807 -9223372036854775808`, ""}, {`sub "abc" 4294967296 4294967297`, ""},
		{"sub #616263 1 3", "#6263"}, {"sub # 0 0", "#"}, {"sub #616263 0 4", ""}, {"sub :abc 0 1", ""}, {`sub "abc" !0 1`, ""}, {`sub "abc" 0 !1`, ""}, {`sub "abc" false true`, ""}, {`sub "abc" @0 @1`, ""}, {"sub 123 0 1", ""}, {`sub 0 0 "a"`, ""},

		{"text @7", `"@7"`}, {"text -5", `"-5"`}, {"text true", `"true"`}, {`text "a"`, `"\22a\22"`}, {`text ""`, `"\22\22"`}, {"text #00ff", `"#00ff"`}, {"text !0", `"!0"`}, {"text :user/name", `":user/name"`}, {`text "\ff"`, `"\22\5cff\22"`},

		{`value "!5"`, "!5"}, {`value "5"`, "5"}, {`value "-5"`, "-5"}, {`value "true"`, "true"}, {`value "\22a\22"`, `"a"`}, {`value "\22\5cff\22"`, `"\ff"`}, {`value "#00ff"`, "#00ff"}, {`value "@7"`, "@7"}, {`value ":user/name"`, ":user/name"}, {`value "\22\22"`, `""`}, {`value "#"`, "#"},
		{`value ""`, ""}, {`value "-0"`, ""}, {`value "+1"`, ""}, {`value "05"`, ""}, {`value "@-1"`, ""}, {`value "@9007199254740992"`, ""}, {`value ":A"`, ""}, {`value "#0"`, ""}, {`value "#0A"`, ""}, {`value "\22a"`, ""}, {`value "a"`, ""}, {`value "9223372036854775808"`, ""}, {`value "True"`, ""},
		{"value #35", ""}, {"value :true", ""}, {"value 5", ""}, {"value true", ""}, {"value @7", ""}, {"value !5", ""},

		{"name :user/name", `"user/name"`}, {"name :a", `"a"`},
	})
}

// Of which Kinds a function answers something, and of which none.
func TestKinds(t *testing.T) {
	number, word, entity, instant := "5", ":a", "@7", "!5"
	of := map[string]string{"1": number, "2": "true", "3": `"5"`, "4": "#35", "5": entity, "6": instant, "7": word}
	for name, kinds := range map[string]string{"neg": "1", "abs": "1", "time": "1", "len": "347", "text": "1234567", "value": "3", "number": "256", "name": "7"} {
		for kind, v := range of {
			if _, is, e := Do(name, list(v)); is != strings.Contains(kinds, kind) || e != api.OK {
				t.Errorf("Do of %s and %s: %v, %v", name, v, is, e)
			}
		}
	}
	for name, kinds := range map[string]string{"+": "11", "-": "11", "*": "11", "/": "11", "mod": "11", "cat": "33 44"} {
		for a, v := range of {
			for b, w := range of {
				if _, is, e := Do(name, list(v+" "+w)); is != strings.Contains(kinds, a+b) || e != api.OK {
					t.Errorf("Do of %s, %s and %s: %v, %v", name, v, w, is, e)
				}
			}
		}
	}
	for a, v := range of {
		for b, w := range of {
			for c, x := range of {
				l := list(v + " " + strings.Replace(w, "5", "0", 1) + " " + strings.Replace(x, "5", "1", 1))
				if _, is, e := Do("sub", l); is != ((a == "3" || a == "4") && b == "1" && c == "1") || e != api.OK {
					t.Errorf("Do of sub and %s: %v, %v", brief(l...), is, e)
				}
			}
		}
	}
}

func TestLongTexts(t *testing.T) {
	for _, kind := range []int{api.KText, api.KBytes} {
		half, full := long(kind, "a", api.MaxText/2), long(kind, "a", api.MaxText)
		one, none := long(kind, "b", 1), api.Value{Kind: kind}
		for _, x := range []struct {
			a, b, want api.Value
			is         bool
		}{
			{half, half, full, true},
			{full, none, full, true},
			{none, full, full, true},
			{full, one, api.Value{}, false},
			{one, full, api.Value{}, false},
			{full, full, api.Value{}, false},
			{long(kind, "a", api.MaxText-1), one, api.Value{Kind: kind, S: strings.Repeat("a", api.MaxText-1) + "b"}, true},
		} {
			expectDo(t, "cat", []api.Value{x.a, x.b}, x.want, x.is, api.OK)
		}
		expectDo(t, "len", []api.Value{full}, number(api.MaxText), true, api.OK)
		expectDo(t, "sub", []api.Value{full, number(0), number(api.MaxText)}, full, true, api.OK)
		expectDo(t, "sub", []api.Value{full, number(api.MaxText / 2), number(api.MaxText)}, half, true, api.OK)
		expectDo(t, "sub", []api.Value{full, number(0), number(api.MaxText + 1)}, api.Value{}, false, api.OK)
	}
	for _, x := range []struct {
		v    api.Value
		want string
	}{
		{long(api.KText, "a", 998), `"` + strings.Repeat("a", 998) + `"`},
		{long(api.KText, "a", 999), ""},
		{kText(strings.Repeat("\xff", 332) + "aa"), `"` + strings.Repeat(`\ff`, 332) + `aa"`},
		{kText(strings.Repeat("\xff", 332) + "aaa"), ""},
		{long(api.KText, "\xff", 333), ""},
		{long(api.KText, "\xff", api.MaxText), ""},
		{long(api.KBytes, "a", 499), "#" + strings.Repeat("61", 499)},
		{long(api.KBytes, "a", 500), ""},
		{long(api.KWord, "a", api.MaxWord), ":" + strings.Repeat("a", api.MaxWord)},
	} {
		want := api.Value{}
		if x.want != "" {
			want = kText(x.want)
		}
		expectDo(t, "text", []api.Value{x.v}, want, x.want != "", api.OK)
		if x.want != "" {
			expectDo(t, "value", []api.Value{want}, x.v, true, api.OK)
		}
	}
	expectDo(t, "value", []api.Value{kText(" 5")}, api.Value{}, false, api.OK)
	expectDo(t, "value", []api.Value{kText("5 ")}, api.Value{}, false, api.OK)
	expectDo(t, "value", []api.Value{kText(":" + strings.Repeat("a", api.MaxWord+1))}, api.Value{}, false, api.OK)
	expectDo(t, "name", []api.Value{long(api.KWord, "a", api.MaxWord)}, long(api.KText, "a", api.MaxWord), true, api.OK)
	expectDo(t, "len", []api.Value{long(api.KWord, "a", api.MaxWord)}, number(api.MaxWord), true, api.OK)
}
