package calc

import (
	"testing"

	"daybook/api"
)

func TestPredicates(t *testing.T) {
	for _, x := range []struct {
		name, values string
		want         bool
	}{
		{"<", `1 "a"`, true}, {"=", "2 !2", false}, {"begins", ":user/name :user", true},
		{"=", "1 1", true}, {"=", "1 2", false}, {"=", `"a" "a"`, true}, {"=", `"61" #61`, false}, {"=", "0 false", false}, {"=", "1 @1", false}, {"=", `:a "a"`, false},
		{"!=", "1 1", false}, {"!=", "1 2", true}, {"!=", "1 !1", true}, {"!=", `"a" #61`, true},
		{"<", "1 2", true}, {"<", "2 1", false}, {"<", "2 2", false}, {"<", "-1 0", true}, {"<", "-9223372036854775808 9223372036854775807", true}, {"<", "9 10", true}, {"<", `"9" "10"`, false},
		{"<", "9223372036854775807 false", true}, {"<", `true "a"`, true}, {"<", `"b" #61`, true}, {"<", "#ff @0", true}, {"<", "@9 !0", true}, {"<", "!9 :a", true}, {"<", "!1 9", false},
		{"<", `"a" "a\00"`, true}, {"<", `"" "\00"`, true}, {"<", `"\7f" "\80"`, true}, {"<", "false true", true},
		{"<=", "1 2", true}, {"<=", "2 2", true}, {"<=", "3 2", false}, {"<=", `"a" 1`, false}, {"<=", ":a :a", true},
		{">", "2 1", true}, {">", "1 2", false}, {">", "2 2", false}, {">", `"a" 1`, true}, {">", `1 "a"`, false},
		{">=", "2 1", true}, {">=", "2 2", true}, {">=", "1 2", false}, {">=", `"a" 1`, true}, {">=", `"a" "b"`, false},

		{"begins", `"abc" "ab"`, true}, {"begins", `"abc" "bc"`, false}, {"begins", `"abc" ""`, true}, {"begins", `"" ""`, true}, {"begins", `"" "a"`, false}, {"begins", `"ab" "abc"`, false}, {"begins", `"abc" "abc"`, true}, {"begins", `"abc" "Ab"`, false},
		{"begins", "#6162 #61", true}, {"begins", "#6162 #62", false}, {"begins", "#00ff #00", true}, {"begins", "# #", true},
		{"begins", `"a" #61`, false}, {"begins", `#61 "a"`, false}, {"begins", `:a "a"`, false}, {"begins", `"" #`, false}, {"begins", ":ab #61", false},
		{"begins", "12 1", false}, {"begins", "1 1", false}, {"begins", "@7 @7", false}, {"begins", "!5 !5", false}, {"begins", "true true", false}, {"begins", ":user :user/name", false},
		{"ends", `"abc" "bc"`, true}, {"ends", `"abc" "ab"`, false}, {"ends", `"abc" ""`, true}, {"ends", `"bc" "abc"`, false}, {"ends", `"abc" "abc"`, true}, {"ends", `"" ""`, true},
		{"ends", ":user/name :name", true}, {"ends", ":user/name :user", false}, {"ends", "#0061 #61", true}, {"ends", "#6100 #61", false}, {"ends", `"ba" #61`, false}, {"ends", "21 1", false}, {"ends", "1 1", false}, {"ends", "!5 !5", false},
		{"has", `"abc" "b"`, true}, {"has", `"abc" "ac"`, false}, {"has", `"abc" ""`, true}, {"has", `"" ""`, true}, {"has", `"" "a"`, false}, {"has", `"abc" "abc"`, true}, {"has", `"abc" "abcd"`, false}, {"has", `"aab" "ab"`, true}, {"has", `"\ff\00" "\00"`, true},
		{"has", "#616263 #62", true}, {"has", "#616263 #6163", false}, {"has", "#12 #2100", false}, {"has", "#1234 #23", false}, {"has", ":user/name :r", true}, {"has", ":user/name :ru", false},
		{"has", `"abc" #62`, false}, {"has", `:abc "b"`, false}, {"has", "123 2", false}, {"has", "@1 @1", false}, {"has", "false false", false},

		{"kind", "5 1", true}, {"kind", "true 2", true}, {"kind", `"a" 3`, true}, {"kind", "#61 4", true}, {"kind", "@7 5", true}, {"kind", "!5 6", true}, {"kind", ":a 7", true},
		{"kind", "1 2", false}, {"kind", "2 2", false}, {"kind", `"a" "3"`, false}, {"kind", "@7 @5", false}, {"kind", "!6 !6", false}, {"kind", "5 true", false}, {"kind", "5 !1", false}, {"kind", "5 @1", false}, {"kind", ":a 0", false}, {"kind", ":a 8", false}, {"kind", "1 4294967297", false}, {"kind", "1 -9223372036854775808", false}, {"kind", "1 -1", false},
	} {
		expectTest(t, x.name, list(x.values), x.want, api.OK)
	}
}

// Texts as long as may be.
func TestPredicatesOfLongTexts(t *testing.T) {
	for _, kind := range []int{api.KText, api.KBytes} {
		full, less := long(kind, "a", api.MaxText), long(kind, "a", api.MaxText-1)
		other := api.Value{Kind: kind, S: less.S + "b"}
		for _, x := range []struct {
			a, b              api.Value
			begins, ends, has bool
		}{{full, full, true, true, true}, {full, less, true, true, true}, {other, less, true, false, true}, {less, full, false, false, false}, {full, other, false, false, false}, {other, api.Value{Kind: kind, S: "ab"}, false, true, true}} {
			l := []api.Value{x.a, x.b}
			expectTest(t, "begins", l, x.begins, api.OK)
			expectTest(t, "ends", l, x.ends, api.OK)
			expectTest(t, "has", l, x.has, api.OK)
		}
	}
}
