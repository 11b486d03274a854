package value

import (
	"fmt"
	"math/rand"
	"regexp"
	"strings"
	"testing"

	"daybook/api"
)

func TestTextAndParse(t *testing.T) {
	for _, x := range []struct {
		v api.Value
		s string
	}{
		{api.Value{Kind: api.KInt}, "0"},
		{api.Value{Kind: api.KInt, N: -5}, "-5"},
		{api.Value{Kind: api.KInt, N: 100}, "100"},
		{api.Value{Kind: api.KInt, N: 1<<63 - 1}, "9223372036854775807"},
		{api.Value{Kind: api.KInt, N: -1 << 63}, "-9223372036854775808"},
		{api.Value{Kind: api.KBool}, "false"},
		{api.Value{Kind: api.KBool, N: 1}, "true"},
		{api.Value{Kind: api.KText}, `""`},
		{api.Value{Kind: api.KText, S: "a\"b\n"}, `"a\22b\0a"`},
		{api.Value{Kind: api.KText, S: " ~\x1f\x7f\\"}, `" ~\1f\7f\5c"`},
		{api.Value{Kind: api.KText, S: "é\x00\xff"}, `"\c3\a9\00\ff"`},
		{api.Value{Kind: api.KText, S: `\22`}, `"\5c22"`},
		{api.Value{Kind: api.KText, S: "\n\n"}, `"\0a\0a"`},
		{api.Value{Kind: api.KText, S: "true"}, `"true"`},
		{api.Value{Kind: api.KBytes}, "#"},
		{api.Value{Kind: api.KBytes, S: "\x00\xff"}, "#00ff"},
		{api.Value{Kind: api.KBytes, S: "a\x9a"}, "#619a"},
		{api.Value{Kind: api.KRef}, "@0"},
		{api.Value{Kind: api.KRef, N: 7}, "@7"},
		{api.Value{Kind: api.KRef, N: 1<<53 - 1}, "@9007199254740991"},
		{api.Value{Kind: api.KTime}, "!0"},
		{api.Value{Kind: api.KTime, N: -12}, "!-12"},
		{api.Value{Kind: api.KTime, N: -1 << 63}, "!-9223372036854775808"},
		{api.Value{Kind: api.KTime, N: 1<<63 - 1}, "!9223372036854775807"},
		{api.Value{Kind: api.KWord, S: "user/name"}, ":user/name"},
		{api.Value{Kind: api.KWord, S: "a.b-c_9/"}, ":a.b-c_9/"},
		{api.Value{Kind: api.KText, S: strings.Repeat("\xff", 1000)}, `"` + strings.Repeat(`\ff`, 1000) + `"`},
		{api.Value{Kind: api.KText, S: strings.Repeat("a", 1000)}, `"` + strings.Repeat("a", 1000) + `"`},
		{api.Value{Kind: api.KBytes, S: strings.Repeat("\xff", 1000)}, "#" + strings.Repeat("ff", 1000)},
		{api.Value{Kind: api.KWord, S: strings.Repeat("a", 64)}, ":" + strings.Repeat("a", 64)},
	} {
		if s, e := Text(x.v); s != x.s || e != api.OK {
			t.Errorf("Text(%v) = %q, %v, want %q", x.v, s, e, x.s)
		}
		if v, e := Parse(x.s); v != x.v || e != api.OK {
			t.Errorf("Parse(%q) = %v, %v, want %v", x.s, v, e, x.v)
		}
	}
}

func TestTextOfWhatMayNotBe(t *testing.T) {
	for _, v := range refused() {
		if s, e := Text(v); s != "" || e != api.ErrKind {
			t.Errorf("Text(%v) = %q, %v, want nothing and ErrKind", v, s, e)
		}
	}
}

// Each byte of a KText and of a KBytes, written as the chapter says it.
func TestTextOfBytes(t *testing.T) {
	for c := range 256 {
		b := string([]byte{byte(c)})
		quoted := fmt.Sprintf(`"x\%02xy"`, c)
		if 0x20 <= c && c <= 0x7e && c != '"' && c != '\\' {
			quoted = `"x` + b + `y"`
		}
		for _, x := range []struct {
			v api.Value
			s string
		}{
			{api.Value{Kind: api.KText, S: "x" + b + "y"}, quoted},
			{api.Value{Kind: api.KBytes, S: b}, fmt.Sprintf("#%02x", c)},
		} {
			if s, e := Text(x.v); s != x.s || e != api.OK {
				t.Errorf("Text(%q) = %q, %v, want %q", x.v.S, s, e, x.s)
			}
			if v, e := Parse(x.s); v != x.v || e != api.OK {
				t.Errorf("Parse(%q) = %v, %v, want %v", x.s, v, e, x.v)
			}
		}
	}
}

func TestParseOfWhatIsNone(t *testing.T) {
	for _, s := range []string{
		"", " ", "x", "-", "-0", "+1", "+0", "00", "01", "-01", "1 ", " 1", "1_0", "0x1", "1.0", "1e3", "--1", "9223372036854775808", "-9223372036854775809", "18446744073709551616", "99999999999999999999999",
		"t", "f", "tru", "true ", "True", "TRUE", "truex", "falsey", "fals", "nil",
		`"`, `"a`, `a"`, `""a`, `"a"b"`, `"""`, `"\"`, `"\""`, `"\\"`, `"\2"`, `"\22`, `"\61"`, `"\20"`, `"\7e"`, `"\5C"`, `"\FF"`, `"\0A"`, `"\n"`, `"\0g"`, `"\x0a"`, `"\ 0"`, "\"\n\"", "\"\x7f\"", "\"\xff\"", "\"é\"",
		"#0", "#0g", "#0G", "#AB", "#aB", "#000", "#+1", "# 0", "#00 ", "##", "#0x",
		"@", "@-1", "@-0", "@+1", "@01", "@00", "@x", "@ 1", "@9007199254740992", "@9223372036854775807", "@18446744073709551616", "@@1",
		"!", "!-", "!-0", "!+1", "!01", "!!1", "!x", "!9223372036854775808", "!-9223372036854775809",
		":", "::", ":A", ":9", ":.", ":-a", ":/a", ":_a", ":aB", ":a b", ":a:", ":a\n", ":é", " :a",
		"\x00", "\xff", "(", "?",
		`"` + strings.Repeat("a", 1001) + `"`, `"` + strings.Repeat(`\ff`, 1001) + `"`, "#" + strings.Repeat("00", 1001), ":" + strings.Repeat("a", 65),
		strings.Repeat("9", 5000), strings.Repeat("0", 5000), `"` + strings.Repeat("a", 100000) + `"`,
	} {
		if v, e := Parse(s); v != (api.Value{}) || e != api.ErrValue {
			t.Errorf("Parse(%q) = %v, %v, want nothing and ErrValue", s, v, e)
		}
	}
}

// form tells texts of values, but for how great numbers and how long texts may be.
var form = regexp.MustCompile(`^(0|-?[1-9][0-9]*|true|false|"([ !#-\[\]-~]|\\([01][0-9a-f]|22|5c|7f|[89a-f][0-9a-f]))*"|#([0-9a-f]{2})*|@(0|[1-9][0-9]*)|!(0|-?[1-9][0-9]*)|:[a-z][a-z0-9._/-]*)$`)

// All short texts of some bytes: just those of that form are values', and each is its value's text.
func TestParseOfAllShortTexts(t *testing.T) {
	const bytes = "019afAF-+\"\\#@!:. _/g\n\x7f"
	var try func(s string, more int)
	many := 0
	try = func(s string, more int) {
		v, e := Parse(s)
		if (e == api.OK) != form.MatchString(s) {
			t.Fatalf("Parse(%q) = %v, %v", s, v, e)
		}
		if e == api.OK {
			many++
			if back, e := Text(v); back != s || e != api.OK {
				t.Fatalf("Text of Parse(%q) = %q, %v", s, back, e)
			}
		}
		for i := 0; i < len(bytes) && more > 0; i++ {
			try(s+bytes[i:i+1], more-1)
		}
	}
	try("", 4)
	for _, s := range []string{`"\`, `"a\`, `"\0a`, `"\0a\`, "#0", "tru", "fals"} {
		try(s, 3)
	}
	if many < 1000 {
		t.Errorf("just %d texts of values", many)
	}
}

// some is a value that may be, of any kind.
func some(r *rand.Rand) api.Value {
	v := api.Value{Kind: 1 + r.Intn(7)}
	switch v.Kind {
	case api.KInt, api.KTime:
		v.N = int64(r.Uint64()) >> r.Intn(64)
	case api.KBool:
		v.N = r.Int63n(2)
	case api.KRef:
		v.N = r.Int63n(api.MaxEntity) >> r.Intn(53)
	case api.KWord:
		b := []byte{byte('a' + r.Intn(26))}
		for range r.Intn(api.MaxWord) {
			b = append(b, "az09._-/"[r.Intn(8)])
		}
		v.S = string(b)
	default:
		b := make([]byte, r.Intn(api.MaxText+1)>>r.Intn(10))
		r.Read(b)
		v.S = string(b)
	}
	return v
}

func TestThereAndBack(t *testing.T) {
	for _, v := range allowed() {
		thereAndBack(t, v)
	}
	r := rand.New(rand.NewSource(1))
	for range 5000 {
		thereAndBack(t, some(r))
	}
}

func thereAndBack(t *testing.T, v api.Value) {
	t.Helper()
	s, e := Text(v)
	if e != api.OK || !form.MatchString(s) {
		t.Fatalf("Text(%v) = %q, %v", v, s, e)
	}
	if back, e := Parse(s); back != v || e != api.OK {
		t.Fatalf("Parse of the text of %v = %v, %v", v, back, e)
	}
}

// A text with a byte turned is no value's, or that of another one.
func TestParseOfTurnedTexts(t *testing.T) {
	r := rand.New(rand.NewSource(2))
	for range 5000 {
		v := some(r)
		s, _ := Text(v)
		b := []byte(s)
		b[r.Intn(len(b))] ^= byte(1 + r.Intn(255))
		turned := string(b)
		got, e := Parse(turned)
		if turned == s || got == v {
			t.Fatalf("Parse(%q) = %v, as Parse(%q)", turned, got, s)
		}
		if e != api.OK && (e != api.ErrValue || got != (api.Value{})) {
			t.Fatalf("Parse(%q) = %v, %v", turned, got, e)
		}
		if back, be := Text(got); e == api.OK && (back != turned || be != api.OK) {
			t.Fatalf("Text of Parse(%q) = %q, %v", turned, back, be)
		}
	}
}

// What tells a text stops when no more is wanted, wherever that is.
func TestToldStops(t *testing.T) {
	for _, v := range allowed() {
		s, _ := Text(v)
		for most := 1; most <= len(s) && most < 20; most++ {
			var got []byte
			for c := range told(v) {
				got = append(got, c)
				if len(got) == most {
					break
				}
			}
			if string(got) != s[:most] {
				t.Errorf("the first %d bytes of %q: %q", most, s, got)
			}
		}
	}
}
