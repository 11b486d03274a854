package span

import (
	"strconv"
	"strings"

	"daybook/api"
)

const (
	none    = "none" // the text of the empty set
	opens   = "["
	between = ","
	closes  = ")"
	least   = "-"
	endless = "+"
)

// Text is a set's.
func Text(l []api.Span) (string, api.Errno) {
	if !isSet(l) {
		return "", api.ErrSpan
	}
	if len(l) == 0 {
		return none, api.OK
	}
	var b []byte
	for i, s := range l {
		if i > 0 {
			b = append(b, ' ')
		}
		b = append(b, opens...)
		b = appendTime(b, s.From)
		b = append(b, between...)
		b = appendTime(b, s.To)
		b = append(b, closes...)
	}
	return string(b), api.OK
}

func appendTime(b []byte, at int64) []byte {
	switch at {
	case api.MinTime:
		return append(b, least...)
	case api.MaxTime:
		return append(b, endless...)
	}
	return strconv.AppendInt(b, at, 10)
}

// Parse is a text's set. What is read says which set the text can only be of; that set's own text says whether it is.
func Parse(s string) ([]api.Span, api.Errno) {
	if s == none {
		return nil, api.OK
	}
	var l []api.Span
	for piece := range strings.SplitSeq(s, " ") {
		one, ok := readSpan(piece)
		if !ok {
			return nil, api.ErrSpan
		}
		l = append(l, one)
	}
	if back, e := Text(l); e != api.OK || back != s {
		return nil, api.ErrSpan
	}
	return l, api.OK
}

// readSpan lets needless noughts and signs pass, as Parse finds them.
func readSpan(s string) (api.Span, bool) {
	inner, opened := strings.CutPrefix(s, opens)
	inner, closed := strings.CutSuffix(inner, closes)
	from, to, _ := strings.Cut(inner, between)
	begin, begins := readTime(from)
	end, ends := readTime(to)
	return api.Span{From: begin, To: end}, opened && closed && begins && ends
}

func readTime(s string) (int64, bool) {
	switch s {
	case least:
		return api.MinTime, true
	case endless:
		return api.MaxTime, true
	}
	n, err := strconv.ParseInt(s, 10, 64)
	return n, err == nil
}
