package order

import (
	"bytes"
	"iter"

	"daybook/api"
	"daybook/value"
)

// Read are bytes' parts.
func Read(b []byte, kinds []bool) ([]api.Part, api.Errno) {
	var parts []api.Part
	behind := b
	for p, rest := range told(b, kinds) {
		parts = append(parts, p)
		behind = rest
	}
	if len(parts) < len(kinds) || len(behind) > 0 {
		return nil, api.ErrBytes
	}
	return parts, api.OK
}

// told are the parts that bytes begin with, one for each of kinds, each with the bytes behind it; what is no part ends them.
func told(b []byte, kinds []bool) iter.Seq2[api.Part, []byte] {
	return func(yield func(api.Part, []byte) bool) {
		rest := b
		for _, isValue := range kinds {
			p, behind, ok := readPart(rest, isValue)
			if !ok || !yield(p, behind) {
				return
			}
			rest = behind
		}
	}
}

// readPart, as all readers here, tells what bytes begin with, what stands behind it, and whether it is there.
func readPart(b []byte, isValue bool) (api.Part, []byte, bool) {
	if isValue {
		v, rest, ok := readValue(b)
		return api.Part{Value: true, V: v}, rest, ok
	}
	n, rest, ok := readNumber(b)
	return api.Part{N: n}, rest, ok
}

func readValue(b []byte) (api.Value, []byte, bool) {
	if len(b) == 0 {
		return api.Value{}, nil, false
	}
	v, rest, ok := api.Value{Kind: int(b[0])}, b[1:], false
	switch v.Kind {
	case api.KInt, api.KRef, api.KTime:
		v.N, rest, ok = readNumber(rest)
	case api.KBool:
		v.N, rest, ok = readByte(rest)
	case api.KText, api.KBytes, api.KWord:
		v.S, rest, ok = readString(rest)
	}
	return v, rest, ok && value.Check(v) == api.OK
}

func readNumber(b []byte) (int64, []byte, bool) {
	var e [8]byte
	if copy(e[:], b) < len(e) {
		return 0, nil, false
	}
	var turned uint64
	for _, c := range e {
		turned = turned<<8 | uint64(c)
	}
	return int64(turned ^ sign), b[len(e):], true
}

func readByte(b []byte) (int64, []byte, bool) {
	if len(b) == 0 {
		return 0, nil, false
	}
	return int64(b[0]), b[1:], true
}

// readString reads on from byte 0 to byte 0, up to the one that ends the string.
func readString(b []byte) (string, []byte, bool) {
	var s []byte
reading:
	for {
		zero := bytes.IndexByte(b, 0)
		if zero < 0 || zero+1 == len(b) {
			return "", nil, false
		}
		s = append(s, b[:zero]...)
		mark := b[zero+1]
		b = b[zero+2:]
		switch mark {
		case ends:
			break reading
		case goes:
			s = append(s, 0)
		default:
			return "", nil, false
		}
	}
	return string(s), b, true
}
