package sect_test

import (
	"gabelle/api"
	"gabelle/name"
	"gabelle/sect"
)

// head is the beginning, as the chapter writes it.
func head() []byte { return []byte{0x00, 0x61, 0x73, 0x6d, 0x01, 0x00, 0x00, 0x00} }

// modelNumber is the number of 32 bits with whose bytes b begins, and what is behind it.
func modelNumber(b []byte) (n int, rest []byte, ok bool) {
	for i, weight := 0, 1; i < len(b) && i < 5; i, weight = i+1, weight*128 {
		n += int(b[i]%128) * weight
		if b[i] < 128 {
			return n, b[i+1:], n < 1<<32
		}
	}
	return 0, nil, false
}

// modelSections is the chapter's words on what stands behind the beginning, section by section: least is the least number that may come.
func modelSections(b []byte, least uint8) ([]sect.Section, bool) {
	if len(b) == 0 {
		return nil, true
	}
	id := b[0]
	n, b, ok := modelNumber(b[1:])
	if !ok || n > len(b) {
		return nil, false
	}
	s := sect.Section{Id: id, B: b[:n]}
	if id == 0 {
		if _, _, ok := name.Take(s.B); !ok {
			return nil, false
		}
		return modelSections(b[n:], least)
	}
	if id < least || id > 11 {
		return nil, false
	}
	l, ok := modelSections(b[n:], id+1)
	return append([]sect.Section{s}, l...), ok
}

func modelSplit(b []byte) ([]sect.Section, api.Errno) {
	if len(b) < 8 || [8]byte(b) != [8]byte(head()) {
		return nil, api.ErrBin
	}
	l, ok := modelSections(b[8:], 1)
	if !ok {
		return nil, api.ErrBin
	}
	return l, api.OK
}

// fewest are the fewest bytes of a number.
func fewest(n int) []byte {
	if n < 128 {
		return []byte{byte(n)}
	}
	return append([]byte{byte(128 + n%128)}, fewest(n/128)...)
}

// inBytes are a number's bytes, as many of them as are asked for.
func inBytes(n, count int) []byte {
	if count == 1 {
		return []byte{byte(n)}
	}
	return append([]byte{byte(128 + n%128)}, inBytes(n/128, count-1)...)
}

// bytesOf are a section's bytes, whatever its number.
func bytesOf(id uint8, b []byte) []byte {
	return append(append([]byte{id}, fewest(len(b))...), b...)
}

func mayBeJoined(l []sect.Section) bool {
	for i, s := range l {
		if s.Id < 1 || s.Id > 11 || i > 0 && s.Id <= l[i-1].Id {
			return false
		}
	}
	return true
}

func modelJoin(l []sect.Section) ([]byte, api.Errno) {
	if !mayBeJoined(l) {
		return nil, api.ErrArg
	}
	out := head()
	for _, s := range l {
		out = append(out, bytesOf(s.Id, s.B)...)
	}
	return out, api.OK
}
