package ops

import (
	"strconv"
	"strings"

	"hayloft/api"
)

// Text answers o's words, one blank between (P3.5).
func Text(o api.Op) (string, api.Errno) {
	k, e := checked(o)
	if e != api.OK {
		return "", e
	}
	return strings.Join(words(k, o), " "), api.OK
}

// words answers the name and the fields that count. Of every kind they stand in
// one order: D, A, B, Imm.
func words(k kind, o api.Op) []string {
	all := []string{k.name}
	if k.counts(fieldD) {
		all = append(all, register(o.D))
	}
	if k.counts(fieldA) {
		all = append(all, register(o.A))
	}
	switch {
	case k.counts(fieldB):
		all = append(all, register(o.B))
	case k.counts(numberB):
		all = append(all, digits(int64(o.B)))
	}
	if k.counts(fieldImm) {
		all = append(all, digits(o.Imm))
	}
	return all
}

func register(r uint8) string { return "r" + digits(int64(r)) }

func digits(n int64) string { return strconv.FormatInt(n, 10) }
