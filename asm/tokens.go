package asm

import (
	"strconv"
	"strings"
)

// The digits that a number may have at most, by its base.
const (
	mostDecimal = 10
	mostHex     = 8
)

// tokens are those of a line.
func tokens(source string) []string {
	rest, _, _ := strings.Cut(source, "#")
	var all []string
	for rest != "" {
		token := rest[:tokenLen(rest)]
		rest = rest[len(token):]
		if token != " " && token != "\t" {
			all = append(all, token)
		}
	}
	return all
}

// tokenLen is the length of the token, or blank, that a text begins with; the text has a byte at least.
func tokenLen(text string) int {
	n := 0
	for n < len(text) && isTokenByte(text[n]) {
		n++
	}
	return max(n, 1)
}

func isTokenByte(c byte) bool {
	return c >= 'a' && c <= 'z' || c >= 'A' && c <= 'Z' || isDigit(c) || c == '.' || c == '_' || c == '-'
}

func isDigit(c byte) bool {
	return c >= '0' && c <= '9'
}

// isName: a token is one that a label may have.
func isName(token string) bool {
	if token == "" || isDigit(token[0]) {
		return false
	}
	for i := range len(token) {
		if !isTokenByte(token[i]) || token[i] == '-' {
			return false
		}
	}
	return true
}

// numberOf is the number that a token spells.
func numberOf(token string) (int, bool) {
	digits, negative := strings.CutPrefix(token, "-")
	base, most := 10, mostDecimal
	if rest, hex := strings.CutPrefix(digits, "0x"); hex {
		digits, base, most = rest, 16, mostHex
	}
	// ParseUint takes no sign, so a second one is none here either.
	n, err := strconv.ParseUint(digits, base, 64)
	if err != nil || len(digits) > most {
		return 0, false
	}
	if negative {
		return -int(n), true
	}
	return int(n), true
}
