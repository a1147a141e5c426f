package script

import (
	"strings"
	"unicode/utf8"

	"hostel/api"
)

const (
	hexDigits = "0123456789abcdef"
	quote     = '"'
	backslash = '\\'
	firstSign = ' '
	lastSign  = '~'
)

// hex is a number in digits of base 16.
func hex(x rune) string {
	if x < 16 {
		return hexDigits[x : x+1]
	}
	return hex(x>>4) + hexDigits[x&15:x&15+1]
}

// sign is the sign of a rune.
func sign(r rune) string {
	switch {
	case r == quote, r == backslash:
		return string(backslash) + string(r)
	case r >= firstSign && r <= lastSign:
		return string(r)
	default:
		return `\u{` + hex(r) + "}"
	}
}

// byteSign is the sign of a byte that begins no rune.
func byteSign(b byte) string {
	return `\x` + hexDigits[b>>4:b>>4+1] + hexDigits[b&15:b&15+1]
}

// Quote is a text in quotes.
func Quote(s string) string {
	var b strings.Builder
	b.WriteByte(quote)
	for i, r := range s {
		if _, size := utf8.DecodeRuneInString(s[i:]); r == utf8.RuneError && size == 1 {
			b.WriteString(byteSign(s[i]))
		} else {
			b.WriteString(sign(r))
		}
	}
	b.WriteByte(quote)
	return b.String()
}

// unhex is the number that digits of base 16 say; too great a one is none.
func unhex(s string) (rune, bool) {
	var x rune
	for _, r := range s {
		digit := strings.IndexRune(hexDigits, r)
		if digit < 0 || x > utf8.MaxRune {
			return 0, false
		}
		x = x<<4 | rune(digit)
	}
	return x, s != "" && x <= utf8.MaxRune
}

// unsign is what the sign that s begins with stands for, and what is behind it.
func unsign(s string) (meant, rest string, ok bool) {
	if s[0] != backslash {
		return s[:1], s[1:], true
	}
	if code, found := strings.CutPrefix(s, `\u{`); found {
		digits, rest, _ := strings.Cut(code, "}")
		x, ok := unhex(digits)
		return string(x), rest, ok
	}
	if code, found := strings.CutPrefix(s, `\x`); found && len(code) >= 2 {
		x, ok := unhex(code[:2])
		return string([]byte{byte(x)}), code[2:], ok
	}
	if len(s) < 2 {
		return "", "", false
	}
	return s[1:2], s[2:], true
}

// Unquote is the text that stands in quotes. Signs are read as widely as may be; whether they are the ones
// that Quote writes is seen by quoting again.
func Unquote(s string) (string, api.Errno) {
	rest, found := strings.CutPrefix(s, string(quote))
	if !found {
		return "", api.ErrForm
	}
	rest, found = strings.CutSuffix(rest, string(quote))
	if !found {
		return "", api.ErrForm
	}
	var b strings.Builder
	for rest != "" {
		meant, behind, ok := unsign(rest)
		if !ok {
			return "", api.ErrForm
		}
		b.WriteString(meant)
		rest = behind
	}
	if Quote(b.String()) != s {
		return "", api.ErrForm
	}
	return b.String(), api.OK
}
