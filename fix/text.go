package fix

import (
	"strings"

	"shuttle/api"
)

// Text is a fixnum's decimal text, Parse the fixnum of such a text.
func Text(a int64) (string, api.Errno) {
	if !In(a) {
		return "", api.ErrArg
	}
	rest := size(a)
	count := digits(rest)
	text := make([]byte, count)
	for i := range count {
		text[count-1-i] = '0' + byte(rest%10)
		rest /= 10
	}
	if a < 0 {
		return "-" + string(text), api.OK
	}
	return string(text), api.OK
}

func Parse(s string) (int64, api.Errno) {
	numeral, negative := strings.CutPrefix(s, "-")
	// The form is asked of the whole text first, since ErrForm comes before ErrOver.
	if !proper(numeral) || s == "-0" {
		return 0, api.ErrForm
	}
	number := uint64(0)
	for i := range len(numeral) {
		number = 10*number + uint64(numeral[i]-'0')
		if number > greatest { // here, so that no text is long enough to wrap around
			return 0, api.ErrOver
		}
	}
	return signed(number, negative)
}

func digits(n uint64) int {
	count := 1
	for n >= 10 {
		n /= 10
		count++
	}
	return count
}

func proper(numeral string) bool {
	for i := range len(numeral) {
		if numeral[i] < '0' || numeral[i] > '9' {
			return false
		}
	}
	return numeral == "0" || numeral != "" && numeral[0] != '0'
}
