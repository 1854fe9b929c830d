package fix_test

import (
	"strconv"
	"strings"
	"testing"

	"shuttle/api"
	"shuttle/fix"
)

// P1.4: Text, for every number; and R2, no text beside an error.
func TestText(t *testing.T) {
	for _, a := range everyNumber() {
		want, wrong := "", api.ErrArg
		if isFixnum(a) {
			want, wrong = strconv.FormatInt(a, 10), api.OK
		}
		if s, e := fix.Text(a); s != want || e != wrong {
			t.Errorf("Text(%d) is %q, %d; want %q, %d", a, s, int(e), want, int(wrong))
		}
	}
}

// P1.4: Parse, with which error comes first.
func TestParse(t *testing.T) {
	for _, x := range []struct {
		s string
		n int64
		e api.Errno
	}{
		{"0", 0, api.OK},
		{"7", 7, api.OK},
		{"-7", -7, api.OK},
		{"10", 10, api.OK},
		{"-100", -100, api.OK},
		{"9876543210", 9876543210, api.OK},
		{"1152921504606846975", api.FixMax, api.OK},
		{"1152921504606846976", 0, api.ErrOver},
		{"-1152921504606846976", api.FixMin, api.OK},
		{"-1152921504606846977", 0, api.ErrOver},
		{"9223372036854775808", 0, api.ErrOver},
		{"18446744073709551616", 0, api.ErrOver}, // 2^64: 0, if it wrapped around
		{"18446744073709551623", 0, api.ErrOver},
		{"-340282366920938463463374607431768211457", 0, api.ErrOver},
		{"1" + strings.Repeat("0", 100000), 0, api.ErrOver},
		{"-" + strings.Repeat("9", 100000), 0, api.ErrOver},
		{"", 0, api.ErrForm},
		{"-", 0, api.ErrForm},
		{"-0", 0, api.ErrForm},
		{"00", 0, api.ErrForm},
		{"-00", 0, api.ErrForm},
		{"01", 0, api.ErrForm},
		{"-01", 0, api.ErrForm},
		{"--1", 0, api.ErrForm},
		{"1-", 0, api.ErrForm},
		{"1-1", 0, api.ErrForm},
		{"+1", 0, api.ErrForm},
		{" 1", 0, api.ErrForm},
		{"1 ", 0, api.ErrForm},
		{"1\n", 0, api.ErrForm},
		{"1a", 0, api.ErrForm},
		{"a", 0, api.ErrForm},
		{"1_000", 0, api.ErrForm},
		{"1.0", 0, api.ErrForm},
		{"1/", 0, api.ErrForm},
		{"1:", 0, api.ErrForm},
		{"0x1", 0, api.ErrForm},
		{"1\x00", 0, api.ErrForm},
		{"\xb1", 0, api.ErrForm},
		{"\u0661", 0, api.ErrForm}, // a digit, but none from 0 to 9
		{strings.Repeat("9", 30) + "a", 0, api.ErrForm},
		{"-" + strings.Repeat("9", 30) + "-", 0, api.ErrForm},
		{"0" + strings.Repeat("9", 30), 0, api.ErrForm},
		{strings.Repeat("0", 30), 0, api.ErrForm},
	} {
		if n, e := fix.Parse(x.s); n != x.n || e != x.e {
			t.Errorf("Parse(%.40q) is %d, %d; want %d, %d", x.s, n, int(e), x.n, int(x.e))
		}
	}
}

// P1.4: of all texts of one byte just the ten digits are numbers, and with a digit ahead of the byte likewise.
func TestParseBytes(t *testing.T) {
	for b := range 256 {
		digit := b >= '0' && b <= '9'
		for _, ahead := range []string{"", "1", "-", "-1"} {
			s := ahead + string([]byte{byte(b)})
			n, e := fix.Parse(s)
			want, err := strconv.ParseInt(s, 10, 64)
			if !digit || s == "-0" {
				if n != 0 || e != api.ErrForm {
					t.Errorf("Parse(%q) is %d, %d", s, n, int(e))
				}
			} else if err != nil || n != want || e != api.OK {
				t.Errorf("Parse(%q) is %d, %d", s, n, int(e))
			}
		}
	}
}

// P1.5: both ways round.
func TestRoundTrip(t *testing.T) {
	for _, a := range append(fixnums(), mixed(5000)...) {
		s, e := fix.Text(a)
		n, f := fix.Parse(s)
		if e != api.OK || f != api.OK || n != a {
			t.Errorf("Parse(Text(%d)) is %d, %d, by %q, %d", a, n, int(f), s, int(e))
		}
	}
	for _, s := range []string{"0", "1", "-1", "9", "10", "-10", "1000000000000000000", "-1152921504606846976", "1152921504606846975"} {
		n, e := fix.Parse(s)
		back, f := fix.Text(n)
		if e != api.OK || f != api.OK || back != s {
			t.Errorf("Text(Parse(%q)) is %q, %d, by %d, %d", s, back, int(f), n, int(e))
		}
	}
}
