package num_test

import (
	"fmt"
	"math"
	"math/big"
	"strconv"
	"strings"
	"testing"

	"merino/api"
	"merino/num"
)

// P1.11 and P1.15
func TestText(t *testing.T) {
	for _, c := range []struct {
		f    api.Frac
		text string
	}{
		{fr(-3, 2), "-3/2"},
		{fr(0, 1), "0"},
		{fr(7, 1), "7"},
		{fr(-7, 1), "-7"},
		{fr(1, api.MaxDen), "1/1048576"},
		{fr(-api.MaxNum, 1), "-1099511627776"},
		{fr(api.MaxNum-1, api.MaxDen), "1099511627775/1048576"},
	} {
		text, e := num.Text(c.f)
		same(t, c, text, e, c.text, api.OK)
		f, e := num.Parse(c.text)
		same(t, c, f, e, c.f, api.OK)
	}
	for _, f := range invalid {
		text, e := num.Text(f)
		same(t, f, text, e, "", api.ErrArg)
		f, e := num.Parse(fmt.Sprintf("%d/%d", f.Num, f.Den))
		same(t, f, f, e, api.Frac{}, api.ErrForm)
	}
	d := dice(16)
	for range 3000 {
		f := d.frac()
		text, e := num.Text(f)
		same(t, f, text, e, strings.TrimSuffix(rat(f).String(), "/1"), api.OK)
		back, e := num.Parse(text)
		same(t, text, back, e, f, api.OK)
	}
}

// P1.11
func TestParseErrors(t *testing.T) {
	for _, s := range []string{
		"", "-", "+", "/", "-/", "1/", "/2", "-/2", "+1", "+1/2", "01", "-01", "1/02", "01/2", "-0", "-0/1", "0/1", "0/2", "0/0",
		"3/1", "2/4", "1/-2", "-1/-2", "1/+2", "1/0", "1//2", "1/2/3", "1/2/", " 1", "1 ", "1 /2", "1/ 2", "1.5", "1e3", "0x1", "1_0", "1/1_0", "--1", "1/2\n", "x", "1/x", "\x00",
		"1/1048577", "1099511627777", "-1099511627777", "1099511627776/1048576", "9223372036854775808", "-9223372036854775809", "1/9223372036854775808",
		strings.Repeat("9", 1000), "1/" + strings.Repeat("9", 1000), strings.Repeat("0", 1000), "\u0661",
	} {
		f, e := num.Parse(s)
		same(t, s, f, e, api.Frac{}, api.ErrForm)
	}
}

// P1.11 and P1.15
func TestDecimal(t *testing.T) {
	for _, c := range []struct {
		n, places int
		text      string
	}{
		{-5, 2, "-0.05"},
		{5, 2, "0.05"},
		{0, 0, "0"},
		{0, 2, "0.00"},
		{7, 0, "7"},
		{-7, 0, "-7"},
		{100, 2, "1.00"},
		{-12345, 2, "-123.45"},
		{99, 2, "0.99"},
		{1, 9, "0.000000001"},
		{-1234567890, 9, "-1.234567890"},
		{api.MaxAmount, 9, "1125899.906842624"},
		{-api.MaxAmount, 0, "-1125899906842624"},
	} {
		text, e := num.Decimal(c.n, c.places)
		same(t, c, text, e, c.text, api.OK)
		n, e := num.ParseDecimal(c.text, c.places)
		same(t, c, n, e, c.n, api.OK)
	}
}

// exactDecimal is Decimal by way of exact fractions.
func exactDecimal(n, places int) string {
	unit := new(big.Int).Exp(big.NewInt(10), big.NewInt(int64(places)), nil)
	return new(big.Rat).SetFrac(big.NewInt(int64(n)), unit).FloatString(places)
}

// P1.11 and P1.15
func TestDecimalRoundTrip(t *testing.T) {
	d := dice(17)
	numbers := append([]int(nil), hostile...)
	for range 1000 {
		numbers = append(numbers, d.signed(50))
	}
	for n := -2000; n <= 2000; n++ {
		numbers = append(numbers, n)
	}
	for _, n := range numbers {
		for places := range 10 {
			text, e := num.Decimal(n, places)
			same(t, []int{n, places}, text, e, exactDecimal(n, places), api.OK)
			back, e := num.ParseDecimal(text, places)
			want, wantErr := n, api.OK
			if n < -api.MaxAmount || n > api.MaxAmount {
				want, wantErr = 0, api.ErrRange
			}
			same(t, []any{text, places}, back, e, want, wantErr)
		}
	}
}

// P1.11
func TestDecimalErrors(t *testing.T) {
	for _, places := range []int{-1, 10, 11, math.MinInt, math.MaxInt} {
		for _, n := range hostile {
			text, e := num.Decimal(n, places)
			same(t, []int{n, places}, text, e, "", api.ErrArg)
		}
		for _, s := range []string{"", "1", "0.05", "x", strings.Repeat("9", 100)} {
			n, e := num.ParseDecimal(s, places)
			same(t, []any{s, places}, n, e, 0, api.ErrArg)
		}
	}
}

// P1.11
func TestParseDecimalErrors(t *testing.T) {
	nines := strings.Repeat("9", 1000)
	for _, c := range []struct {
		s      string
		places int
		err    api.Errno
	}{
		{"-0.00", 2, api.ErrForm},
		{"-0", 0, api.ErrForm},
		{"007", 0, api.ErrForm},
		{"00", 0, api.ErrForm},
		{"00.05", 2, api.ErrForm},
		{"-00.05", 2, api.ErrForm},
		{"01.05", 2, api.ErrForm},
		{".05", 2, api.ErrForm},
		{"-.05", 2, api.ErrForm},
		{"0.5", 2, api.ErrForm},
		{"0.005", 2, api.ErrForm},
		{"5", 2, api.ErrForm},
		{"105", 2, api.ErrForm},
		{"5.", 0, api.ErrForm},
		{"5.0", 0, api.ErrForm},
		{"0,05", 2, api.ErrForm},
		{"0.0.5", 2, api.ErrForm},
		{"1.0.05", 2, api.ErrForm},
		{"0..5", 2, api.ErrForm},
		{"0.-5", 2, api.ErrForm},
		{"--0.05", 2, api.ErrForm},
		{"+0.05", 2, api.ErrForm},
		{" 0.05", 2, api.ErrForm},
		{"0.05 ", 2, api.ErrForm},
		{"0.0a", 2, api.ErrForm},
		{"a.05", 2, api.ErrForm},
		{"1_0", 0, api.ErrForm},
		{"1e3", 0, api.ErrForm},
		{"0x1", 0, api.ErrForm},
		{"", 0, api.ErrForm},
		{"", 2, api.ErrForm},
		{"-", 0, api.ErrForm},
		{"-", 2, api.ErrForm},
		{".", 1, api.ErrForm},
		{"\u0661", 0, api.ErrForm},
		{"0" + nines, 0, api.ErrForm},
		{nines + "x", 0, api.ErrForm},
		{nines + ".9", 2, api.ErrForm},
		{nines, 0, api.ErrRange},
		{"-" + nines, 0, api.ErrRange},
		{nines + ".99", 2, api.ErrRange},
		{"-1" + strings.Repeat("0", 1000) + ".00", 2, api.ErrRange},
		{strconv.Itoa(api.MaxAmount + 1), 0, api.ErrRange},
		{strconv.Itoa(-api.MaxAmount - 1), 0, api.ErrRange},
		{"11258999068426.25", 2, api.ErrRange},
		{"9223372036854775808", 0, api.ErrRange},
		{"-9223372036854775808", 0, api.ErrRange},
		{"18446744073709551616", 0, api.ErrRange},
		{"18446744073709551617", 0, api.ErrRange},
	} {
		n, e := num.ParseDecimal(c.s, c.places)
		same(t, []any{c.s, c.places}, n, e, 0, c.err)
	}
}
