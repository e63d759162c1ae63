package accounts_test

import (
	"math"
	"slices"
	"testing"
	"time"

	"merino/accounts"
	"merino/api"
)

// date is a date.
func date(year, month, day int) api.Date { return api.Date{Year: year, Month: month, Day: day} }

// The chapter's first example, and days whose dates are plain (P7.1).
func TestDayOf(t *testing.T) {
	for _, c := range []struct {
		date api.Date
		day  int
	}{
		{date(2000, 1, 1), 0}, {date(2000, 1, 31), 30}, {date(2000, 2, 1), 31}, {date(2000, 2, 29), 59},
		{date(2000, 3, 1), 60}, {date(2000, 12, 31), 365}, {date(2001, 1, 1), 366}, {date(2001, 3, 1), 366 + 59},
		{date(2004, 1, 1), 4*365 + 1}, {date(2004, 2, 29), 4*365 + 1 + 59}, {date(2100, 2, 28), 36525 + 58},
		{date(2100, 3, 1), 36525 + 59}, {date(2101, 1, 1), 36525 + 365}, {date(2400, 1, 1), 146097},
		{date(2400, 2, 29), 146097 + 59}, {date(4737, 11, 28), api.MaxDay},
	} {
		day, e := accounts.DayOf(c.date)
		same(t, c.date, day, e, c.day, api.OK)
		got, e := accounts.DateOf(c.day)
		same(t, c.day, got, e, c.date, api.OK)
	}
}

// P7.1 and P7.11: every day has the date after that of the day before it, and
// is the day of its date.
func TestEveryDay(t *testing.T) {
	next := time.Date(2000, 1, 1, 0, 0, 0, 0, time.UTC)
	for day := 0; day <= api.MaxDay; day++ {
		want := date(next.Year(), int(next.Month()), next.Day())
		got, e := accounts.DateOf(day)
		back, e2 := accounts.DayOf(want)
		if got != want || e != api.OK || back != day || e2 != api.OK {
			t.Fatal(day, got, e, back, e2, "want:", want)
		}
		next = next.AddDate(0, 0, 1)
	}
	for _, day := range notDays {
		got, e := accounts.DateOf(day)
		same(t, day, got, e, api.Date{}, api.ErrArg)
	}
}

// P7.1: of every year, the dates that there are and that there are not.
func TestEveryDate(t *testing.T) {
	start := time.Date(2000, 1, 1, 0, 0, 0, 0, time.UTC)
	for year := 1995; year <= 5005; year++ {
		for month := -1; month <= 14; month++ {
			for day := -1; day <= 33; day++ {
				at := time.Date(year, time.Month(month), day, 0, 0, 0, 0, time.UTC)
				want, wantErr := int((at.Unix()-start.Unix())/(24*60*60)), api.Errno(api.OK)
				switch {
				case year < 2000 || year > 5000 || at.Year() != year || int(at.Month()) != month || at.Day() != day:
					want, wantErr = 0, api.ErrArg
				case want > api.MaxDay:
					want, wantErr = 0, api.ErrRange
				}
				got, e := accounts.DayOf(date(year, month, day))
				same(t, date(year, month, day), got, e, want, wantErr)
			}
		}
	}
}

// P7.1: numbers that are nowhere near a date's.
func TestNoDate(t *testing.T) {
	for _, n := range []int{math.MinInt, math.MinInt + 1, -4, -1, 1 << 32, 1<<32 + 1, math.MaxInt - 1, math.MaxInt} {
		for _, d := range []api.Date{date(n, 1, 1), date(2000, n, 1), date(2000, 1, n), date(n, n, n), date(4999, n, 1)} {
			got, e := accounts.DayOf(d)
			same(t, d, got, e, 0, api.ErrArg)
		}
	}
}

// P7.2: Saturdays, Sundays and holidays are no working days.
func TestWorking(t *testing.T) {
	holidays := []int{4, 4, 0, 999999, 18, 11}
	for day := range 3000 {
		at := time.Date(2000, 1, 1+day, 0, 0, 0, 0, time.UTC).Weekday()
		isWeekday := at != time.Saturday && at != time.Sunday
		got, e := accounts.Working(day, nil)
		same(t, day, got, e, isWeekday, api.OK)
		got, e = accounts.Working(day, holidays)
		same(t, day, got, e, isWeekday && day != 4 && day != 18 && day != 11, api.OK)
	}
	// The last three days are a Friday, a Saturday and a Sunday.
	for _, day := range []int{api.MaxDay - 2, api.MaxDay - 1, api.MaxDay} {
		got, e := accounts.Working(day, nil)
		same(t, day, got, e, day == api.MaxDay-2, api.OK)
		got, e = accounts.Working(day, []int{api.MaxDay, api.MaxDay - 2})
		same(t, day, got, e, false, api.OK)
	}
}

// The chapter's first example, and Prompt where the day is plain (P7.2).
func TestPrompt(t *testing.T) {
	for _, c := range []struct {
		day, n   int
		holidays []int
		want     int
	}{
		{0, 1, []int{2}, 3}, {0, 1, nil, 2}, {1, 1, nil, 2}, {2, 1, nil, 3}, {2, 4, nil, 6}, {2, 5, nil, 9}, {6, 1, nil, 9},
		{6, 1, []int{9, 8, 9, 7}, 10}, {3, 1, []int{3}, 4}, {0, 5, []int{0, 1}, 6}, {0, 365, nil, 73*7 - 1}, {0, 366, nil, 73*7 + 2},
		{api.MaxDay - 3, 1, nil, api.MaxDay - 2},
	} {
		got, e := accounts.Prompt(c.day, c.n, c.holidays)
		same(t, c, got, e, c.want, api.OK)
	}
}

// P7.2: the last days.
func TestPromptRange(t *testing.T) {
	// MaxDay is a Sunday.
	for _, c := range []struct {
		day, n   int
		holidays []int
		want     int
	}{
		{api.MaxDay, 1, nil, 0}, {api.MaxDay, 366, nil, 0}, {api.MaxDay - 1, 1, nil, 0}, {api.MaxDay - 2, 1, nil, 0},
		{api.MaxDay - 3, 1, nil, api.MaxDay - 2}, {api.MaxDay - 3, 2, nil, 0}, {api.MaxDay - 3, 1, []int{api.MaxDay - 2}, 0},
		{api.MaxDay - 4, 1, []int{api.MaxDay - 3}, api.MaxDay - 2}, {api.MaxDay - 7, 5, nil, api.MaxDay - 2},
		{api.MaxDay - 7, 6, nil, 0},
	} {
		got, e := accounts.Prompt(c.day, c.n, c.holidays)
		wantErr := api.Errno(api.OK)
		if c.want == 0 {
			wantErr = api.ErrRange
		}
		same(t, c, got, e, c.want, wantErr)
	}
}

// P7.2 and P7.11: Prompt finds the n-th of the working days behind a day, one
// by one; is monotone in n; and goes on where it stopped.
func TestPromptStepByStep(t *testing.T) {
	d := dice(1)
	for range 1000 {
		day := d.IntN(600)
		if d.IntN(4) == 0 {
			day = api.MaxDay - d.IntN(600)
		}
		var holidays []int
		for range d.IntN(65) {
			holidays = append(holidays, min(day+d.IntN(120), api.MaxDay))
		}
		if len(holidays) > 0 && d.IntN(3) == 0 {
			for i := range holidays {
				holidays[i] = min(day+i, api.MaxDay)
			}
		}
		var all []int
		for later := day + 1; later <= api.MaxDay && len(all) < 366; later++ {
			if isIn, _ := accounts.Working(later, holidays); isIn {
				all = append(all, later)
			}
		}
		passed := slices.Clone(holidays)
		for n := 1; n <= 366; n++ {
			want, wantErr := 0, api.Errno(api.ErrRange)
			if n <= len(all) {
				want, wantErr = all[n-1], api.OK
			}
			got, e := accounts.Prompt(day, n, holidays)
			same(t, n, got, e, want, wantErr)
		}
		for range 20 {
			m, n := 1+d.IntN(200), 1+d.IntN(166)
			far, e1 := accounts.Prompt(day, m+n, holidays)
			near, e2 := accounts.Prompt(day, m, holidays)
			last, e3 := accounts.Prompt(near, n, holidays)
			if e1 == api.OK && (e2 != api.OK || e3 != api.OK || last != far || near >= far) {
				t.Error(day, m, n, holidays, far, near, last)
			}
		}
		if !slices.Equal(holidays, passed) {
			t.Error("the holidays were changed")
		}
	}
}

// P7.2: the errors of Working and Prompt, in their order.
func TestDaysErrors(t *testing.T) {
	fails := func(day, n int, holidays []int, want api.Errno) {
		t.Helper()
		got, e := accounts.Prompt(day, n, holidays)
		same(t, []any{day, n, holidays}, got, e, 0, want)
		if n == 1 {
			is, e := accounts.Working(day, holidays)
			same(t, []any{day, holidays}, is, e, false, want)
		}
	}
	most := make([]int, 64)
	for _, bad := range notDays {
		fails(bad, 1, nil, api.ErrArg)
		fails(2, 1, []int{bad}, api.ErrArg)
		fails(2, 1, append(most[:63:63], bad), api.ErrArg)
		fails(bad, 1, make([]int, 65), api.ErrLimit)
		fails(api.MaxDay, 366, []int{bad}, api.ErrArg) // not ErrRange
		fails(bad, 0, append(most, bad), api.ErrLimit)
	}
	for _, n := range []int{math.MinInt, -1, 0, 367, math.MaxInt} {
		fails(2, n, nil, api.ErrArg)
		fails(api.MaxDay, n, nil, api.ErrArg)
		fails(2, n, make([]int, 65), api.ErrLimit)
	}
	got, e := accounts.Prompt(0, 1, most)
	same(t, "64 holidays", got, e, 2, api.OK)
	is, e := accounts.Working(2, most)
	same(t, "64 holidays", is, e, true, api.OK)
	for i := range most {
		most[i] = i
	}
	got, e = accounts.Prompt(0, 1, most)
	same(t, "64 holidays in a row", got, e, 65, api.OK)
}
