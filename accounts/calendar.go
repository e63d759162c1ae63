// Package accounts is layer 7, the money: see shared/doc/07-accounts.md.
package accounts

import (
	"slices"

	"merino/api"
)

// Limits of the calendar that the chapter writes as numbers.
const (
	firstYear = 2000 // begins with day 0, a Saturday
	lastYear  = 5000

	mostHolidays = 64
	mostAhead    = 366
)

// DayOf returns the day of a date.
func DayOf(d api.Date) (int, api.Errno) {
	if d.Year < firstYear || d.Year > lastYear || d.Month < 1 || d.Month > 12 ||
		d.Day < 1 || d.Day > monthLength(d.Year, d.Month) {
		return 0, api.ErrArg
	}
	day := yearStart(d.Year) + d.Day - 1
	for month := 1; month < d.Month; month++ {
		day += monthLength(d.Year, month)
	}
	if day > api.MaxDay {
		return 0, api.ErrRange
	}
	return day, api.OK
}

// DateOf returns the date of a day.
func DateOf(day int) (api.Date, api.Errno) {
	if !isDay(day) {
		return api.Date{}, api.ErrArg
	}
	// As no year is longer than 366 days, this one is not too late.
	year := firstYear + day/366
	for yearStart(year+1) <= day {
		year++
	}
	rest := day - yearStart(year)
	month := 1
	for rest >= monthLength(year, month) {
		rest -= monthLength(year, month)
		month++
	}
	return api.Date{Year: year, Month: month, Day: rest + 1}, api.OK
}

// Working reports whether a day is a working day.
func Working(day int, holidays []int) (bool, api.Errno) {
	if err := checkDays(day, holidays); err != api.OK {
		return false, err
	}
	return isWorking(day, holidays), api.OK
}

// Prompt returns the n-th working day after a day.
func Prompt(day, n int, holidays []int) (int, api.Errno) {
	if err := checkDays(day, holidays); err != api.OK {
		return 0, err
	}
	if n < 1 || n > mostAhead {
		return 0, api.ErrArg
	}
	for n > 0 {
		day++
		if isWorking(day, holidays) {
			n--
		}
	}
	if day > api.MaxDay {
		return 0, api.ErrRange
	}
	return day, api.OK
}

// isDay reports whether n is a day.
func isDay(n int) bool { return 0 <= n && n <= api.MaxDay }

// checkDays returns an error unless these are a day and holidays.
func checkDays(day int, holidays []int) api.Errno {
	if len(holidays) > mostHolidays {
		return api.ErrLimit
	}
	for _, holiday := range holidays {
		if !isDay(holiday) {
			return api.ErrArg
		}
	}
	if !isDay(day) {
		return api.ErrArg
	}
	return api.OK
}

// isWorking reports whether a day is neither a Saturday nor a Sunday nor a
// holiday.
func isWorking(day int, holidays []int) bool {
	return day%7 > 1 && !slices.Contains(holidays, day)
}

// yearStart returns the day with which a year begins.
func yearStart(year int) int {
	years := year - firstYear
	// Of the years before, the first is a leap year, and then each fourth, but
	// for the hundredths that are not four-hundredths.
	return 365*years + (years+3)/4 - (years+99)/100 + (years+399)/400
}

// monthLength returns how many days a month has.
func monthLength(year, month int) int {
	switch month {
	case 2:
		if year%4 == 0 && (year%100 != 0 || year%400 == 0) {
			return 29
		}
		return 28
	case 4, 6, 9, 11:
		return 30
	default:
		return 31
	}
}
