package house_test

import (
	"fmt"
	"strings"
	"testing"

	"merino/api"
	"merino/house"
)

// P10.4: days go on, and never back.
func TestDays(t *testing.T) {
	h := newHouse(t, exampleSetup)
	example.hold(t, h)
	talk(`day -1           ! 2
	day 1000001            ! 2
	day -1125899906842624  ! 2
	day 0                  ok
	day 7                  ok
	day 6                  ! 10
	day -1                 ! 2
	day 7                  ok
	pay zed 1000           ok
	balance b-zed          71000
	balance bank           1000
	if day 1000000         ok
	day 999999             ok
	balance b-zed          71000
	draw anna 560          ok
	day 1000000            ok
	day 999999             ! 10
	pay zed 71000          ok
	pay zed 1              ok
	balance b-zed          -1
	balance bank           71441
	balance g-anna         -70000
	day 1000000            ok`).hold(t, h)
	equal(t, "the audit", h.Exec("audit"), "good 18 180500 0 180500 0 0 0 72000 -1")
}

// P10.4: a buyer has a credit in the sale, and an account.
func TestBuyers(t *testing.T) {
	h := newHouse(t, setup(512))
	talk(`buyer a 0                  ok
	buyer b23456789012345 -1         ! 2
	buyer a23456789012345 5          ! 2
	buyer a234567890123456 5         ! 2
	buyer a2345678901234567 5        ! 2
	free a23456789012345             ! 7
	free a234567890123456            ! 7
	balance b-a23456789012345        ! 7
	buyer a2345678901234 5           ok
	balance b-a2345678901234         0
	buyer a234567890123 5            ok
	free a234567890123               5
	balance b-a234567890123          0
	buyer z 1125899906842624         ok
	free z                           1125899906842624
	buyer y 1125899906842625         ? word 2
	buyer y -1                       ! 2
	buyer a 1                        ! 8
	buyer a -1                       ! 2
	free a                           0
	balance b-a                      0
	balance a                        ! 7`).hold(t, h)
	for i := range 60 {
		equal(t, i, h.Exec(fmt.Sprint("buyer n", i, " 9")), "ok")
	}
	equal(t, "too many", h.Exec("buyer m 9"), "! 9")
	equal(t, "too many", h.Exec("buyer x23456789012345 5"), "! 9")
	equal(t, "no account", h.Exec("balance b-m"), "! 7")
}

// P10.4: what is paid, and what is drawn.
func TestPayments(t *testing.T) {
	h := newHouse(t, exampleSetup)
	example.hold(t, h)
	refusals(t, h, map[string]string{
		"pay zed -5": "! 2", "pay nobody 0": "! 2", "pay nobody -1": "! 2", "pay nobody 1": "! 7", "pay anna 1": "! 7",
		"pay b-zed 1": "! 7", "pay house 1": "! 7", "pay bank 1": "! 7", "pay Zed 1": "! 7", "pay nobody 1099511627777": "! 7",
		"pay zed 1099511627777": "! 2", "pay zed 1125899906842624": "! 2",
		"draw anna 0": "! 2", "draw zed 0": "! 2", "draw zed 1": "! 7", "draw bank 1": "! 7", "draw g-anna 1": "! 7",
		"draw zed 1099511627777": "! 7", "draw anna 1099511627777": "! 2", "draw anna -1125899906842624": "! 2",
		"balance zed": "! 7", "balance": "? line", "balance b-": "! 7",
	})
	talk(`pay zed 1              ok
	balance bank                 1
	balance b-zed                71999
	pay zed 1099511627776        ok
	balance bank                 1099511627777
	balance b-zed                -1099511555777
	draw anna 1099511627776      ok
	balance bank                 1
	balance g-anna               1099511557216
	balance house                0
	balance fee                  -1440
	free zed                     28000
	audit                        good 11 180500 0 180500 0 0 0 72000 -1099511555777`).hold(t, h)
}

// auction is a house in which a lot of these owners' bales, of so many grams
// each, is open in room 1, and a bid of a price that meets its reserve leads.
func auction(t *testing.T, s api.Setup, price int, owners []string, grams ...int) *house.House {
	t.Helper()
	h := newHouse(t, s)
	lot := "lot l"
	for i, owner := range owners {
		h.Exec(fmt.Sprint("clip m", i, " ", owner))
		equal(t, owner, h.Exec(fmt.Sprint("receive ", i+1, " aa ", grams[i])), fmt.Sprint("bale ", i+1))
		lot += fmt.Sprint(" ", i+1)
	}
	for _, line := range []string{lot, "buyer z 1125899906842624", say("enter l 1", price, price), say("bid z l", price)} {
		equal(t, line, h.Exec(line), "ok")
	}
	equal(t, "start", h.Exec("start 1"), "l")
	return h
}

// balances are those of the accounts, with a blank between.
func balances(h *house.House, accounts string) string {
	var all []string
	for _, account := range strings.Fields(accounts) {
		all = append(all, h.Exec("balance "+account))
	}
	return strings.Join(all, " ")
}

// scale is one of a single band.
func scale(upto, rate int) api.Setup {
	return api.Setup{Rooms: 1, Sectors: 512, Scale: []api.Band{{Upto: upto, Rate: rate}}}
}

// P10.6: the value is divided among the owners by their grams, and the
// brokerage of each share is kept.
func TestShares(t *testing.T) {
	cases := []struct {
		setup    api.Setup
		price    int
		owners   string
		grams    []int
		accounts string
		want     string
	}{
		// 40100 among 70000 and 30000 grams, of which 561.4 and 240.6 are kept.
		{scale(1<<40, 200), 401, "anna bert anna", []int{60000, 30000, 10000}, "b-z g-anna g-bert fee bank", "40100 -27509 -11789 -802 0"},
		// 1203 for 3.5 kilograms: 343.7, 343.7 and 515.6; the first two get what is left.
		{scale(1<<40, 0), 401, "c b a", []int{1500, 1000, 1000}, "b-z g-a g-b g-c fee", "1203 -344 -344 -515 0"},
		// Equal remainders: the first of the owners, not of the clips.
		{scale(1<<40, 0), 100, "c b a", []int{667, 667, 667}, "b-z g-a g-b g-c", "200 -67 -67 -66"},
		{scale(1<<40, 0), 1, "b a", []int{1000, 1000}, "b-z g-a g-b", "2 -1 -1"},
		{scale(1<<40, 0), 1, "b a", []int{500, 500}, "b-z g-a g-b", "1 -1 ! 7"},
		// A gram is worth nothing: no posting, no account.
		{scale(1<<40, 100), 1, "b a", []int{1, 999999}, "b-z g-a g-b fee", "1000 -990 ! 7 -10"},
		// All is kept.
		{scale(1<<40, 10000), 7, "a b", []int{1000, 2000}, "b-z g-a g-b fee", "21 ! 7 ! 7 -21"},
		{scale(1<<40, 5000), 1, "a b", []int{1000, 2000}, "b-z g-a g-b fee", "3 ! 7 -1 -2"},
		// Nothing is kept.
		{scale(1<<40, 1), 7, "a b", []int{1000, 2000}, "b-z g-a g-b fee", "21 -7 -14 0"},
		// Each share is charged by itself: 1000 and 3000, up to 2000 at a tenth, above at a hundredth.
		{api.Setup{Rooms: 1, Sectors: 128, Scale: []api.Band{{Upto: 2000, Rate: 1000}, {Upto: 9999, Rate: 100}}}, 1000, "a b",
			[]int{1000, 3000}, "b-z g-a g-b fee", "4000 -900 -2790 -310"},
		// The most that a lot can be sold for.
		{scale(1<<40, 200), 1 << 20, "a", []int{1<<20*1000 + 999}, "b-z g-a fee", "1099511627776 -1077521395220 -21990232556"},
	}
	for _, c := range cases {
		h := auction(t, c.setup, c.price, strings.Fields(c.owners), c.grams...)
		equal(t, c, h.Exec("if knock 1"), fmt.Sprint("sold l z ", c.price))
		equal(t, c, balances(h, c.accounts)[:2], "0 ")
		equal(t, c, h.Exec("knock 1"), fmt.Sprint("sold l z ", c.price))
		equal(t, c, balances(h, c.accounts), c.want)
		equal(t, c, h.Audit().Good, true)
	}
}

// P10.6: the grams are those at the time of the sale, of all parts of the bales
// that are then in the lot; the kilograms are those of the entry.
func TestSharesAtThatTime(t *testing.T) {
	h := newHouse(t, scale(1<<40, 0))
	talk(`clip a anna         clip 1
	clip b bert               clip 2
	clip c carl               clip 3
	receive 1 aa 30000        bale 1
	receive 2 aa 10000        bale 2
	receive 3 aa 90000        bale 3
	merge 1 2                 bale 4
	split 4 20000             bale 5
	receive 1 aa 20000        bale 6
	lot l 5 6                 ok
	buyer z 99999999          ok
	enter l 1 100 100         ok
	weigh 6 5000              ok
	core 5 10000              ok
	day 9                     ok
	bid z l 100               ok
	start 1                   l
	knock 1                   sold l z 100
	balance b-z               4000
	balance g-anna            -3333
	balance g-bert            -667
	balance g-carl            ! 7
	audit                     good 18 150000 -15000 125000 10000 0 0 4000 4000`).hold(t, h)
	// On the day of the sale, not ahead of it.
	equal(t, "the day", h.Exec("day 8"), "! 10")
}

// P10.6: a sale that cannot be posted is refused: the hammer does not fall.
func TestSalesRefused(t *testing.T) {
	long := "o23456789012345"
	many := make([]string, 16)
	grams := make([]int, 16)
	for i := range many {
		many[i], grams[i] = fmt.Sprintf("o%02d", i), 1000
	}
	for name, c := range map[string]struct {
		h    *house.House
		want string
	}{
		"room":                       {newHouse(t, setup(16)), "! 10"},
		"charge":                     {auction(t, scale(699, 200), 100, []string{"a"}, 7000), "! 4"},
		"charge of one":              {auction(t, scale(699, 200), 100, []string{"a", "b"}, 1000, 7000), "! 4"},
		"charge ahead of open":       {auction(t, scale(699, 200), 100, []string{"a" + long[1:], "b"}, 1000, 7000), "! 4"},
		"open":                       {auction(t, scale(700, 200), 100, []string{"b", "a" + long[1:]}, 7000, 1000), "! 2"},
		"no bands":                   {auction(t, api.Setup{Rooms: 1, Sectors: 64}, 1, []string{"a"}, 1000), "! 4"},
		"post":                       {auction(t, scale(1<<40, 5000), 100, many[:15], grams[:15]...), "! 3"},
		"open ahead of post":         {auction(t, scale(1<<40, 5000), 100, append(many[:14:14], long), grams[:15]...), "! 2"},
		"post, though accounts open": {auction(t, scale(1<<40, 0), 100, many, grams...), "! 3"},
	} {
		refusals(t, c.h, map[string]string{"knock 1": c.want, "if knock 1": c.want, "knock  1": c.want})
		equal(t, name, c.h.Exec("balance fee"), "0")
	}
	// As many postings as may be.
	equal(t, "14 owners", auction(t, scale(1<<40, 5000), 100, many[:14], grams[:14]...).Exec("knock 1"), "sold l z 100")
	equal(t, "15 owners", auction(t, scale(1<<40, 0), 100, many[:15], grams[:15]...).Exec("knock 1"), "sold l z 100")
	equal(t, "14 bytes", auction(t, scale(1<<40, 0), 100, []string{long[:14]}, 1000).Exec("knock 1"), "sold l z 100")
	// No account is needed for an owner to whom nothing is posted.
	h := auction(t, scale(1<<40, 0), 1, []string{"b", long}, 999999, 1)
	equal(t, "a gram", h.Exec("knock 1"), "sold l z 1")
	equal(t, "a gram", balances(h, "b-z g-b g-"+long), "1000 -1000 ! 7")
}

// P10.6: the first error is that of Apportion; a refused entry stays open, or
// passed, and can be sold when what was wrong is put right.
func TestSalesRefusedAndRepaired(t *testing.T) {
	h := auction(t, scale(800000, 200), 1000, []string{"a", "a"}, 500000, 300000)
	talk(`weigh 1 1073741824   ok
	knock 1                    ! 2
	standing l                 z 1000
	start 1                    ! 10
	withdraw l                 ! 10
	core 2 1                   ok
	weigh 1 1073441826         ok
	knock 1                    ! 2
	balance g-a                ! 7
	weigh 1 1073441825         ok
	if core 1 1                ok
	knock 1                    sold l z 1000
	balance g-a                -784000`).hold(t, h)
	// Apportion comes ahead of Charge, which would refuse the shares as well.
	h = auction(t, scale(10, 200), 1000, []string{"b", "a"}, 500000, 300000)
	talk(`knock 1              ! 4
	weigh 1 1073741824         ok
	weigh 2 1073741824         ok
	knock 1                    ! 4`).hold(t, h)
	h = auction(t, scale(10, 200), 1000, []string{"a", "a"}, 500000, 300000)
	talk(`knock 1              ! 4
	weigh 1 1073741824         ok
	knock 1                    ! 2
	core 1 1073741823          ok
	knock 1                    ! 4`).hold(t, h)
	h = newHouse(t, scale(1000, 200))
	talk(`clip m a                 clip 1
	receive 1 aa 10000             bale 1
	lot l 1                        ok
	buyer z 100000                 ok
	enter l 1 50 200               ok
	bid z l 70                     ok
	start 1                        l
	knock 1                        passed l
	accept z l                     ! 4
	turn l                         z
	free z                         100000
	lower l 101                    ok
	accept z l                     ! 4
	lower l 100                    ok
	if accept z l                  sold l z 100
	accept z l                     sold l z 100
	balance g-a                    -980
	free z                         99000`).hold(t, h)
}

// P10.6: that of Open is ErrFull where there is no room for an account.
func TestTooManyAccounts(t *testing.T) {
	h := newHouse(t, scale(1<<40, 200))
	for i := range 64 {
		equal(t, i, h.Exec(fmt.Sprint("buyer n", i, " 99999")), "ok")
		equal(t, i, h.Exec(fmt.Sprint("clip m", i, " o", i)), fmt.Sprint("clip ", i+1))
		equal(t, i, h.Exec(fmt.Sprint("receive ", i+1, " aa 1000")), fmt.Sprint("bale ", i+1))
	}
	sell := func(name string, from, to int) string {
		line := "lot " + name
		for i := from; i < to; i++ {
			line += fmt.Sprint(" ", i+1)
		}
		for _, line := range []string{line, say("enter", name, 1, 9, 9), say("bid n0", name, 9)} {
			equal(t, line, h.Exec(line), "ok")
		}
		equal(t, name, h.Exec("start 1"), name)
		return h.Exec("knock 1")
	}
	for i := range 5 {
		name := fmt.Sprint("l", i)
		equal(t, name, sell(name, 12*i, 12*i+12), "sold "+name+" n0 9")
	}
	equal(t, "two more than 61", sell("more", 60, 62), "! 9")
	equal(t, "no account", balances(h, "g-o59 g-o60 g-o61"), "-9 ! 7 ! 7")
	talk(`core 61 500    ok
	core 61 499          ok
	weigh 62 1000000     ok
	knock 1              sold more n0 9
	balance g-o60        ! 7
	balance g-o61        -18
	weigh 63 2000        ok
	lot last 63          ok
	enter last 1 9 9     ok
	bid n0 last 9        ok
	start 1              last
	knock 1              ! 9`).hold(t, h)
	equal(t, "good", h.Audit().Good, true)
}
