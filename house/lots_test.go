package house_test

import (
	"fmt"
	"strings"
	"testing"

	"merino/api"
)

// P10.3, P10.7, P10.9: the commands of the store, with their numbers, and what
// show and lots tell of it.
func TestStore(t *testing.T) {
	h := newHouse(t, setup(128))
	talk(`clip m anna         clip 1
	clip k bert               clip 2
	clip m bert               ! 8
	receive 1 aa 700          bale 1
	receive 2 aa 300          bale 2
	receive 3 aa 300          ! 7
	receive 2 aa 0            ! 2
	show 2                    aa 300 0 - 2:300
	merge 1 2                 bale 3
	show 1                    aa 700 3 - 1:700
	show 3                    aa 1000 0 - 1:700 2:300
	split 3 101               bale 4
	show 4                    aa 101 0 - 1:71 2:30
	show 3                    aa 899 0 - 1:629 2:270
	weigh 4 100               ok
	show 4                    aa 100 0 - 1:70 2:30
	core 4 20                 ok
	show 4                    aa 80 0 - 1:56 2:24
	core 4 80                 ! 11
	hold 4                    ok
	show 4                    aa 80 2 - 1:56 2:24
	waste 4                   ! 10
	release 4                 ok
	release 4                 ! 10
	waste 4                   ok
	show 4                    aa 80 3 - 1:56 2:24
	receive 2 bb 5000         bale 5
	lots
	lot y 5                   ok
	lot b 3                   ok
	lot m 3                   ! 10
	lot b 3                   ! 8
	lots                      b y
	show 3                    aa 899 1 b 1:629 2:270
	show 6                    ! 7
	show 0                    ! 7
	show -1                   ! 7
	merge 3 5                 ! 10
	core 3 99                 ok
	weigh 3 900               ok
	audit                     good 16 6000 99 5900 119 80 0 0 0
	unlot b                   ok
	unlot b                   ! 7
	lots                      y
	show 3                    aa 900 0 - 1:630 2:270
	receive 1 aa 2            bale 6
	merge 5 6                 ! 10
	unlot y                   ok
	merge 5 6                 ! 12`).hold(t, h)
	equal(t, "the audit", h.Exec("audit"), "good 19 6002 99 5902 119 80 0 0 0")
}

// P10.3: merge and lot name up to 16 bales; P10.7: dumps have up to 3 bales, and
// are made of up to 12.
func TestManyBales(t *testing.T) {
	h := newHouse(t, setup(256))
	talk(`clip m anna  clip 1`).hold(t, h)
	for range 17 {
		h.Exec("receive 1 aa 1000")
	}
	talk(`lot a 17 3 5 1 4      ok
	dumps a 3000                2 1,3,4 5,17
	dumps a 2999                3 1,3 4,5 17
	dumps a 1000                5 1 3 4 5 17
	dumps a 999                 ! 13
	dumps a 0                   ! 2
	dumps a -1                  ! 2
	dumps a 1073741824          2 1,3,4 5,17
	dumps a 1073741825          ! 2
	dumps b 1073741825          ! 7
	weigh 3 2000                ok
	dumps a 3000                2 1,3 4,5,17
	unlot a                     ok`).hold(t, h)
	equal(t, "12 bales", h.Exec("lot a"+counting(12)), "ok")
	equal(t, "12 bales", h.Exec("dumps a 9000"), "4 1,2,3 4,5,6 7,8,9 10,11,12")
	equal(t, "unlot", h.Exec("unlot a"), "ok")
	equal(t, "13 bales", h.Exec("lot a"+counting(13)), "ok")
	equal(t, "13 bales", h.Exec("dumps a 9000"), "! 3")
	equal(t, "13 bales", h.Exec("dumps a 0"), "! 3")
	equal(t, "unlot", h.Exec("unlot a"), "ok")
	equal(t, "16 bales", h.Exec("lot a"+counting(16)), "ok")
	equal(t, "unlot", h.Exec("unlot a"), "ok")
	equal(t, "16 bales", h.Exec("merge"+counting(16)), "bale 18")
	equal(t, "the bale", h.Exec("show 18"), "aa 17000 0 - 1:17000")
}

// lives are those of lots that are entered in the sale, in all ways.
const lives talk = `clip m anna           clip 1
	receive 1 aa 999            bale 1
	receive 1 aa 1000           bale 2
	receive 1 aa 3999           bale 3
	receive 1 aa 5000           bale 4
	buyer zed 1000000           ok
	unlot l1                    ! 7
	send l1                     ! 7
	enter l1 9 0 0              ! 7
	lot l1 1                    ok
	send l1                     ! 10
	enter l1 1 400 400          ! 2
	core 1 1                    ok
	unlot l1                    ok
	lot l1 1 2                  ok
	enter l1 9 400 400          ! 2
	enter l1 2 400 399          ! 2
	enter l1 2 400 400          ok
	enter l1 2 400 400          ! 8
	unlot l1                    ! 10
	send l1                     ! 10
	start 2                     l1
	unlot l1                    ! 10
	send l1                     ! 10
	knock 2                     passed l1
	unlot l1                    ! 10
	send l1                     ! 10
	turn l1                     ! 16
	lot l2 3                    ok
	enter l2 1 300 400          ok
	bid zed l2 350              ok
	standing l2                 zed 300
	weigh 3 8000                ok
	core 3 1                    ok
	start 1                     l2
	free zed                    998950
	knock 1                     passed l2
	turn l2                     zed
	unlot l2                    ! 10
	send l2                     ! 10
	lower l2 299                ! 2
	lower l2 350                ok
	accept zed l2               sold l2 zed 350
	balance b-zed               1050
	unlot l2                    ! 10
	show 3                      aa 7999 1 l2 1:7999
	core 3 999                  ok
	send l2                     ok
	show 3                      aa 7000 3 l2 1:7000
	send l2                     ! 10
	unlot l2                    ! 10
	enter l2 9 0 0              ! 10
	dumps l2 0                  ! 10
	lots                        l1 l2
	lot l3 4                    ok
	enter l3 1 1 1              ok
	withdraw l3                 ok
	send l3                     ! 10
	enter l3 1 1 1              ! 8
	unlot l3                    ok
	unlot l3                    ! 7
	send l3                     ! 7
	lot l3 4                    ok
	enter l3 1 1 1              ! 8
	send l3                     ! 10
	lots                        l1 l2 l3
	unlot l3                    ok
	lot l4 4                    ok
	enter l4 1 500 500          ok
	bid zed l4 500              ok
	start 1                     l4
	knock 1                     sold l4 zed 500
	unlot l4                    ! 10
	send l4                     ok
	decline zed l1              ! 16
	audit                       good 36 10998 4001 1998 1001 0 12000 3550 3550`

// P10.5: what of a lot its entry in the sale allows.
func TestLotsInTheSale(t *testing.T) { lives.hold(t, newHouse(t, setup(256))) }

// P10.3, P10.16: what the sale answers, and that what it refuses changes
// nothing.
func TestSale(t *testing.T) {
	h := newHouse(t, setup(256))
	talk(`clip m anna           clip 1
	receive 1 aa 10000          bale 1
	receive 1 aa 20000          bale 2
	lot l1 1                    ok
	lot l2 2                    ok
	buyer zed 20000             ok
	buyer yan 20000             ok
	enter l1 1 400 600          ok
	enter l2 1 400 900          ok
	standing l1                 ! 15
	bid zed l1 700              ok
	standing l1                 zed 600
	bid yan l1 650              ok
	standing l1                 zed 652
	start 1                     l1
	free zed                    13000
	free yan                    13500
	bid yan l2 500              ok`).hold(t, h)
	refusals(t, h, map[string]string{
		"bid xi l1 400": "! 7", "bid zed l3 400": "! 7", "bid zed l1 0": "! 2", "bid zed l1 650": "! 15", "bid zed l1 2001": "! 14",
		"start 1": "! 10", "start 0": "! 2", "start 2": "! 7", "start 3": "! 2", "knock 2": "! 10", "knock 3": "! 2", "knock -1": "! 2",
		"withdraw l1": "! 10", "withdraw l3": "! 7", "lower l1 500": "! 10", "lower l2 900": "! 2", "lower l3 900": "! 7",
		"accept zed l1": "! 10", "accept xi l1": "! 7", "accept zed l3": "! 7", "decline zed l1": "! 10", "decline xi l3": "! 7",
		"turn l1": "! 10", "turn l3": "! 7", "standing l3": "! 7", "free xi": "! 7", "balance b-xi": "! 7", "balance anna": "! 7",
		"buyer zed 5": "! 8", "buyer x -1": "! 2", "buyer ? 1": "! 2", "enter l2 1 1 1": "! 8",
	})
	talk(`if knock 1          sold l1 zed 652
	knock 1                     sold l1 zed 652
	knock 1                     ! 10
	standing l1                 ! 10
	start 1                     l2
	bid zed l2 600              ok
	knock 1                     passed l2
	turn l2                     zed
	accept yan l2               ! 16
	accept zed l2               ! 14
	decline zed l2              ok
	turn l2                     yan
	decline zed l2              ! 16
	lower l2 800                ok
	accept yan l2               sold l2 yan 800
	turn l2                     ! 10
	free yan                    4000
	free zed                    13480
	balance b-yan               16000
	balance b-zed               6520
	balance fee                 -450
	balance g-anna              -22070
	audit                       good 20 30000 0 30000 0 0 0 22520 22520`).hold(t, h)
	equal(t, "the disk", strings.Join(bookOf(t, h.Disk()), "/"), strings.Join(h.Book(), "/"))
}

// P10.1, P10.9: a sale has all its rooms, and the audit goes through them.
func TestAllRooms(t *testing.T) {
	for rooms := 1; rooms <= 4; rooms++ {
		h := newHouse(t, api.Setup{Rooms: rooms, Sectors: 128, Scale: []api.Band{{Upto: 1 << 40, Rate: 200}}})
		talk(`clip m anna  clip 1
		buyer zed 9999999  ok`).hold(t, h)
		for i := range rooms {
			no := i + 1
			lot := fmt.Sprint("l", no)
			h.Exec("receive 1 aa 1000")
			h.Exec(say("lot", lot, no))
			h.Exec(say("enter", lot, no, 100*no, 100*no))
			h.Exec(say("bid zed", lot, 100*no))
			equal(t, lot, h.Exec(say("start", no)), lot)
			equal(t, lot, h.Exec(say("knock", no)), say("sold", lot, "zed", 100*no))
		}
		sum := 100 * rooms * (rooms + 1) / 2
		equal(t, rooms, h.Audit(), api.Audit{Commands: 2 + 6*rooms, In: 1000 * rooms, Live: 1000 * rooms, Sold: sum, Money: sum, Good: true})
	}
}
