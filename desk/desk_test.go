package desk_test

import (
	"encoding/binary"
	"slices"
	"strconv"
	"strings"
	"testing"

	"nuncio/api"
	"nuncio/blake"
	"nuncio/channel"
	"nuncio/desk"
)

// TestExamples are those of the chapter and of the whole.
func TestExamples(t *testing.T) { // P24.1 (O1)
	play(t, desk.New(),
		"new 3 4", "ok", "send 0 ann bob coin 5 20", "ok", "block 0 1", "0", "relay 1", "2", "block 1 1", "0 0",
		"balance 1 bob a/coin", "5", "balance 0 escrow coin", "5",
		"show 1", "answer/1=ok\nbank/a/coin/bob=5\nbank/gold/bob=1000\nreceipt/1=1\n",
		"watch 0 0 0 100 1", refused(api.ErrOptions), "watch 0 1 2 100 1", "ok", "follow 2", "1", "follow 9", refused(api.ErrBlock), "trusted", "1 2", "header 3", refused(api.ErrFetch),
		// Relayed twice, it is done once.
		"relay 0", "2", "relay 0", "2", "block 0 1", "0 0 153 203", "balance 0 escrow coin", "5",
		// Its time is over: it comes back.
		"send 0 ann bob coin 7 3", "ok", "block 0 1", "0", "block 1 1", "", "relay 1", "1", "relay 0", "2", "block 1 1", "0", "block 0 1", "0 0", "balance 0 ann coin", "995", "balance 1 bob a/coin", "5")
}

// TestInTime: a packet is received in a block below its Timeout, or comes back.
func TestInTime(t *testing.T) { // P24.1 (O1), T5
	for n, in := range []bool{true, true, false, false} {
		d := world(t, "new 3 4", "send 0 ann bob coin 5 4", "block 0 1")
		blocks(t, d, 1, n)
		if in {
			play(t, d, "relay 1", "2", "block 1 1", "0 0", "block 1 1", "", "block 1 1", "", "relay 0", "2", "block 0 1", "0 0", "balance 0 ann coin", "995", "balance 1 bob a/coin", "5")
			continue
		}
		play(t, d, "relay 1", "1", "block 1 1", "0", "relay 0", "2", "block 0 1", "0 0", "balance 0 ann coin", "1000", "balance 1 bob a/coin", "0")
	}
}

// commitOf is the value of a packet's commit entry.
func commitOf(t *testing.T, from string, seq int, denom string, n uint64, who, to string, timeout int) string {
	t.Helper()
	text := func(b []byte, s string) []byte {
		return append(binary.BigEndian.AppendUint16(b, uint16(len(s))), s...)
	}
	b := binary.BigEndian.AppendUint64(text(nil, denom), n)
	b = text(text(b, who), to)
	h, e := channel.Hash(api.Packet{Seq: seq, From: from, Data: string(b), Timeout: timeout})
	if e != api.OK {
		t.Fatalf("Hash: %d", e)
	}
	return blake.Text(h)
}

// TestNew: 1 to 8 validators each; a world takes the place of the one there was, and the watch goes.
func TestNew(t *testing.T) { // P24.1 (O1)
	for a := range 10 {
		for b := range 10 {
			line := "new " + strconv.Itoa(a) + " " + strconv.Itoa(b)
			if a >= 1 && a <= 8 && b >= 1 && b <= 8 {
				d := world(t, line)
				play(t, d, "clock", "10", "height 0", "1", "height 1", "1", "show 0", "bank/coin/ann=1000\n", "show 1", "bank/gold/bob=1000\n", "trusted", refused(api.ErrFetch), "follow 2", refused(api.ErrFetch))
				continue
			}
			seed(func() *desk.Desk { return busy(t) }).unchanged(t, func(d *desk.Desk) { play(t, d, line, refused(api.ErrArg)) })
		}
	}
	play(t, desk.New(), "new 999999999 1", refused(api.ErrArg), "new 1 999999999", refused(api.ErrArg), "clock", refused(api.ErrRelay))
	fresh := func() *desk.Desk { return world(t, "new 2 5") }
	seed(fresh).unchanged(t, func(d *desk.Desk) {
		*d = *busy(t)
		all(t, d, "new 2 5")
	})
}

// TestCrews: the first number is of a, the second of b.
func TestCrews(t *testing.T) { // P24.1 (O1)
	heads := map[string]bool{}
	for _, line := range []string{"new 2 5", "new 5 2", "new 2 2", "new 5 5"} {
		d := world(t, line)
		all(t, d, "watch 0 1 2 100 1")
		a := told(t, d, "header 1")
		all(t, d, "watch 1 1 2 100 1")
		heads["a "+line[4:5]+" "+a], heads["b "+line[6:7]+" "+told(t, d, "header 1")] = true, true
	}
	if len(heads) != 4 {
		t.Errorf("%d unlike first blocks, not 4", len(heads))
	}
}

// TestPay: from, to, denom and N stand in their places, at the chain that is named.
func TestPay(t *testing.T) { // P24.1 (O1)
	play(t, world(t, "new 3 4"),
		"pay 0 ann bob coin 7", "ok", "pay 0 bob cid coin 3", "ok", "pay 1 bob ann gold 11", "ok", "pay 1 ann dan gold 12", "ok",
		"balance 0 bob coin", "0", "show 0", "bank/coin/ann=1000\n", // nothing is done ahead of a block
		"block 0 1", "0 0", "block 1 1", "0 181",
		"show 0", "bank/coin/ann=993\nbank/coin/bob=4\nbank/coin/cid=3\n", "show 1", "bank/gold/ann=11\nbank/gold/bob=989\n",
		"pay 0 escrow ann coin 1", "ok", "pay 0 ann escrow coin 1", "ok", "pay 0 ann bob gold 1", "ok", "pay 0 ann bob coin 0", "ok", "pay 0 ann Bob coin 1", "ok", "pay 0 ann bob coin 994", "ok", "pay 0 ann bob coin 993", "ok",
		"block 0 1", "183 183 181 1 183 181 0", "balance 0 bob coin", "997", "balance 0 ann coin", "0")
}

// TestSend: what is sent, from whom, to whom, and till when.
func TestSend(t *testing.T) { // P24.1 (O1)
	d := world(t, "new 3 4")
	play(t, d,
		"send 0 ann bob coin 5 20", "ok", "send 0 ann dan coin 20 5", "ok", "send 1 bob eve gold 300 999999999", "ok", "send 0 ann bob coin 5 1", "ok", "send 0 ann bob coin 5 0", "ok", "send 0 escrow bob coin 5 9", "ok", "send 0 ann bob coin 0 9", "ok",
		"block 0 1", "0 0 202 202 183 1", "block 1 1", "0",
		"show 0", "bank/coin/ann=975\nbank/coin/escrow=25\ncommit/1="+commitOf(t, "a", 1, "coin", 5, "ann", "bob", 20)+"\ncommit/2="+commitOf(t, "a", 2, "coin", 20, "ann", "dan", 5)+"\n",
		"show 1", "bank/gold/bob=700\nbank/gold/escrow=300\ncommit/1="+commitOf(t, "b", 1, "gold", 300, "bob", "eve", 999999999)+"\n",
		"relay 1", "3", "relay 0", "2", "block 0 1", "0 0", "block 1 1", "0 0 0",
		"show 0", "answer/1=ok\nbank/b/gold/eve=300\nbank/coin/ann=975\nbank/coin/escrow=25\ncommit/1="+commitOf(t, "a", 1, "coin", 5, "ann", "bob", 20)+"\ncommit/2="+commitOf(t, "a", 2, "coin", 20, "ann", "dan", 5)+"\nreceipt/1=1\n",
		"send 0 eve bob b/gold 100 50", "ok", "block 0 1", "0", "supply 0 b/gold", "200", "relay 1", "3", "relay 0", "3", "block 1 1", "0 0 0", "block 0 1", "0 0 0",
		"balance 1 bob gold", "800", "balance 1 escrow gold", "200", "balance 1 bob a/coin", "5", "balance 1 dan a/coin", "20", "supply 1 a/coin", "25")
}

// TestPool: a pool takes 32; then ErrBlock, of pay and of send, and relay has no room.
func TestPool(t *testing.T) { // P24.1 (O1), rule 3
	for i, own := range []string{"0 ann bob coin", "1 bob ann gold"} {
		at, other := strconv.Itoa(i), strconv.Itoa(1-i)
		full := func() *desk.Desk {
			d := world(t, "new 1 2", "block "+other+" 1")
			for k := range 32 {
				play(t, d, []string{"pay ", "send "}[k%2]+own+[]string{" 1", " 2 30"}[k%2], "ok")
			}
			return d
		}
		seed(full).unchanged(t, func(d *desk.Desk) {
			play(t, d, "pay "+own+" 1", refused(api.ErrBlock), "send "+own+" 1 9", refused(api.ErrBlock), "pay "+at+" ? ? ? 0", refused(api.ErrBlock), "relay "+at, "0")
		})
		d := full()
		play(t, d, "block "+at+" 1", strings.TrimSpace(strings.Repeat("0 ", 32)), "pay "+own+" 1", "ok", "relay "+at, "1", "block "+at+" 1", "0 0", "supply "+own[:1]+own[9:], "1000", "relay "+other, "17")
	}
}

// TestBlock: a wait of 1 to 1000; the errors of its transactions, in their order; the clock goes on.
func TestBlock(t *testing.T) { // P24.1 (O1), rule 3
	d := world(t, "new 3 4")
	play(t, d,
		"block 0 1", "", "clock", "11", "block 1 1000", "", "clock", "1011", "block 0 999", "", "clock", "2010", "height 0", "3", "height 1", "2",
		"pay 0 ann bob coin 2000", "ok", "block 0 2", "181", "pay 0 ann bob coin 20", "ok", "pay 0 ? bob coin 20", "ok", "pay 0 ann bob coin 0", "ok", "pay 0 bob cid coin 20", "ok", "block 0 2", "0 183 1 0", "block 0 2", "", "clock", "2016")
	seed(func() *desk.Desk { return busy(t) }).unchanged(t, func(d *desk.Desk) {
		for _, wait := range []string{"0", "1001", "00", "1010", "999999999"} {
			play(t, d, "block 0 "+wait, refused(api.ErrArg), "block 1 "+wait, refused(api.ErrArg))
		}
	})
}

// TestRelay: how many are put into the pool, as the plan has them.
func TestRelay(t *testing.T) { // P24.1 (O1)
	d := world(t, "new 3 4")
	play(t, d, "relay 0", "0", "relay 1", "0", "block 0 1", "", "relay 0", "0", "relay 1", "1", "relay 1", "1", "block 1 1", "0 153", "relay 1", "0", "relay 0", "1",
		"send 0 ann bob coin 1 9", "ok", "send 0 ann bob coin 2 9", "ok", "block 0 1", "0 0 0", "relay 1", "3", "relay 1", "3", "block 1 1", "0 0 0 153 203 203", "balance 1 bob a/coin", "3", "relay 0", "3", "block 0 1", "0 0 0", "show 0", "bank/coin/ann=997\nbank/coin/escrow=3\n")
	for range 40 {
		all(t, d, "send 0 ann bob coin 1 90")
		blocks(t, d, 0, 1)
	}
	play(t, d, "relay 1", "32", "block 1 1", strings.TrimSpace(strings.Repeat("0 ", 32)), "relay 1", "9", "relay 1", "9")
}

// TestHeights: each chain's own, and the one clock.
func TestHeights(t *testing.T) { // P24.1 (O1)
	d := world(t, "new 3 4")
	clock := 10
	heights := [2]int{1, 1}
	for k := range 30 {
		i := k * k % 3 % 2
		wait := 1 + k*k%1000
		play(t, d, "block "+strconv.Itoa(i)+" "+strconv.Itoa(wait), "")
		clock += wait
		heights[i]++
		play(t, d, "height 0", strconv.Itoa(heights[0]), "height 1", strconv.Itoa(heights[1]), "clock", strconv.Itoa(clock))
	}
}

// TestBalances: of what there is none, none.
func TestBalances(t *testing.T) { // P24.1 (O1), rule 5
	d := world(t, "new 3 4", "pay 0 ann bob coin 400", "send 0 bob ann coin 30 9", "block 0 1", "relay 1", "block 1 1")
	for line, want := range map[string]int{"0 ann coin": 600, "0 bob coin": 370, "0 escrow coin": 30, "1 ann a/coin": 30, "1 bob gold": 1000, "0 bob gold": 0, "1 ann coin": 0, "0 ann a/coin": 0, "1 bob a/coin": 0, "0 coin ann": 0, "0 escrow gold": 0, "0 ann Coin": 0, "0 an coin": 0, "0 ann coi": 0} {
		play(t, d, "balance "+line, strconv.Itoa(want))
	}
	for line, want := range map[string]int{"0 coin": 1000, "1 gold": 1000, "1 a/coin": 30, "0 gold": 0, "1 coin": 0, "0 a/coin": 0, "0 b/gold": 0, "1 ann": 0} {
		play(t, d, "supply "+line, strconv.Itoa(want))
	}
}

// TestShow: by rising keys, each with its line feed, the last one too; of the state behind the last block.
func TestShow(t *testing.T) { // P24.1 (O1)
	d := world(t, "new 1 1")
	for n := 1; n <= 12; n++ {
		all(t, d, "send 0 ann bob coin "+strconv.Itoa(n)+" 9")
	}
	before := told(t, d, "show 0")
	all(t, d, "block 0 1")
	want := "bank/coin/ann=922\nbank/coin/escrow=78\n"
	for _, n := range []int{1, 10, 11, 12, 2, 3, 4, 5, 6, 7, 8, 9} {
		want += "commit/" + strconv.Itoa(n) + "=" + commitOf(t, "a", n, "coin", uint64(n), "ann", "bob", 9) + "\n"
	}
	if before != "bank/coin/ann=1000\n" {
		t.Errorf("%q", before)
	}
	play(t, d, "show 0", want, "show 1", "bank/gold/bob=1000\n", "relay 1", "13", "show 1", "bank/gold/bob=1000\n", "block 1 1", strings.TrimSpace(strings.Repeat("0 ", 13)))
	got := told(t, d, "show 1")
	l := strings.Split(strings.TrimSuffix(got, "\n"), "\n")
	var keys []string
	for _, line := range l {
		key, _, _ := strings.Cut(line, "=")
		keys = append(keys, key)
	}
	if !slices.IsSorted(keys) || len(l) != 26 || strings.Count(got, "\n") != 26 || l[0] != "answer/1=ok" || l[12] != "bank/a/coin/bob=78" || l[13] != "bank/gold/bob=1000" || l[25] != "receipt/9=1" {
		t.Errorf("%q", got)
	}
}

// TestThereAndBack: what is nothing any more has no line.
func TestThereAndBack(t *testing.T) { // P24.1 (O1)
	d := world(t, "new 1 1", "send 0 ann bob coin 1000 9", "block 0 1", "relay 1", "block 1 1", "relay 0", "block 0 1", "send 1 bob ann a/coin 1000 9", "block 1 1")
	play(t, d, "balance 0 escrow coin", "1000", "supply 1 a/coin", "0", "show 0", "bank/coin/escrow=1000\n", "relay 0", "2", "block 0 1", "0 0", "show 0", "answer/1=ok\nbank/coin/ann=1000\nreceipt/1=1\n",
		"relay 1", "2", "block 1 1", "0 0", "show 1", "answer/1=ok\nbank/gold/bob=1000\nreceipt/1=1\n")
}

// TestApart: desks have nothing in common.
func TestApart(t *testing.T) { // P2
	s := seed(func() *desk.Desk { return busy(t) })
	s.unchanged(t, func(*desk.Desk) {
		goOn(t, busy(t))
		all(t, desk.New(), "new 8 8")
	})
	if desk.New() == desk.New() {
		t.Error("two desks are one")
	}
}

// TestAsking: what only asks changes nothing.
func TestAsking(t *testing.T) { // P24.1 (O1)
	seed(func() *desk.Desk { return busy(t) }).unchanged(t, func(d *desk.Desk) {
		for range 3 {
			all(t, d, "height 0", "height 1", "clock", "balance 0 ann coin", "balance 1 bob gold", "supply 0 coin", "supply 1 gold", "show 0", "show 1", "trusted", "header 1")
		}
	})
}
