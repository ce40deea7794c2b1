package bank_test

import (
	"math"
	"slices"
	"strings"
	"testing"

	"nuncio/api"
	"nuncio/bank"
)

const most = math.MaxUint64

func ok(t *testing.T, name string, e api.Errno) {
	t.Helper()
	if e != api.OK {
		t.Fatalf("%s: %d", name, e)
	}
}

func fails(t *testing.T, name string, e, want api.Errno) {
	t.Helper()
	if e != want {
		t.Errorf("%s: %d; want %d", name, e, want)
	}
}

// lines has a line for each entry.
func lines(b *bank.Bank) []string {
	var l []string
	for _, e := range b.Entries() {
		l = append(l, e.Key+"="+e.Value)
	}
	return l
}

// has tells whether a bank has just these entries.
func has(t *testing.T, name string, b *bank.Bank, want ...string) {
	t.Helper()
	if l := lines(b); !slices.Equal(l, want) {
		t.Errorf("%s: %q; want %q", name, l, want)
	}
}

func balance(t *testing.T, name string, b *bank.Bank, account, denom string, want uint64) {
	t.Helper()
	if n := b.Balance(account, denom); n != want {
		t.Errorf("%s: %s has %d of %s; want %d", name, account, n, denom, want)
	}
}

func supply(t *testing.T, name string, b *bank.Bank, denom string, want uint64) {
	t.Helper()
	if n := b.Supply(denom); n != want {
		t.Errorf("%s: there are %d of %s; want %d", name, n, denom, want)
	}
}

// sample has coin and a/coin of two accounts each.
func sample(t *testing.T) *bank.Bank {
	t.Helper()
	b := bank.New()
	if b == nil {
		t.Fatal("New: nil")
	}
	ok(t, "Mint", b.Mint("ann", "coin", 7))
	ok(t, "Mint", b.Mint("bob", "coin", 3))
	ok(t, "Mint", b.Mint("ann", "a/coin", 20))
	ok(t, "Mint", b.Mint("cy", "a/coin", 1))
	return b
}

var sampleLines = []string{"bank/a/coin/ann=20", "bank/a/coin/cy=1", "bank/coin/ann=7", "bank/coin/bob=3"}

// P18.1, N1, N2: each call, one behind the other.
func TestCalls(t *testing.T) {
	b := bank.New()
	has(t, "New", b)
	ok(t, "Mint", b.Mint("ann", "coin", 7))
	has(t, "Mint", b, "bank/coin/ann=7")
	ok(t, "Mint", b.Mint("ann", "coin", 2))
	has(t, "Mint puts to what was there", b, "bank/coin/ann=9")
	ok(t, "Mint", b.Mint("bob", "coin", 1))
	has(t, "Mint for another one", b, "bank/coin/ann=9", "bank/coin/bob=1")
	supply(t, "Mint for another one", b, "coin", 10)
	ok(t, "Move", b.Move("ann", "bob", "coin", 4))
	has(t, "Move", b, "bank/coin/ann=5", "bank/coin/bob=5")
	supply(t, "Move", b, "coin", 10)
	ok(t, "Move", b.Move("bob", "cy", "coin", 1))
	has(t, "Move to one who has none", b, "bank/coin/ann=5", "bank/coin/bob=4", "bank/coin/cy=1")
	ok(t, "Burn", b.Burn("ann", "coin", 2))
	has(t, "Burn", b, "bank/coin/ann=3", "bank/coin/bob=4", "bank/coin/cy=1")
	supply(t, "Burn", b, "coin", 8)
	balance(t, "Burn", b, "ann", "coin", 3)
	balance(t, "Burn", b, "bob", "coin", 4)
	balance(t, "Burn", b, "cy", "coin", 1)
}

// P18.1, N1: Balance and Supply of what is not there.
func TestNothing(t *testing.T) {
	b := sample(t)
	for _, l := range [][2]string{{"bob", "a/coin"}, {"cy", "coin"}, {"dan", "coin"}, {"ann", "gold"}, {"", "coin"}, {"ann", ""}, {"", ""}, {"coin", "ann"}, {"ann", "a"}, {"a", "coin"}, {"ANN", "coin"}, {"ann", "/coin"}, {"ann", "coin/"}} {
		balance(t, "none", b, l[0], l[1], 0)
	}
	for _, d := range []string{"", "a", "gold", "ann", "/coin", "coin/", "a/", "/", "coin/ann", "bank/coin", strings.Repeat("x", 1000)} {
		supply(t, "none", b, d, 0)
	}
	has(t, "asking leaves nothing behind", b, sampleLines...)
}

// P18.1, N1: a denom and an account are told apart, wherever one ends.
func TestApart(t *testing.T) {
	b := bank.New()
	ok(t, "Mint", b.Mint("ab", "c", 1))
	ok(t, "Mint", b.Mint("a", "bc", 2))
	ok(t, "Mint", b.Mint("c", "ab", 4))
	ok(t, "Mint", b.Mint("c", "a/b", 8))
	ok(t, "Mint", b.Mint("b", "a", 16))
	balance(t, "ab, c", b, "ab", "c", 1)
	balance(t, "a, bc", b, "a", "bc", 2)
	balance(t, "c, ab", b, "c", "ab", 4)
	balance(t, "c, a/b", b, "c", "a/b", 8)
	balance(t, "b, a", b, "b", "a", 16)
	supply(t, "a", b, "a", 16)
	supply(t, "a/b", b, "a/b", 8)
	has(t, "all", b, "bank/a/b=16", "bank/a/b/c=8", "bank/ab/c=4", "bank/bc/a=2", "bank/c/ab=1")
}

// P18.1, N1: all there is may be taken, one more may not.
func TestTake(t *testing.T) {
	b := sample(t)
	fails(t, "Burn of one too many", b.Burn("bob", "coin", 4), api.ErrBalance)
	fails(t, "Move of one too many", b.Move("bob", "ann", "coin", 4), api.ErrBalance)
	fails(t, "Burn of very many", b.Burn("bob", "coin", most), api.ErrBalance)
	fails(t, "Move of very many", b.Move("bob", "ann", "coin", most), api.ErrBalance)
	fails(t, "Burn of another one's", b.Burn("dan", "coin", 1), api.ErrBalance)
	fails(t, "Move of another one's", b.Move("dan", "ann", "coin", 1), api.ErrBalance)
	fails(t, "Burn of another denom", b.Burn("bob", "a/coin", 1), api.ErrBalance)
	fails(t, "Move of another denom", b.Move("bob", "ann", "a/coin", 1), api.ErrBalance)
	has(t, "refused", b, sampleLines...)
	ok(t, "Move of all", b.Move("bob", "ann", "coin", 3))
	has(t, "Move of all", b, "bank/a/coin/ann=20", "bank/a/coin/cy=1", "bank/coin/ann=10")
	balance(t, "Move of all", b, "bob", "coin", 0)
	ok(t, "Burn of all", b.Burn("ann", "coin", 10))
	has(t, "Burn of all", b, "bank/a/coin/ann=20", "bank/a/coin/cy=1")
	balance(t, "Burn of all", b, "ann", "coin", 0)
	supply(t, "Burn of all", b, "coin", 0)
	fails(t, "Burn of none", b.Burn("ann", "coin", 1), api.ErrBalance)
	ok(t, "Mint again", b.Mint("bob", "coin", 2))
	has(t, "Mint again", b, "bank/a/coin/ann=20", "bank/a/coin/cy=1", "bank/coin/bob=2")
	supply(t, "Mint again", b, "coin", 2)
}

// P18.1, N1: from one to the same nothing changes, but what is not there may not be moved.
func TestMoveToTheSame(t *testing.T) {
	b := sample(t)
	for _, n := range []uint64{1, 4, 6, 7} {
		ok(t, "Move to the same", b.Move("ann", "ann", "coin", n))
		has(t, "Move to the same", b, sampleLines...)
		supply(t, "Move to the same", b, "coin", 10)
	}
	fails(t, "one too many", b.Move("ann", "ann", "coin", 8), api.ErrBalance)
	fails(t, "very many", b.Move("ann", "ann", "coin", most), api.ErrBalance)
	fails(t, "one who has none", b.Move("dan", "dan", "coin", 1), api.ErrBalance)
	fails(t, "none", b.Move("ann", "ann", "coin", 0), api.ErrArg)
	has(t, "refused", b, sampleLines...)
	ok(t, "Mint", b.Mint("ann", "gold", most))
	ok(t, "Move of all that may be", b.Move("ann", "ann", "gold", most))
	balance(t, "Move of all that may be", b, "ann", "gold", most)
	supply(t, "Move of all that may be", b, "gold", most)
}

// P18.1, N1: a supply is at most 2^64 - 1, whoever has it.
func TestOverflow(t *testing.T) {
	b := bank.New()
	ok(t, "Mint of all that may be", b.Mint("ann", "coin", most))
	has(t, "Mint of all that may be", b, "bank/coin/ann=18446744073709551615")
	fails(t, "one more", b.Mint("ann", "coin", 1), api.ErrOverflow)
	fails(t, "one more for another one", b.Mint("bob", "coin", 1), api.ErrOverflow)
	fails(t, "as many again", b.Mint("bob", "coin", most), api.ErrOverflow)
	has(t, "refused", b, "bank/coin/ann=18446744073709551615")
	supply(t, "refused", b, "coin", most)
	ok(t, "another denom", b.Mint("bob", "gold", most))
	ok(t, "Move", b.Move("ann", "bob", "coin", 1<<63))
	balance(t, "Move", b, "ann", "coin", 1<<63-1)
	balance(t, "Move", b, "bob", "coin", 1<<63)
	fails(t, "Move makes no room", b.Mint("cy", "coin", 1), api.ErrOverflow)
	ok(t, "Burn", b.Burn("bob", "coin", 5))
	fails(t, "one more than was burned", b.Mint("cy", "coin", 6), api.ErrOverflow)
	ok(t, "as many as were burned", b.Mint("cy", "coin", 5))
	supply(t, "full again", b, "coin", most)
	fails(t, "full again", b.Mint("dan", "coin", 1), api.ErrOverflow)
	has(t, "all", b, "bank/coin/ann=9223372036854775807", "bank/coin/bob=9223372036854775803", "bank/coin/cy=5", "bank/gold/bob=18446744073709551615")
	ok(t, "Move", b.Move("ann", "cy", "coin", 1<<63-1))
	ok(t, "Move", b.Move("bob", "cy", "coin", 1<<63-5))
	balance(t, "all at one", b, "cy", "coin", most)
	ok(t, "Burn of all", b.Burn("cy", "coin", most))
	has(t, "Burn of all", b, "bank/gold/bob=18446744073709551615")
	ok(t, "Mint behind Burn of all", b.Mint("ann", "coin", most))
}

// refusedAccount tells whether each call answers an error of an account in each place, and changes nothing.
func refusedAccount(t *testing.T, name string, want api.Errno) {
	t.Helper()
	b := sample(t)
	fails(t, "Mint", b.Mint(name, "coin", 1), want)
	fails(t, "Burn", b.Burn(name, "coin", 1), want)
	fails(t, "Move from it", b.Move(name, "ann", "coin", 1), want)
	fails(t, "Move to it", b.Move("ann", name, "coin", 1), want)
	fails(t, "Move from it to it", b.Move(name, name, "coin", 1), want)
	has(t, "refused", b, sampleLines...)
	supply(t, "refused", b, "coin", 10)
}

// refusedDenom tells the same of a denom.
func refusedDenom(t *testing.T, name string, want api.Errno) {
	t.Helper()
	b := sample(t)
	fails(t, "Mint", b.Mint("ann", name, 1), want)
	fails(t, "Burn", b.Burn("ann", name, 1), want)
	fails(t, "Move", b.Move("ann", "bob", name, 1), want)
	fails(t, "Move to the same", b.Move("ann", "ann", name, 1), want)
	has(t, "refused", b, sampleLines...)
	supply(t, "refused", b, name, 0)
}

// mayBe makes some, moves it and takes it away: all of that is done.
func mayBe(t *testing.T, account, denom string) {
	t.Helper()
	b := bank.New()
	ok(t, "Mint "+account+" "+denom, b.Mint(account, denom, 5))
	has(t, "Mint", b, "bank/"+denom+"/"+account+"=5")
	ok(t, "Move", b.Move(account, "other", denom, 2))
	ok(t, "Move", b.Move("other", account, denom, 1))
	has(t, "Move", b, inOrder("bank/"+denom+"/"+account+"=4", "bank/"+denom+"/other=1")...)
	ok(t, "Burn", b.Burn(account, denom, 4))
	has(t, "Burn", b, "bank/"+denom+"/other=1")
}

func inOrder(l ...string) []string {
	slices.Sort(l)
	return l
}

// P18.1, N1: an account is 1 to 16 letters a to z.
func TestAccounts(t *testing.T) {
	for _, name := range []string{"a", "z", "az", "escrow", "bank", strings.Repeat("a", 15), strings.Repeat("z", 16), "abcdefghijklmnop"} {
		mayBe(t, name, "coin")
	}
	for _, name := range []string{"", strings.Repeat("a", 17), strings.Repeat("a", 40), strings.Repeat("a", 1<<20), "ann ", " ann", "a nn", "Ann", "anN", "ann1", "a/b", "/", "a/", "/a", "ann\n", "ann\x00", "\x00", "é", "añ", "\xff", "a\xe1", "ａ", strings.Repeat("é", 8)} {
		refusedAccount(t, name, api.ErrName)
	}
}

// P18.1, N1: a denom is 1 to 40 letters a to z and slashes, none of them at an end.
func TestDenoms(t *testing.T) {
	for _, name := range []string{"a", "z", "coin", "a/coin", "a/b/coin", "a//b", "a///b", strings.Repeat("a", 39), strings.Repeat("z", 40), "a" + strings.Repeat("/", 38) + "b", strings.Repeat("a/", 19) + "bc"} {
		mayBe(t, "ann", name)
	}
	for _, name := range []string{"", "/", "//", "/a", "a/", "/coin", "coin/", "/coin/", "//a", "a//", strings.Repeat("a", 41), strings.Repeat("a/", 20) + "b", strings.Repeat("a/", 19) + "b/", strings.Repeat("/", 40), strings.Repeat("a", 1<<20), "co in", "Coin", "coiN", "coin1", "a.b", "a\\b", "coin\n", "\x00", "coin\x00", "é", "cöin", "\xff", "a/\xe1", "ａ"} {
		refusedDenom(t, name, api.ErrName)
	}
}

// P18.1, N1: each byte, alone and between letters.
func TestBytes(t *testing.T) {
	for c := range 256 {
		alone := string([]byte{byte(c)})
		letter := strings.Contains("abcdefghijklmnopqrstuvwxyz", alone)
		if letter {
			mayBe(t, alone, "coin")
			mayBe(t, "b"+alone+"b", "coin")
			mayBe(t, "ann", alone)
		} else {
			refusedAccount(t, alone, api.ErrName)
			refusedAccount(t, "b"+alone+"b", api.ErrName)
			refusedDenom(t, alone, api.ErrName)
		}
		if letter || alone == "/" {
			mayBe(t, "ann", "b"+alone+"b")
		} else {
			refusedDenom(t, "b"+alone+"b", api.ErrName)
		}
	}
}

// P18.1, N1, and rule 1: names are looked at first, then whether there is an amount, then how much there is.
func TestOrderOfErrors(t *testing.T) {
	b := sample(t)
	ok(t, "Mint", b.Mint("ann", "gold", most))
	fails(t, "Mint: account, none", b.Mint("", "coin", 0), api.ErrName)
	fails(t, "Mint: denom, none", b.Mint("ann", "", 0), api.ErrName)
	fails(t, "Mint: account, too many", b.Mint("A", "gold", 1), api.ErrName)
	fails(t, "Mint: none of what is full", b.Mint("ann", "gold", 0), api.ErrArg)
	fails(t, "Burn: account, none", b.Burn("", "coin", 0), api.ErrName)
	fails(t, "Burn: denom, none", b.Burn("ann", "", 0), api.ErrName)
	fails(t, "Burn: account, too many", b.Burn("A", "coin", most), api.ErrName)
	fails(t, "Burn: none", b.Burn("ann", "coin", 0), api.ErrArg)
	fails(t, "Burn: none of one who has none", b.Burn("dan", "coin", 0), api.ErrArg)
	fails(t, "Move: from, none", b.Move("", "ann", "coin", 0), api.ErrName)
	fails(t, "Move: to, none", b.Move("ann", "", "coin", 0), api.ErrName)
	fails(t, "Move: denom, none", b.Move("ann", "bob", "/", 0), api.ErrName)
	fails(t, "Move: to, too many", b.Move("ann", "B", "coin", most), api.ErrName)
	fails(t, "Move: none", b.Move("ann", "bob", "coin", 0), api.ErrArg)
	fails(t, "Move: none of one who has none", b.Move("dan", "ann", "coin", 0), api.ErrArg)
	has(t, "refused", b, append(slices.Clone(sampleLines), "bank/gold/ann=18446744073709551615")...)
}

// P18.1, N2: entries are by rising keys, which is not by rising denoms.
func TestEntries(t *testing.T) {
	b := bank.New()
	if l := b.Entries(); len(l) != 0 {
		t.Errorf("none: %v", l)
	}
	for i, l := range [][2]string{{"z", "a"}, {"c", "a/b"}, {"b", "a"}, {"bb", "a"}, {"a", "ab"}, {"a", "a//b"}, {"z", "z"}, {"a", "z"}, {"ab", "z"}, {"aa", "z"}, {"c", "a/bb"}} {
		ok(t, "Mint", b.Mint(l[0], l[1], uint64(i)+1))
	}
	has(t, "all", b, "bank/a//b/a=6", "bank/a/b=3", "bank/a/b/c=2", "bank/a/bb=4", "bank/a/bb/c=11", "bank/a/z=1", "bank/ab/a=5", "bank/z/a=8", "bank/z/aa=10", "bank/z/ab=9", "bank/z/z=7")
}

// Rule 4: what is answered is new memory.
func TestEntriesAreNew(t *testing.T) {
	b := sample(t)
	l, same := b.Entries(), b.Entries()
	for i := range l {
		l[i] = api.Entry{Key: "x", Value: "x"}
	}
	_ = append(l[:0], api.Entry{Key: "y"})
	has(t, "Entries", b, sampleLines...)
	if same[0] != (api.Entry{Key: "bank/a/coin/ann", Value: "20"}) {
		t.Errorf("two answers share memory: %v", same)
	}
	ok(t, "Burn", b.Burn("cy", "a/coin", 1))
	if len(same) != 4 || same[1] != (api.Entry{Key: "bank/a/coin/cy", Value: "1"}) {
		t.Errorf("an answer changes with its bank: %v", same)
	}
}

// P18.1, N2: a copy has the same and is apart, in both directions.
func TestCopy(t *testing.T) {
	b := sample(t)
	c := b.Copy()
	if c == nil || c == b {
		t.Fatal("Copy: no other bank")
	}
	has(t, "Copy", c, sampleLines...)
	supply(t, "Copy", c, "coin", 10)
	supply(t, "Copy", c, "a/coin", 21)
	ok(t, "Burn", c.Burn("bob", "coin", 3))
	ok(t, "Move", c.Move("ann", "dan", "a/coin", 20))
	ok(t, "Mint", c.Mint("ann", "gold", 1))
	has(t, "the first one stays", b, sampleLines...)
	supply(t, "the first one stays", b, "coin", 10)
	supply(t, "the first one stays", b, "gold", 0)
	ok(t, "Mint", b.Mint("eve", "coin", 5))
	ok(t, "Burn", b.Burn("ann", "coin", 7))
	has(t, "the copy stays", c, "bank/a/coin/cy=1", "bank/a/coin/dan=20", "bank/coin/ann=7", "bank/gold/ann=1")
	supply(t, "the copy stays", c, "coin", 7)
	d := c.Copy()
	ok(t, "Burn", d.Burn("ann", "coin", 7))
	supply(t, "a copy of a copy", c, "coin", 7)
	supply(t, "a copy of a copy", d, "coin", 0)
	none := bank.New().Copy()
	has(t, "a copy of none", none)
	ok(t, "Mint", none.Mint("ann", "coin", 1))
	has(t, "a copy of none", none, "bank/coin/ann=1")
}

// P2: what one bank has is nothing to another one.
func TestBanksApart(t *testing.T) {
	a, b := bank.New(), bank.New()
	ok(t, "Mint", a.Mint("ann", "coin", most))
	has(t, "another one", b)
	ok(t, "Mint", b.Mint("ann", "coin", most))
	has(t, "a new one", bank.New())
}

// N2: a nil bank answers ErrArg, ahead of all else, and has nothing.
func TestNil(t *testing.T) {
	var b *bank.Bank
	for _, name := range []string{"ann", "", "A"} {
		for _, n := range []uint64{0, 1, most} {
			fails(t, "Mint", b.Mint(name, "coin", n), api.ErrArg)
			fails(t, "Burn", b.Burn(name, "coin", n), api.ErrArg)
			fails(t, "Move", b.Move(name, "bob", "coin", n), api.ErrArg)
			fails(t, "Mint", b.Mint("ann", name+"/", n), api.ErrArg)
		}
	}
	balance(t, "nil", b, "ann", "coin", 0)
	supply(t, "nil", b, "coin", 0)
	if len(b.Entries()) != 0 || b.Copy() != nil {
		t.Error("a nil bank has something")
	}
}
