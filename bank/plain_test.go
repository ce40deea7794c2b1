package bank_test

import (
	"math/big"
	"math/rand/v2"
	"regexp"
	"slices"
	"strings"
	"testing"

	"nuncio/api"
	"nuncio/bank"
)

// amount is what an account has of a denom.
type amount struct {
	account, denom string
	n              *big.Int
}

// plain is a bank told plainly: amounts one behind the other, which cannot wrap; a supply is added up whenever it is asked for.
type plain []amount

var (
	rightAccount = regexp.MustCompile(`\A[a-z]{1,16}\z`)
	rightDenom   = regexp.MustCompile(`\A[a-z]([a-z/]{0,38}[a-z])?\z`)
	allThere     = new(big.Int).SetUint64(most)
)

func (p plain) balance(account, denom string) *big.Int {
	for _, a := range p {
		if a.account == account && a.denom == denom {
			return a.n
		}
	}
	return new(big.Int)
}

func (p plain) supply(denom string) *big.Int {
	all := new(big.Int)
	for _, a := range p {
		if a.denom == denom {
			all.Add(all, a.n)
		}
	}
	return all
}

func (p plain) lines() []string {
	var l []string
	for _, a := range p {
		if a.n.Sign() > 0 {
			l = append(l, "bank/"+a.denom+"/"+a.account+"="+a.n.String())
		}
	}
	// By keys alone: "=" is above "/", so that lines have another order.
	slices.SortFunc(l, func(a, b string) int {
		return strings.Compare(a[:strings.Index(a, "=")], b[:strings.Index(b, "=")])
	})
	return l
}

func (p plain) copied() plain {
	q := slices.Clone(p)
	for i := range q {
		q[i].n = new(big.Int).Set(q[i].n)
	}
	return q
}

func (p *plain) add(account, denom string, n *big.Int) {
	for _, a := range *p {
		if a.account == account && a.denom == denom {
			a.n.Add(a.n, n)
			return
		}
	}
	*p = append(*p, amount{account, denom, new(big.Int).Set(n)})
}

// call is a Mint, which has no from, a Burn, which has no to, or a Move.
type call struct {
	what            string
	from, to, denom string
	n               uint64
}

func (c call) at(b *bank.Bank) api.Errno {
	switch c.what {
	case "Mint":
		return b.Mint(c.to, c.denom, c.n)
	case "Burn":
		return b.Burn(c.from, c.denom, c.n)
	}
	return b.Move(c.from, c.to, c.denom, c.n)
}

func (c call) takes() bool { return c.what != "Mint" }

func (c call) gives() bool { return c.what != "Burn" }

// atPlain is N1, sentence by sentence.
func (c call) atPlain(p *plain) api.Errno {
	n := new(big.Int).SetUint64(c.n)
	switch {
	case c.takes() && !rightAccount.MatchString(c.from):
		return api.ErrName
	case c.gives() && !rightAccount.MatchString(c.to):
		return api.ErrName
	case !rightDenom.MatchString(c.denom):
		return api.ErrName
	case c.n == 0:
		return api.ErrArg
	case c.what == "Mint" && new(big.Int).Add(p.supply(c.denom), n).Cmp(allThere) > 0:
		return api.ErrOverflow
	case c.takes() && p.balance(c.from, c.denom).Cmp(n) < 0:
		return api.ErrBalance
	}
	if c.takes() {
		p.add(c.from, c.denom, new(big.Int).Neg(n))
	}
	if c.gives() {
		p.add(c.to, c.denom, n)
	}
	return api.OK
}

func pick[T any](r *rand.Rand, l ...T) T { return l[r.IntN(len(l))] }

var (
	someAccounts = []string{"ann", "ann", "bob", "cy", "b", "a", "abcdefghijklmnop"}
	someDenoms   = []string{"coin", "coin", "coin", "a/coin", "a", "a/b", "a//b", "coinb", strings.Repeat("d", 40)}
)

// anyCall is mostly one that may be.
func anyCall(r *rand.Rand, p plain) call {
	c := call{
		what:  pick(r, "Mint", "Mint", "Burn", "Move", "Move", "Move"),
		from:  pick(r, someAccounts...),
		to:    pick(r, someAccounts...),
		denom: pick(r, someDenoms...),
	}
	has := p.balance(c.from, c.denom).Uint64()
	room := most - p.supply(c.denom).Uint64()
	c.n = pick(r, 1, 2, 7, r.Uint64N(100), r.Uint64(), r.Uint64N(has|1), has, has+1, room, room+1, room/2, most)
	switch r.IntN(40) {
	case 0:
		c.from = pick(r, "", "A", "a/b", strings.Repeat("a", 17))
	case 1:
		c.to = pick(r, "", "A", "a/b", strings.Repeat("a", 17))
	case 2:
		c.denom = pick(r, "", "/", "a/", "/a", "a.b", strings.Repeat("a", 41))
	case 3:
		c.n = 0
	}
	return c
}

// same tells whether a bank has just what the plain one has, and each supply is what all accounts have together (P18.2).
func same(t *testing.T, c call, b *bank.Bank, p plain) {
	t.Helper()
	if l, want := lines(b), p.lines(); !slices.Equal(l, want) {
		t.Fatalf("%+v: %q; want %q", c, l, want)
	}
	for _, denom := range someDenoms {
		if n, want := b.Supply(denom), p.supply(denom).Uint64(); n != want {
			t.Fatalf("%+v: there are %d of %s; want %d", c, n, denom, want)
		}
		for _, account := range someAccounts {
			if n, want := b.Balance(account, denom), p.balance(account, denom).Uint64(); n != want {
				t.Fatalf("%+v: %s has %d of %s; want %d", c, account, n, denom, want)
			}
		}
	}
}

// P18.1 to P18.3: any calls, against the plain bank. What is refused changes nothing; the copy that was made ahead of a call stays as it was.
func TestAnyCalls(t *testing.T) {
	r := rand.New(rand.NewPCG(18, 19))
	answers := map[api.Errno]int{}
	for range 60 {
		b, p := bank.New(), plain(nil)
		for range 150 {
			before, asItWas := b.Copy(), p.copied()
			c := anyCall(r, p)
			e, want := c.at(b), c.atPlain(&p)
			if e != want {
				t.Fatalf("%+v: %d; want %d", c, e, want)
			}
			answers[e]++
			same(t, c, b, p)
			if e != api.OK {
				same(t, c, b, asItWas)
			}
			if r.IntN(4) == 0 {
				same(t, c, before, asItWas)
			}
			if r.IntN(20) == 0 {
				b, p = before, asItWas
			}
		}
	}
	for _, e := range []api.Errno{api.OK, api.ErrName, api.ErrArg, api.ErrOverflow, api.ErrBalance} {
		if answers[e] < 50 {
			t.Errorf("%d was answered only %d times", e, answers[e])
		}
	}
}

// P18.2: a supply is what its entries have together, and each call changes it by just what it says.
func TestNothingComesFromNothing(t *testing.T) {
	r := rand.New(rand.NewPCG(20, 21))
	b := bank.New()
	for range 3000 {
		c := anyCall(r, nil)
		c.n = 1 + r.Uint64N(50)
		before := b.Supply(c.denom)
		want := before
		switch e := c.at(b); {
		case e == api.OK && c.what == "Mint":
			want += c.n
		case e == api.OK && c.what == "Burn":
			want -= c.n
		}
		if b.Supply(c.denom) != want {
			t.Fatalf("%+v: %d, then %d", c, before, b.Supply(c.denom))
		}
		if all := summed(b, c.denom); all.Cmp(new(big.Int).SetUint64(want)) != 0 {
			t.Fatalf("%+v: accounts have %s together; want %d", c, all, want)
		}
	}
}

// summed is what all entries of a denom have together.
func summed(b *bank.Bank, denom string) *big.Int {
	all := new(big.Int)
	for _, e := range b.Entries() {
		account, is := strings.CutPrefix(e.Key, "bank/"+denom+"/")
		if is && !strings.Contains(account, "/") {
			n, _ := new(big.Int).SetString(e.Value, 10)
			all.Add(all, n)
		}
	}
	return all
}

// P1, P18.2: very many accounts, each call of which is asked for in little time.
func TestManyAccounts(t *testing.T) {
	b := bank.New()
	const many = 30000
	for i := range many {
		ok(t, "Mint", b.Mint(named(i), "coin", uint64(i)+1))
	}
	supply(t, "all", b, "coin", many*(many+1)/2)
	l := b.Entries()
	if len(l) != many || !slices.IsSortedFunc(l, func(a, b api.Entry) int { return strings.Compare(a.Key, b.Key) }) {
		t.Errorf("%d entries, or they do not rise", len(l))
	}
	for i := range many {
		ok(t, "Move", b.Move(named(i), "escrow", "coin", uint64(i)+1))
	}
	has(t, "Move of all", b, "bank/coin/escrow=450015000")
}

// named is a number as a text of letters.
func named(i int) string {
	s := "x"
	for range 5 {
		s += string(rune('a' + i%26))
		i /= 26
	}
	return s
}
