package chain_test

import (
	"bytes"
	"encoding/binary"
	"math"
	"math/rand/v2"
	"slices"
	"strconv"
	"strings"
	"testing"

	"nuncio/api"
	"nuncio/app"
	"nuncio/blake"
	"nuncio/chain"
	"nuncio/channel"
	"nuncio/forms"
	"nuncio/merkle"
	"nuncio/schnorr"
	"nuncio/verify"
)

func random() *rand.Rand { return rand.New(rand.NewPCG(22, 23)) }

func pick[T any](r *rand.Rand, l ...T) T { return l[r.IntN(len(l))] }

// patient trusts for ever, strict just what all of a set signed, at clocks that are not off at all.
var (
	patient = api.Options{Level: 0.5, Period: math.Inf(1), Drift: math.Inf(1)}
	strict  = api.Options{Level: 1, Period: math.SmallestNonzeroFloat64, Drift: 0}
)

// expect: the answer is just that.
func expect(t *testing.T, name string, got, want api.Errno) {
	t.Helper()
	if got != want {
		t.Errorf("%s: %d, not %d", name, got, want)
	}
}

// keyOf is a secret's key.
func keyOf(secret uint64) uint64 {
	key, _ := schnorr.Key(secret)
	return key
}

// rising are secrets, those with lesser keys first.
func rising(secrets ...uint64) []uint64 {
	l := slices.Clone(secrets)
	slices.SortFunc(l, func(a, b uint64) int {
		if keyOf(a) < keyOf(b) {
			return -1
		}
		return 1
	})
	return l
}

// crew are the secrets of the chains of these tests, by rising keys; each has power 1, but the last one has 2.
func crew() []uint64 { return rising(71, 72, 73) }

func crewPowers() []int { return []int{1, 1, 2} }

// setOf has these secrets' keys, by rising ones.
func setOf(secrets []uint64, powers []int) []api.Validator {
	var l []api.Validator
	for i, s := range secrets {
		l = append(l, api.Validator{Key: keyOf(s), Power: powers[i]})
	}
	slices.SortFunc(l, func(a, b api.Validator) int {
		if a.Key < b.Key {
			return -1
		}
		return 1
	})
	return l
}

// begun is a chain at its beginning, with some of this and that.
func begun(t *testing.T, own, other string) *chain.Chain {
	t.Helper()
	c, e := chain.New(own, other, crew(), crewPowers())
	if e != api.OK || c == nil {
		t.Fatalf("New(%q, %q): %v, %d", own, other, c, e)
	}
	expect(t, "Grant", c.Grant("ann", "coin", 100), api.OK)
	expect(t, "Grant", c.Grant("bob", own+"/coin", 50), api.OK)
	return c
}

// made makes a block that all sign.
func made(t *testing.T, c *chain.Chain, time int) {
	t.Helper()
	expect(t, "Block at "+strconv.Itoa(time), c.Block(time, 0, nil), api.OK)
}

func submit(t *testing.T, c *chain.Chain, l ...api.Tx) {
	t.Helper()
	for _, x := range l {
		expect(t, "Submit", c.Submit(x), api.OK)
	}
}

// light is a height's, which there is.
func light(t *testing.T, c *chain.Chain, height int) api.Light {
	t.Helper()
	l, e := c.Light(height)
	expect(t, "Light of "+strconv.Itoa(height), e, api.OK)
	return l
}

func pay(from, to, denom string, n uint64) api.Tx {
	return api.Tx{Kind: api.Pay, From: from, To: to, Denom: denom, Amount: n}
}

func send(from, to, denom string, n uint64, timeout int) api.Tx {
	return api.Tx{Kind: api.Send, From: from, To: to, Denom: denom, Amount: n, Timeout: timeout}
}

func powers(l ...api.Validator) api.Tx { return api.Tx{Kind: api.Powers, Changes: l} }

func numbered(kind string, n int) string { return kind + "/" + strconv.Itoa(n) }

// textOf is what a packet's commit entry has.
func textOf(p api.Packet) string {
	h, _ := channel.Hash(p)
	return blake.Text(h)
}

// entries are keys with values, told one behind the other, by rising keys.
func entries(l ...string) []api.Entry {
	var all []api.Entry
	for i := 0; i+1 < len(l); i += 2 {
		all = append(all, api.Entry{Key: l[i], Value: l[i+1]})
	}
	slices.SortFunc(all, func(a, b api.Entry) int { return strings.Compare(a.Key, b.Key) })
	return all
}

// valueOf is what entries have of a key.
func valueOf(l []api.Entry, key string) (string, bool) {
	for _, e := range l {
		if e.Key == key {
			return e.Value, true
		}
	}
	return "", false
}

// view is all that a chain tells of itself but proofs.
type view struct {
	height  int
	lights  [][]byte
	results [][]api.Errno
	set     []api.Validator
	entries []api.Entry
	sent    []api.Packet
	known   int
}

func look(t *testing.T, c *chain.Chain) view {
	t.Helper()
	a := c.App()
	v := view{height: c.Height(), set: a.Set(), entries: a.Entries(), sent: a.Sent(), known: a.Known()}
	for h := 1; h <= v.height; h++ {
		v.lights = append(v.lights, bytesOf(t, light(t, c, h)))
		v.results = append(v.results, slices.Clone(c.Results(h)))
	}
	return v
}

func bytesOf(t *testing.T, l api.Light) []byte {
	t.Helper()
	b, e := forms.EncodeLight(l)
	expect(t, "EncodeLight", e, api.OK)
	return b
}

func isSame(a, b view) bool {
	return a.height == b.height && a.known == b.known && slices.EqualFunc(a.lights, b.lights, bytes.Equal) && slices.EqualFunc(a.results, b.results, slices.Equal) &&
		slices.Equal(a.set, b.set) && slices.Equal(a.entries, b.entries) && slices.Equal(a.sent, b.sent)
}

// seed is the same chain whenever it is asked for, apart.
type seed func() *chain.Chain

// unchanged: a chain tells, and does, behind f what it does without f.
func (s seed) unchanged(t *testing.T, f func(c *chain.Chain)) {
	t.Helper()
	c, d := s(), s()
	f(c)
	for range 2 {
		got, want := look(t, c), look(t, d)
		if !isSame(got, want) {
			t.Fatalf("%+v, not %+v", got, want)
		}
		goOn(c)
		goOn(d)
	}
}

// goOn makes blocks till the pool is filled and emptied once.
func goOn(c *chain.Chain) {
	for c.Submit(pay("ann", "zed", "coin", 1)) == api.OK {
	}
	l, _ := c.Light(c.Height())
	c.Block(l.Header.Time+1, 1, nil)
	c.Block(l.Header.Time+2, 0, nil)
}

// sound: each light block is sound, and may be trusted from the one ahead, by whoever asks the most of it; and from any one ahead, where the validators stay.
func sound(t *testing.T, c *chain.Chain, own string) {
	t.Helper()
	for h := 1; h <= c.Height(); h++ {
		l := light(t, c, h)
		expect(t, "Sound of "+strconv.Itoa(h), verify.Sound(own, l), api.OK)
		if h == 1 {
			continue
		}
		ahead := light(t, c, h-1)
		expect(t, "Step to "+strconv.Itoa(h), verify.Step(ahead, l, float64(l.Header.Time), patient), api.OK)
		expect(t, "strict Step to "+strconv.Itoa(h), verify.Step(ahead, l, float64(l.Header.Time), api.Options{Level: 1, Period: float64(l.Header.Time - ahead.Header.Time + 1)}), api.OK)
		expect(t, "Step when it is over", verify.Step(ahead, l, float64(l.Header.Time), strict), api.ErrExpired)
	}
}

// proves: what a height's state had of a key is proved of its header's App hash.
func proves(t *testing.T, c *chain.Chain, height int, state []api.Entry, key string) {
	t.Helper()
	p, e := c.Proof(height, key)
	expect(t, "Proof", e, api.OK)
	want, has := valueOf(state, key)
	if got, is, ok := merkle.Check(light(t, c, height).Header.App, key, p); got != want || is != has || !ok {
		t.Fatalf("at %d %q has %q, %v, %v, not %q, %v", height, key, got, is, ok, want, has)
	}
}

// proved: so it is of each key of the state, and of keys beside each of these.
func proved(t *testing.T, c *chain.Chain, height int, state []api.Entry) {
	t.Helper()
	for _, key := range []string{"", "\x00", "a", "bank", "bank/", "zzz", "\xff", strings.Repeat("k", api.MaxText+1)} {
		proves(t, c, height, state, key)
	}
	for _, e := range state {
		for _, key := range []string{e.Key, e.Key + "\x00", e.Key[:len(e.Key)-1]} {
			proves(t, c, height, state, key)
		}
	}
}

// number is a number's bytes.
func number(n int) []byte { return binary.BigEndian.AppendUint64(nil, uint64(n)) }

func name(s string) []byte {
	return append(binary.BigEndian.AppendUint16(nil, uint16(len(s))), s...)
}

// headerHash is a header's, byte by byte as the document tells it.
func headerHash(h api.Header) api.Hash {
	b := slices.Concat([]byte{2}, number(2), name(h.Chain), number(h.Height), number(h.Time), h.Last[:], h.Set[:], h.Next[:], h.Data[:], h.App[:])
	return blake.Sum(b)
}

// setHash is a set's.
func setHash(l []api.Validator) api.Hash {
	b := slices.Concat([]byte{3}, number(3), number(len(l)))
	for _, v := range l {
		b = slices.Concat(b, number(int(v.Key)), number(v.Power))
	}
	return blake.Sum(b)
}

// dataHash is that of the errors of a block's transactions.
func dataHash(l []api.Errno) api.Hash {
	b := []byte{7}
	for _, e := range l {
		b = slices.Concat(b, number(int(e)))
	}
	return blake.Sum(b)
}

// sealOf is a secret's, of a precommit.
func sealOf(secret uint64, own string, height, round int, block api.Hash) api.Seal {
	b := slices.Concat(number(1), name(own), number(height), number(round), number(2), block[:], number(0), number(0), number(0))
	s, _ := schnorr.Sign(secret, b)
	return api.Seal{Key: keyOf(secret), Sig: s}
}

// appOf is the app that a chain of these tests begins with.
func appOf(t *testing.T, own, other string) *app.App {
	t.Helper()
	a, e := app.New(own, other, setOf(crew(), crewPowers()))
	expect(t, "app.New", e, api.OK)
	expect(t, "Grant", a.Grant("ann", "coin", 100), api.OK)
	expect(t, "Grant", a.Grant("bob", own+"/coin", 50), api.OK)
	return a
}

var wrongNames = []string{"", "A", "aB", "`", "{a", "0", "a1", "a/b", "a b", " a", "a\x00", "\xe9", "abcdefghijklmnopq", strings.Repeat("a", api.MaxText+1)}
