package app_test

import (
	"encoding/binary"
	"maps"
	"math"
	"math/rand/v2"
	"slices"
	"strconv"
	"strings"
	"testing"

	"nuncio/api"
	"nuncio/app"
	"nuncio/bank"
	"nuncio/blake"
	"nuncio/channel"
	"nuncio/forms"
	"nuncio/merkle"
	"nuncio/schnorr"
	"nuncio/tally"
)

func random() *rand.Rand { return rand.New(rand.NewPCG(21, 22)) }

func pick[T any](r *rand.Rand, l ...T) T { return l[r.IntN(len(l))] }

// late is a clock behind the time of all blocks of these tests, which is their height.
const late = 1e6

var patient = api.Options{Level: 0.5, Period: math.Inf(1)}

// states are the entries that a chain had, by heights.
type states map[int][]api.Entry

// block is a light block of a chain with these entries: one validator all along.
func block(chain string, height int, last api.Hash, l []api.Entry) api.Light {
	key, _ := schnorr.Key(7)
	set := []api.Validator{{Key: key, Power: 1}}
	h := api.Header{Chain: chain, Height: height, Time: height, Last: last}
	h.Set, _ = forms.SetHash(set)
	h.Next = h.Set
	h.App, _ = merkle.Root(l)
	c := api.Commit{Height: height}
	c.Block, _ = forms.HeaderHash(h)
	v, _ := tally.Sign(7, api.Vote{Chain: chain, Height: height, Type: api.Precommit, Block: c.Block})
	c.Seals = []api.Seal{{Key: key, Sig: v.Sig}}
	return api.Light{Header: h, Commit: c, Set: set, Next: slices.Clone(set)}
}

// blocks are those of a chain that had all these states, by rising heights.
func blocks(chain string, all states) []api.Light {
	var l []api.Light
	last := api.Hash{1}
	for _, h := range slices.Sorted(maps.Keys(all)) {
		b := block(chain, h, last, all[h])
		last = b.Commit.Block
		l = append(l, b)
	}
	return l
}

func crew() []api.Validator { return []api.Validator{{Key: 3, Power: 2}, {Key: 8, Power: 5}} }

func begun(t *testing.T, own, other string) *app.App {
	t.Helper()
	a, e := app.New(own, other, crew())
	if e != api.OK || a == nil {
		t.Fatalf("New(%q, %q): %v, %d", own, other, a, e)
	}
	return a
}

// shown takes in the other chain's blocks, the first one as a root.
func shown(t *testing.T, a *app.App, other string, all states) {
	t.Helper()
	for i, l := range blocks(other, all) {
		if i == 0 {
			expect(t, "Trust", a.Trust(l, late, patient), api.OK)
			continue
		}
		run(t, a, api.Tx{Kind: api.Update, Light: l}, api.OK)
	}
}

// home is an app of chain a that was shown these states of chain b. ann has 100 coin.
func home(t *testing.T, all states) *app.App {
	t.Helper()
	a := begun(t, "a", "b")
	expect(t, "Grant", a.Grant("ann", "coin", 100), api.OK)
	shown(t, a, "b", all)
	return a
}

// expect: the answer is just that.
func expect(t *testing.T, name string, got, want api.Errno) {
	t.Helper()
	if got != want {
		t.Errorf("%s: %d, not %d", name, got, want)
	}
}

// run: the transaction, at height 5, answers just that; if it is refused, nothing changes.
func run(t *testing.T, a *app.App, x api.Tx, want api.Errno) {
	t.Helper()
	runAt(t, a, x, 5, late, want)
}

func runAt(t *testing.T, a *app.App, x api.Tx, height int, now float64, want api.Errno) {
	t.Helper()
	if want == api.OK {
		expect(t, "Run of kind "+strconv.Itoa(int(x.Kind)), a.Run(x, height, now), want)
		return
	}
	unchanged(t, a, func() { expect(t, "Run of kind "+strconv.Itoa(int(x.Kind)), a.Run(x, height, now), want) })
}

func pay(from, to, denom string, n uint64) api.Tx {
	return api.Tx{Kind: api.Pay, From: from, To: to, Denom: denom, Amount: n}
}

func send(from, to, denom string, n uint64, timeout int) api.Tx {
	return api.Tx{Kind: api.Send, From: from, To: to, Denom: denom, Amount: n, Timeout: timeout}
}

func receive(p api.Packet, height int, l []api.Entry) api.Tx {
	return api.Tx{Kind: api.Receive, Packet: p, Height: height, Proof: proofOf(l, numbered("commit", p.Seq))}
}

func acknowledge(p api.Packet, ack string, height int, l []api.Entry) api.Tx {
	return api.Tx{Kind: api.Acknowledge, Packet: p, Ack: ack, Height: height, Proof: proofOf(l, numbered("answer", p.Seq))}
}

func expire(p api.Packet, height int, l []api.Entry) api.Tx {
	return api.Tx{Kind: api.Expire, Packet: p, Height: height, Proof: proofOf(l, numbered("receipt", p.Seq))}
}

func proofOf(l []api.Entry, key string) api.Proof {
	p, _ := merkle.Prove(l, key)
	return p
}

// entries are keys with values, told one behind the other, by rising keys.
func entries(l ...string) []api.Entry {
	var all []api.Entry
	for i := 0; i+1 < len(l); i += 2 {
		all = append(all, api.Entry{Key: l[i], Value: l[i+1]})
	}
	slices.SortFunc(all, func(a, b api.Entry) int { return strings.Compare(a.Key, b.Key) })
	return all
}

func numbered(kind string, n int) string { return kind + "/" + strconv.Itoa(n) }

// dataOf is a transfer's, byte by byte as the document tells it.
func dataOf(denom string, n uint64, from, to string) string {
	text := func(b []byte, s string) []byte {
		return append(binary.BigEndian.AppendUint16(b, uint16(len(s))), s...)
	}
	b := text(nil, denom)
	b = binary.BigEndian.AppendUint64(b, n)
	b = text(b, from)
	return string(text(b, to))
}

// textOf is what a packet's commit entry has.
func textOf(p api.Packet) string {
	h, _ := channel.Hash(p)
	return blake.Text(h)
}

// commitsOf are the commit entries of packets.
func commitsOf(l ...api.Packet) []api.Entry {
	var all []string
	for _, p := range l {
		all = append(all, numbered("commit", p.Seq), textOf(p))
	}
	return entries(all...)
}

// view is all that an app tells of itself.
type view struct {
	bank, entries []api.Entry
	root          api.Hash
	set           []api.Validator
	sent          []api.Packet
	known         int
}

// look is in memory of its own, whatever the app answers.
func look(a *app.App) view {
	return view{a.Bank().Entries(), slices.Clone(a.Entries()), a.Root(), slices.Clone(a.Set()), slices.Clone(a.Sent()), a.Known()}
}

func isSame(a, b view) bool {
	return slices.Equal(a.bank, b.bank) && slices.Equal(a.entries, b.entries) && a.root == b.root && slices.Equal(a.set, b.set) && slices.Equal(a.sent, b.sent) && a.known == b.known
}

// next is what an app tells behind one more payment and one more packet, which its copy makes.
func next(a *app.App) view {
	d := a.Copy()
	d.Grant("zed", "probe", 2)
	d.Run(pay("zed", "zoe", "probe", 1), 1, 1)
	d.Run(send("zed", "zoe", "probe", 1, api.MaxHeight), 1, 1)
	return look(d)
}

// unchanged runs f, behind which the app tells what it told ahead, and does what it would have done.
func unchanged(t *testing.T, a *app.App, f func()) {
	t.Helper()
	was, then := look(a), next(a)
	f()
	if got := look(a); !isSame(got, was) {
		t.Fatalf("%+v, not %+v", got, was)
	}
	if got := next(a); !isSame(got, then) {
		t.Fatalf("then: %+v, not %+v", got, then)
	}
}

// shows: the app has just these entries.
func shows(t *testing.T, a *app.App, l ...string) {
	t.Helper()
	if got := a.Entries(); !slices.Equal(got, entries(l...)) {
		t.Fatalf("%v, not %v", got, entries(l...))
	}
}

// supplies: the bank has just so much of these.
func supplies(t *testing.T, b *bank.Bank, denom string, n uint64) {
	t.Helper()
	if got := b.Supply(denom); got != n {
		t.Errorf("%d %s, not %d", got, denom, n)
	}
}

var (
	rightNames    = []string{"a", "z", "az", "escrow", "abcdefghijklmnop"}
	wrongNames    = []string{"", "A", "aB", "`", "{a", "0", "a1", "a/b", "a b", " a", "a\x00", "\xe9", "abcdefghijklmnopq", strings.Repeat("a", api.MaxText+1)}
	wrongAccounts = wrongNames
	wrongDenoms   = []string{"", "/", "/coin", "coin/", "a//", "Coin", "coin1", "co in", "co\x00", "\xe9", strings.Repeat("c", 41), strings.Repeat("c", api.MaxText+1)}
)
