package channel_test

import (
	"encoding/binary"
	"maps"
	"math"
	"math/rand/v2"
	"slices"
	"strconv"
	"strings"
	"testing"

	"nuncio/api"
	"nuncio/blake"
	"nuncio/channel"
	"nuncio/client"
	"nuncio/forms"
	"nuncio/merkle"
	"nuncio/schnorr"
	"nuncio/tally"
)

func random() *rand.Rand { return rand.New(rand.NewPCG(20, 21)) }

func pick[T any](r *rand.Rand, l ...T) T { return l[r.IntN(len(l))] }

// states are the entries that a chain had, by heights.
type states map[int][]api.Entry

// block is a light block of a chain with these entries: one second a height, and one validator all along.
func block(chain string, height int, last api.Hash, l []api.Entry) api.Light {
	key, _ := schnorr.Key(7)
	set := []api.Validator{{Key: key, Power: 1}}
	h := api.Header{Chain: chain, Height: height, Time: height, Last: last}
	h.Set, _ = forms.SetHash(set)
	h.Next = h.Set
	h.App, _ = merkle.Root(l)
	c := api.Commit{Height: height}
	c.Block, _ = forms.HeaderHash(h)
	v, _ := tally.Sign(7, api.Vote{Chain: chain, Height: height, Type: api.Precommit, Block: c.Block})
	c.Seals = []api.Seal{{Key: key, Sig: v.Sig}}
	return api.Light{Header: h, Commit: c, Set: set, Next: set}
}

// shown is a client of a chain that was shown its blocks of these heights.
func shown(t *testing.T, chain string, all states) *client.Client {
	t.Helper()
	var k *client.Client
	last := api.Hash{1}
	for _, h := range slices.Sorted(maps.Keys(all)) {
		l, e := block(chain, h, last, all[h]), api.OK
		if k == nil {
			k, e = client.New(l, api.MaxHeight, api.Options{Level: 0.5, Period: math.Inf(1)})
		} else {
			e = k.Update(l, api.MaxHeight)
		}
		if e != api.OK {
			t.Fatalf("height %d of %s: %d", h, chain, e)
		}
		last = l.Commit.Block
	}
	return k
}

// frozen is a client that was shown all that, and another block where it is.
func frozen(t *testing.T, chain string, all states) *client.Client {
	t.Helper()
	k := shown(t, chain, all)
	if e := k.Blame(block(chain, k.Height(), api.Hash{99}, nil)); e != api.OK || !k.Frozen() {
		t.Fatalf("Blame: %d", e)
	}
	return k
}

func proofOf(l []api.Entry, key string) api.Proof {
	p, _ := merkle.Prove(l, key)
	return p
}

// entries are keys with values, told one behind the other, by rising keys.
func entries(l ...string) []api.Entry {
	var all []api.Entry
	for i := 0; i+1 < len(l); i += 2 {
		all = append(all, api.Entry{Key: l[i], Value: l[i+1]})
	}
	slices.SortFunc(all, func(a, b api.Entry) int { return strings.Compare(a.Key, b.Key) })
	return all
}

func numbered(kind string, n int) string { return kind + "/" + strconv.Itoa(n) }

// plainHash is a packet's, of its bytes as the document tells them.
func plainHash(p api.Packet) api.Hash {
	number := func(b []byte, n int) []byte { return binary.BigEndian.AppendUint64(b, uint64(n)) }
	text := func(b []byte, s string) []byte {
		return append(binary.BigEndian.AppendUint16(b, uint16(len(s))), s...)
	}
	b := []byte{6}
	b = number(b, 6)
	b = number(b, p.Seq)
	b = text(b, p.From)
	b = text(b, p.Data)
	b = number(b, p.Timeout)
	return blake.Sum(b)
}

// textOf is what a packet's commit entry has.
func textOf(p api.Packet) string { return blake.Text(plainHash(p)) }

// commitsOf are the commit entries of packets.
func commitsOf(l ...api.Packet) []api.Entry {
	var all []string
	for _, p := range l {
		all = append(all, numbered("commit", p.Seq), textOf(p))
	}
	return entries(all...)
}

func begun(t *testing.T, own, other string) *channel.Channel {
	t.Helper()
	c, e := channel.New(own, other)
	if e != api.OK || c == nil {
		t.Fatalf("New(%q, %q): %v, %d", own, other, c, e)
	}
	return c
}

func send(t *testing.T, c *channel.Channel, data string, timeout int) api.Packet {
	t.Helper()
	p, e := c.Send(data, timeout)
	if e != api.OK {
		t.Fatalf("Send of %q till %d: %d", data, timeout, e)
	}
	return p
}

// expect: the answer is just that.
func expect(t *testing.T, name string, got, want api.Errno) {
	t.Helper()
	if got != want {
		t.Errorf("%s: %d, not %d", name, got, want)
	}
}

// shows: the channel has that next number and just these entries.
func shows(t *testing.T, c *channel.Channel, next int, l []api.Entry) {
	t.Helper()
	if n, all := c.Next(), c.Entries(); n != next || !slices.Equal(all, l) {
		t.Fatalf("%d %v, not %d %v", n, all, next, l)
	}
}

// unchanged runs f, behind which the channel tells what it told ahead.
func unchanged(t *testing.T, c *channel.Channel, name string, f func()) {
	t.Helper()
	next, all := c.Next(), c.Entries()
	f()
	if n, l := c.Next(), c.Entries(); n != next || !slices.Equal(l, all) {
		t.Fatalf("%s: %d %v, not %d %v", name, n, l, next, all)
	}
}

var (
	rightNames = []string{"a", "z", "az", "abcdefghijklmnop", "zzzzzzzzzzzzzzzz"}
	wrongNames = []string{"", "A", "Z", "aB", "`", "{", "a`", "{a", "0", "a1", "a/b", "a b", " a", "\x00", "a\x00", "\xe9", "\u00e9", "abcdefghijklmnopq", strings.Repeat("a", api.MaxText), strings.Repeat("a", 1<<17)}
)

// wrongPackets are such as are not right, each with a change to one that is.
func wrongPackets(p api.Packet) []api.Packet {
	l := []api.Packet{{}}
	for _, n := range []int{math.MinInt, -1, 0, api.MaxHeight + 1, math.MaxInt} {
		x, y := p, p
		x.Seq, y.Timeout = n, n
		l = append(l, x, y)
	}
	for _, name := range wrongNames {
		x := p
		x.From = name
		l = append(l, x)
	}
	for _, n := range []int{api.MaxData + 1, api.MaxText, api.MaxText + 1, 1 << 17} {
		x := p
		x.Data = strings.Repeat("d", n)
		l = append(l, x)
	}
	return l
}
