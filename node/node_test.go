package node_test

import (
	"bytes"
	"encoding/binary"
	"math"
	"math/rand/v2"
	"slices"
	"strings"
	"testing"

	"nuncio/api"
	"nuncio/blake"
	"nuncio/forms"
	"nuncio/node"
	"nuncio/round"
	"nuncio/schnorr"
	"nuncio/tally"
	"nuncio/tape"
	"nuncio/turns"
	"nuncio/wal"
)

const (
	chain = "abc"

	prime = 1<<61 - 1
)

func random() *rand.Rand { return rand.New(rand.NewPCG(14, 15)) }

func hash(b byte) api.Hash { return api.Hash{b} }

func keyOf(t testing.TB, secret uint64) uint64 {
	t.Helper()
	key, e := schnorr.Key(secret)
	if e != api.OK {
		t.Fatalf("no key of %d: %d", secret, e)
	}
	return key
}

// setOf are validators of the secrets 1, 2, .. with powers, by rising keys, and these secrets in that order.
func setOf(t testing.TB, powers ...int) ([]api.Validator, []uint64) {
	t.Helper()
	secrets := map[uint64]uint64{}
	var l []api.Validator
	for i, power := range powers {
		key := keyOf(t, uint64(i+1))
		secrets[key] = uint64(i + 1)
		l = append(l, api.Validator{Key: key, Power: power})
	}
	slices.SortFunc(l, func(a, b api.Validator) int { return compare(a.Key, b.Key) })
	var s []uint64
	for _, v := range l {
		s = append(s, secrets[v.Key])
	}
	return l, s
}

func compare(a, b uint64) int {
	switch {
	case a < b:
		return -1
	case a > b:
		return 1
	}
	return 0
}

func open(t testing.TB, votes, blocks *tape.Tape, secret uint64, set []api.Validator) *node.Node {
	t.Helper()
	n, e := node.Open(votes, blocks, secret, chain, set)
	if e != api.OK || n == nil {
		t.Fatalf("Open: %v, %d", n, e)
	}
	return n
}

func fresh(t testing.TB, secret uint64, set []api.Validator) *node.Node {
	t.Helper()
	return open(t, tape.New(), tape.New(), secret, set)
}

// proposerOf is who proposes, by secret.
func proposerOf(t testing.TB, set []api.Validator, secrets []uint64, height, round int) uint64 {
	t.Helper()
	key, e := turns.Proposer(set, turns.Turn(height, round))
	if e != api.OK {
		t.Fatalf("Proposer: %d", e)
	}
	return secrets[slices.IndexFunc(set, func(v api.Validator) bool { return v.Key == key })]
}

// others are the secrets but one.
func others(secrets []uint64, but ...uint64) []uint64 {
	return slices.DeleteFunc(slices.Clone(secrets), func(s uint64) bool { return slices.Contains(but, s) })
}

func voteOf(t testing.TB, secret uint64, height, round int, kind api.VoteType, block api.Hash) api.Vote {
	t.Helper()
	v, e := tally.Sign(secret, api.Vote{Chain: chain, Height: height, Round: round, Type: kind, Block: block})
	if e != api.OK {
		t.Fatalf("tally.Sign: %d", e)
	}
	return v
}

func bytesOf(t testing.TB, v api.Vote) []byte {
	t.Helper()
	b, e := forms.EncodeVote(v)
	if e != api.OK {
		t.Fatalf("EncodeVote: %d", e)
	}
	return b
}

func prevote(t testing.TB, secret uint64, height, round int, block api.Hash) []byte {
	t.Helper()
	return bytesOf(t, voteOf(t, secret, height, round, api.Prevote, block))
}

func precommit(t testing.TB, secret uint64, height, round int, block api.Hash) []byte {
	t.Helper()
	return bytesOf(t, voteOf(t, secret, height, round, api.Precommit, block))
}

// fields are a proposal's bytes by the words, whatever they are.
func fields(number int, chain string, height, round, valid int, block api.Hash, key uint64, sig api.Sig) []byte {
	b := binary.BigEndian.AppendUint64(nil, uint64(number))
	b = binary.BigEndian.AppendUint16(b, uint16(len(chain)))
	b = append(b, chain...)
	for _, n := range []int{height, round, valid} {
		b = binary.BigEndian.AppendUint64(b, uint64(n))
	}
	b = append(b, block[:]...)
	for _, n := range []uint64{key, sig.R, sig.S} {
		b = binary.BigEndian.AppendUint64(b, n)
	}
	return b
}

// proposalOf is one by the words, well signed, though its fields may be any.
func proposalOf(t testing.TB, secret uint64, chain string, height, round, valid int, block api.Hash) []byte {
	t.Helper()
	sig, e := schnorr.Sign(secret, fields(8, chain, height, round, valid, block, 0, api.Sig{}))
	if e != api.OK {
		t.Fatalf("schnorr.Sign: %d", e)
	}
	return fields(8, chain, height, round, valid, block, keyOf(t, secret), sig)
}

func proposal(t testing.TB, secret uint64, height, round, valid int, block api.Hash) []byte {
	t.Helper()
	return proposalOf(t, secret, chain, height, round, valid, block)
}

// ownOf is the block of its own, by the words.
func ownOf(t testing.TB, secret uint64, height int) api.Hash {
	t.Helper()
	b := []byte{5, 0, byte(len(chain))}
	b = append(b, chain...)
	b = binary.BigEndian.AppendUint64(b, uint64(height))
	b = binary.BigEndian.AppendUint64(b, keyOf(t, secret))
	return blake.Sum(b)
}

// commitOf is one of precommits by all of secrets.
func commitOf(t testing.TB, set []api.Validator, secrets []uint64, height, round int, block api.Hash) api.Commit {
	t.Helper()
	c := api.Commit{Height: height, Round: round, Block: block}
	for _, s := range secrets {
		v := voteOf(t, s, height, round, api.Precommit, block)
		c.Seals = append(c.Seals, api.Seal{Key: v.Key, Sig: v.Sig})
	}
	slices.SortFunc(c.Seals, func(a, b api.Seal) int { return compare(a.Key, b.Key) })
	return c
}

func sameCommit(a, b api.Commit) bool {
	return a.Height == b.Height && a.Round == b.Round && a.Block == b.Block && slices.Equal(a.Seals, b.Seals)
}

// tapeOf has a log of records.
func tapeOf(t testing.TB, records ...[]byte) *tape.Tape {
	t.Helper()
	x := tape.New()
	l, e := wal.Open(x)
	for _, r := range records {
		e = max(e, l.Append(r))
	}
	if e = max(e, l.Sync()); e != api.OK {
		t.Fatalf("a log of %d records: %d", len(records), e)
	}
	return x
}

func commitBytes(t testing.TB, c api.Commit) []byte {
	t.Helper()
	b, e := forms.EncodeCommit(c)
	if e != api.OK {
		t.Fatalf("EncodeCommit: %d", e)
	}
	return b
}

// all that can be told of a node, but for what it said.
type told struct {
	height, round int
	waits         []node.Wait
	commits       []api.Commit
}

func tell(n *node.Node) told {
	return told{n.Height(), n.Round(), n.Waits(), n.Commits()}
}

func (a told) same(b told) bool {
	return a.height == b.height && a.round == b.round && slices.Equal(a.waits, b.waits) && slices.EqualFunc(a.commits, b.commits, sameCommit)
}

func hear(t testing.TB, n *node.Node, messages ...[]byte) {
	t.Helper()
	for _, m := range messages {
		if e := n.Hear(m); e != api.OK {
			t.Errorf("Hear of %x: %d", m, e)
		}
	}
}

// refuses: the message is none of the chain and set, and nothing has changed.
func refuses(t testing.TB, n *node.Node, m []byte) {
	t.Helper()
	before := tell(n)
	if e := n.Hear(m); e != api.ErrMessage {
		t.Errorf("Hear of %x: %d; want ErrMessage", m, e)
	}
	if !before.same(tell(n)) {
		t.Errorf("Hear of %x, refused, has changed something: %+v, %+v", m, before, tell(n))
	}
}

// says: these are the messages since Out was asked last.
func says(t testing.TB, n *node.Node, want ...[]byte) {
	t.Helper()
	got := n.Out()
	if !slices.EqualFunc(got, want, bytes.Equal) {
		t.Errorf("Out: %d messages, %x; want %d, %x", len(got), got, len(want), want)
	}
	if again := n.Out(); len(again) > 0 {
		t.Errorf("Out once more: %x", again)
	}
}

// stands: height and round of the node, and what it waits for there.
func stands(t testing.TB, n *node.Node, height, round int, waits ...node.Wait) {
	t.Helper()
	for i := range waits {
		waits[i].Height = height
	}
	if n.Height() != height || n.Round() != round || !slices.Equal(n.Waits(), waits) {
		t.Errorf("at %d, %d, waits %v; want %d, %d, %v", n.Height(), n.Round(), n.Waits(), height, round, waits)
	}
}

func waitPropose(r int) node.Wait   { return node.Wait{Kind: round.WaitPropose, Round: r} }
func waitPrevote(r int) node.Wait   { return node.Wait{Kind: round.WaitPrevote, Round: r} }
func waitPrecommit(r int) node.Wait { return node.Wait{Kind: round.WaitPrecommit, Round: r} }

func fire(t testing.TB, n *node.Node, i int) {
	t.Helper()
	if e := n.Fire(i); e != api.OK {
		t.Errorf("Fire(%d): %d", i, e)
	}
}

func start(t testing.TB, n *node.Node) {
	t.Helper()
	if e := n.Start(); e != api.OK {
		t.Errorf("Start: %d", e)
	}
}

// four is a node of four with like power that does not propose at height 1 in the rounds 0 and 1: who does, and the one who is left.
type four struct {
	set            []api.Validator
	secrets        []uint64
	me, p0, p1, p2 uint64
	votes, blocks  *tape.Tape
	n              *node.Node
}

func newFour(t testing.TB) *four {
	t.Helper()
	f := &four{votes: tape.New(), blocks: tape.New()}
	f.set, f.secrets = setOf(t, 1, 1, 1, 1)
	f.p0 = proposerOf(t, f.set, f.secrets, 1, 0)
	f.p1 = proposerOf(t, f.set, f.secrets, 1, 1)
	f.p2 = proposerOf(t, f.set, f.secrets, 1, 2)
	f.me = others(f.secrets, f.p0, f.p1, f.p2)[0]
	f.n = open(t, f.votes, f.blocks, f.me, f.set)
	return f
}

// power goes, and the node is opened again.
func (f *four) power(t testing.TB) {
	t.Helper()
	f.votes, f.blocks = f.votes.Cut(f.votes.Calls(), 0), f.blocks.Cut(f.blocks.Calls(), 0)
	f.n = open(t, f.votes, f.blocks, f.me, f.set)
}

func TestPropose(t *testing.T) { // P14.1 (N2)
	for _, secret := range []uint64{1, 5, prime - 2} {
		for _, name := range []string{"a", "abc", "abcdefghijklmnop"} {
			for _, c := range [][3]int{{1, 0, -1}, {7, 1, -1}, {7, 1, 0}, {7, 9, 8}, {api.MaxHeight, api.MaxRound, api.MaxRound - 1}} {
				b, e := node.Propose(secret, name, c[0], c[1], c[2], hash(3))
				if e != api.OK || !bytes.Equal(b, proposalOf(t, secret, name, c[0], c[1], c[2], hash(3))) {
					t.Errorf("Propose %d %q %v: %x, %d", secret, name, c, b, e)
				}
			}
		}
	}
}

func TestProposeWrong(t *testing.T) { // P14.1 (N2), rules 1 and 2
	refused := func(want api.Errno, secret uint64, name string, height, round, valid int, block api.Hash) {
		t.Helper()
		if b, e := node.Propose(secret, name, height, round, valid, block); len(b) > 0 || e != want {
			t.Errorf("Propose %d %.20q %d %d %d %v: %x, %d; want %d", secret, name, height, round, valid, block, b, e, want)
		}
	}
	for _, secret := range []uint64{0, prime - 1, prime, math.MaxUint64} {
		refused(api.ErrSecret, secret, chain, 1, 0, -1, hash(1))
		refused(api.ErrSecret, secret, "", 0, -1, 5, api.Hash{})
	}
	for _, name := range []string{"", "A", "a1", "ä", "abcdefghijklmnopq", strings.Repeat("a", api.MaxText+1)} {
		refused(api.ErrMessage, 5, name, 1, 0, -1, hash(1))
	}
	for _, height := range []int{0, -1, math.MinInt, api.MaxHeight + 1, math.MaxInt} {
		refused(api.ErrMessage, 5, chain, height, 0, -1, hash(1))
	}
	for _, round := range []int{-1, -2, math.MinInt, api.MaxRound + 1, math.MaxInt} {
		refused(api.ErrMessage, 5, chain, 1, round, -1, hash(1))
	}
	for _, valid := range []int{-2, math.MinInt, 4, 5, api.MaxRound, math.MaxInt} {
		refused(api.ErrMessage, 5, chain, 1, 4, valid, hash(1))
	}
	refused(api.ErrMessage, 5, chain, 1, 0, 0, hash(1))
	refused(api.ErrMessage, 5, chain, 1, 0, -1, api.Hash{})
}

func TestOpenWrong(t *testing.T) { // P14.1 (N1), rules 1 to 3
	set, _ := setOf(t, 1, 1)
	wrong := [][]api.Validator{nil, {}, {{Key: 1}}, {{Key: 2, Power: 1}, {Key: 1, Power: 1}}, {{Key: 1, Power: -1}}, {{Key: 1, Power: api.MaxPower + 1}}, make([]api.Validator, api.MaxValidators+1)}
	junk := func() *tape.Tape {
		x := tape.New()
		x.Append([]byte("none"))
		return x
	}
	votes, blocks := junk(), junk()
	refused := func(want api.Errno, votes, blocks *tape.Tape, secret uint64, name string, set []api.Validator) {
		t.Helper()
		if n, e := node.Open(votes, blocks, secret, name, set); n != nil || e != want {
			t.Errorf("Open %d %.20q %v: %v, %d; want %d", secret, name, set, n, e, want)
		}
	}
	for _, l := range wrong {
		refused(api.ErrSet, votes, blocks, 1, chain, l)
		refused(api.ErrSet, nil, blocks, 0, chain, l)
		refused(api.ErrSet, votes, nil, 1, "", l)
	}
	for _, x := range [][2]*tape.Tape{{nil, nil}, {nil, blocks}, {votes, nil}} {
		refused(api.ErrArg, x[0], x[1], 1, chain, set)
		refused(api.ErrArg, x[0], x[1], 0, chain, set)
		refused(api.ErrArg, x[0], x[1], 1, "A", set)
	}
	for _, name := range []string{"", "A", "a/b", "abcdefghijklmnopq"} {
		refused(api.ErrSecret, votes, blocks, 0, name, set)
		refused(api.ErrSecret, votes, blocks, prime-1, name, set)
		refused(api.ErrForm, votes, blocks, 1, name, set)
	}
	for _, x := range []*tape.Tape{votes, blocks} {
		if x.Calls() != 1 || x.Safe() != 0 || string(x.Read()) != "none" {
			t.Errorf("a tape: %d calls, %d safe, %q", x.Calls(), x.Safe(), x.Read())
		}
	}
}

func TestOpenEmpty(t *testing.T) { // P14.1 (N1)
	set, secrets := setOf(t, 1, 2, 3)
	for _, secret := range append(secrets, 77) {
		n := fresh(t, secret, set)
		stands(t, n, 1, -1)
		says(t, n)
		if len(n.Commits()) != 0 {
			t.Errorf("Commits: %v", n.Commits())
		}
	}
}

// TestOpenCommits: the log's records count up to the first one that does not, and bytes that are no frame's are gone.
func TestOpenCommits(t *testing.T) { // P14.1 (N1), P14.3
	set, s := setOf(t, 1, 1, 1, 1)
	var good [][]byte
	for h := 1; h <= 4; h++ {
		good = append(good, commitBytes(t, commitOf(t, set, s[:3], h, h, hash(byte(h)))))
	}
	strange, _ := setOf(t, 1, 1, 1, 1, 1)
	few, empty, foreign := commitOf(t, set, s[:2], 3, 0, hash(3)), commitOf(t, set, s, 3, 0, api.Hash{}), commitOf(t, set, s, 3, 0, hash(3))
	forged, stranger := commitOf(t, set, s, 3, 0, hash(3)), commitOf(t, strange, []uint64{s[0], s[1], s[2], 5}, 3, 0, hash(3))
	for i, who := range foreign.Seals {
		v, _ := tally.Sign(s[i], api.Vote{Chain: "b", Height: 3, Type: api.Precommit, Block: hash(3)})
		foreign.Seals[i] = api.Seal{Key: who.Key, Sig: v.Sig}
	}
	forged.Seals[1].Sig.S ^= 1
	bad := [][]byte{
		[]byte("junk"), good[0], good[1], good[3], append(slices.Clone(good[2]), 0), good[2][1:],
		commitBytes(t, few), commitBytes(t, empty), commitBytes(t, foreign), commitBytes(t, forged), commitBytes(t, stranger),
		prevote(t, s[0], 3, 0, hash(3)),
	}
	for _, record := range bad {
		for _, behind := range [][][]byte{{good[2], good[3]}, {good[3]}} { // these count for nothing, whatever their heights are
			x := tapeOf(t, append([][]byte{good[0], good[1], record}, behind...)...)
			n := open(t, tape.New(), x, s[0], set)
			stands(t, n, 3, -1)
			if l := n.Commits(); len(l) != 2 || !bytes.Equal(commitBytes(t, l[0]), good[0]) || !bytes.Equal(commitBytes(t, l[1]), good[1]) {
				t.Errorf("behind %x: %v", record, l)
			}
		}
	}
	for i := range len(good) + 1 {
		x := tapeOf(t, good[:i]...)
		size := len(x.Read())
		x.Append([]byte("torn"))
		stands(t, open(t, tape.New(), x, s[0], set), i+1, -1)
		if len(x.Read()) != size || x.Safe() != size {
			t.Errorf("behind Open: %d bytes, %d safe; want %d", len(x.Read()), x.Safe(), size)
		}
	}
	other, os := setOf(t, 1, 1, 1, 7)
	stands(t, open(t, tape.New(), tapeOf(t, good...), os[0], other), 1, -1)
}

func TestStart(t *testing.T) { // P14.1 (N2, N3: Next, what is said)
	set, secrets := setOf(t, 1, 1, 1, 1)
	for _, secret := range secrets {
		n := fresh(t, secret, set)
		for range 2 {
			start(t, n)
		}
		if secret == proposerOf(t, set, secrets, 1, 0) {
			own := ownOf(t, secret, 1)
			stands(t, n, 1, 0)
			says(t, n, proposal(t, secret, 1, 0, -1, own), prevote(t, secret, 1, 0, own))
		} else {
			stands(t, n, 1, 0, waitPropose(0))
			says(t, n)
		}
	}
}

// TestAlone: one with more than two thirds decides by itself, whenever it starts.
func TestAlone(t *testing.T) { // P14.1 (N3), P14.3, P14.4
	for _, powers := range [][]int{{1}, {5}, {api.MaxPower}} {
		set, secrets := setOf(t, powers...)
		n := fresh(t, secrets[0], set)
		for h := 1; h <= 5; h++ {
			start(t, n)
			stands(t, n, h+1, -1)
			own := ownOf(t, secrets[0], h)
			says(t, n, proposal(t, secrets[0], h, 0, -1, own), prevote(t, secrets[0], h, 0, own), precommit(t, secrets[0], h, 0, own))
			if l := n.Commits(); len(l) != h || !sameCommit(l[h-1], commitOf(t, set, secrets, h, 0, own)) {
				t.Errorf("Commits: %v", l)
			}
		}
	}
}

// TestStranger: who is none of the set says what it would, but counts for nothing, to itself neither.
func TestStranger(t *testing.T) { // P14.1 (N3)
	set, secrets := setOf(t, 1)
	n := fresh(t, 99, set)
	start(t, n)
	stands(t, n, 1, 0, waitPropose(0))
	own := ownOf(t, secrets[0], 1)
	hear(t, n, proposal(t, secrets[0], 1, 0, -1, own), prevote(t, secrets[0], 1, 0, own))
	says(t, n, prevote(t, 99, 1, 0, own), precommit(t, 99, 1, 0, own))
	refuses(t, n, prevote(t, 99, 1, 0, own))
	hear(t, n, precommit(t, secrets[0], 1, 0, own))
	stands(t, n, 2, -1)
	says(t, n)
}

// TestRound: a round as it should be, a message at a time.
func TestRound(t *testing.T) { // P14.1 (N3), P14.3
	f := newFour(t)
	block := hash(7)
	start(t, f.n)
	stands(t, f.n, 1, 0, waitPropose(0))
	hear(t, f.n, proposal(t, f.p0, 1, 0, -1, block))
	says(t, f.n, prevote(t, f.me, 1, 0, block))
	hear(t, f.n, prevote(t, f.p0, 1, 0, block))
	says(t, f.n)
	stands(t, f.n, 1, 0, waitPropose(0))
	hear(t, f.n, prevote(t, f.p1, 1, 0, block))
	says(t, f.n, precommit(t, f.me, 1, 0, block))
	hear(t, f.n, prevote(t, f.p2, 1, 0, block))
	stands(t, f.n, 1, 0, waitPropose(0))
	hear(t, f.n, precommit(t, f.p2, 1, 0, block))
	stands(t, f.n, 1, 0, waitPropose(0))
	hear(t, f.n, precommit(t, f.p1, 1, 0, block))
	stands(t, f.n, 2, -1)
	says(t, f.n)
	want := commitOf(t, f.set, []uint64{f.me, f.p1, f.p2}, 1, 0, block)
	if l := f.n.Commits(); len(l) != 1 || !sameCommit(l[0], want) {
		t.Errorf("Commits: %v; want %v", l, want)
	}
	if records, _ := wal.Scan(f.blocks.Read()); len(records) != 1 || !bytes.Equal(records[0], commitBytes(t, want)) || f.blocks.Safe() != len(f.blocks.Read()) {
		t.Errorf("the blocks' log: %x", records)
	}
	hear(t, f.n, precommit(t, f.p0, 1, 0, block)) // of a lesser height
	stands(t, f.n, 2, -1)
	f.power(t)
	stands(t, f.n, 2, -1)
	if l := f.n.Commits(); len(l) != 1 || !sameCommit(l[0], want) {
		t.Errorf("Commits behind power: %v; want %v", l, want)
	}
}

// TestLate: nobody proposes, nobody prevotes, nobody precommits the same.
func TestLate(t *testing.T) { // P14.1 (N2: Waits, Fire)
	f := newFour(t)
	none := api.Hash{}
	start(t, f.n)
	hear(t, f.n, prevote(t, f.p0, 1, 0, hash(1)), prevote(t, f.p1, 1, 0, hash(2)))
	stands(t, f.n, 1, 0, waitPropose(0))
	fire(t, f.n, 0)
	stands(t, f.n, 1, 0, waitPrevote(0))
	says(t, f.n, prevote(t, f.me, 1, 0, none))
	hear(t, f.n, precommit(t, f.p0, 1, 0, none), precommit(t, f.p1, 1, 0, none))
	stands(t, f.n, 1, 0, waitPrevote(0))
	fire(t, f.n, 0)
	stands(t, f.n, 1, 0, waitPrecommit(0))
	says(t, f.n, precommit(t, f.me, 1, 0, none))
	fire(t, f.n, 0)
	stands(t, f.n, 1, 1, waitPropose(1))
	says(t, f.n)
	for _, i := range []int{1, 2, -1, math.MinInt, math.MaxInt} {
		before := tell(f.n)
		if e := f.n.Fire(i); e != api.ErrArg || !before.same(tell(f.n)) {
			t.Errorf("Fire(%d): %d", i, e)
		}
	}
}

// TestWaitsStay: what was asked for stays, in order, till it is over or the height is; over too late it does nothing.
func TestWaitsStay(t *testing.T) { // P14.1 (N2: Waits, Fire)
	f := newFour(t)
	start(t, f.n)
	hear(t, f.n, proposal(t, f.p0, 1, 0, -1, hash(1)))
	says(t, f.n, prevote(t, f.me, 1, 0, hash(1)))
	hear(t, f.n, prevote(t, f.p0, 1, 0, hash(2)), prevote(t, f.p1, 1, 0, hash(3)))
	stands(t, f.n, 1, 0, waitPropose(0), waitPrevote(0))
	hear(t, f.n, precommit(t, f.p0, 1, 0, hash(1)), precommit(t, f.p1, 1, 0, hash(2)), precommit(t, f.p2, 1, 0, hash(1)))
	stands(t, f.n, 1, 0, waitPropose(0), waitPrevote(0), waitPrecommit(0))
	hear(t, f.n, prevote(t, f.p0, 1, 1, hash(1)), prevote(t, f.p2, 1, 1, hash(1)))
	stands(t, f.n, 1, 1, waitPropose(0), waitPrevote(0), waitPrecommit(0), waitPropose(1))
	for range 2 {
		fire(t, f.n, 1)
		says(t, f.n)
	}
	stands(t, f.n, 1, 1, waitPropose(0), waitPropose(1))
	fire(t, f.n, 0)
	says(t, f.n)
	stands(t, f.n, 1, 1, waitPropose(1))
	fire(t, f.n, 0)
	says(t, f.n, prevote(t, f.me, 1, 1, api.Hash{}))
	stands(t, f.n, 1, 1, waitPrevote(1))
	if e := f.n.Catch(commitOf(t, f.set, f.secrets, 1, 0, hash(5))); e != api.OK {
		t.Errorf("Catch: %d", e)
	}
	stands(t, f.n, 2, -1)
	if e := f.n.Fire(0); e != api.ErrArg {
		t.Errorf("Fire of what was waited for at another height: %d", e)
	}
}

// wrongMessages are signed as they should be, but none of the chain and set for another reason.
func wrongMessages(t *testing.T, f *four) [][]byte {
	t.Helper()
	l := [][]byte{nil, {}, []byte("junk"), make([]byte, 98), fields(8, chain, 1, 0, -1, hash(1), 0, api.Sig{})}
	for _, name := range []string{"b", "ab", "abcd", ""} { // another chain
		l = append(l, proposalOf(t, f.p0, name, 1, 0, -1, hash(1)))
	}
	v, _ := tally.Sign(f.p0, api.Vote{Chain: "b", Height: 1, Type: api.Prevote})
	l = append(l, bytesOf(t, v))
	l = append(l, prevote(t, 99, 1, 0, hash(1)), precommit(t, 99, 1, 0, hash(1)), proposal(t, 99, 1, 0, -1, hash(1))) // none of the set's
	for _, s := range others(f.secrets, f.p0) {                                                                       // another one proposes
		l = append(l, proposal(t, s, 1, 0, -1, hash(1)))
	}
	l = append(l, proposal(t, f.p1, 1, 0, -1, hash(1)), proposal(t, f.p0, 1, 1, -1, hash(1)), proposal(t, f.p0, 2, 0, -1, hash(1)))
	turn0, _ := turns.Proposer(f.set, 0)
	for _, s := range f.secrets {
		if keyOf(t, s) != turn0 {
			continue
		}
		for _, h := range []int{0, -1, math.MinInt, api.MaxHeight + 1, math.MaxInt} {
			l = append(l, proposal(t, s, h, 0, -1, hash(1)))
		}
		for _, r := range []int{-1, math.MinInt, api.MaxRound + 1, math.MaxInt} {
			l = append(l, proposal(t, s, 1, r, -1, hash(1)), proposal(t, s, 1, r, -2, hash(1)))
		}
	}
	for _, valid := range []int{-2, math.MinInt, 2, 3, math.MaxInt} { // no round less than it
		l = append(l, proposal(t, f.p2, 1, 2, valid, hash(1)))
	}
	l = append(l, proposal(t, f.p0, 1, 0, -1, api.Hash{}), proposal(t, f.p0, 1, 0, 0, hash(1)))
	for _, number := range []int{0, 1, 7, 9, -8, 8 << 8} {
		sig, _ := schnorr.Sign(f.p0, fields(number, chain, 1, 0, -1, hash(1), 0, api.Sig{}))
		l = append(l, fields(number, chain, 1, 0, -1, hash(1), keyOf(t, f.p0), sig))
	}
	c := commitOf(t, f.set, f.secrets, 1, 0, hash(1))
	return append(l, commitBytes(t, c), v.Block[:])
}

func TestHearWrong(t *testing.T) { // P14.1 (N2: Hear), rule 3
	f := newFour(t)
	for _, m := range wrongMessages(t, f) {
		refuses(t, f.n, m)
	}
	start(t, f.n)
	for _, m := range wrongMessages(t, f) {
		refuses(t, f.n, m)
	}
	says(t, f.n)
}

// TestHearBits: one bit of a message, or a byte more or less, and it is none.
func TestHearBits(t *testing.T) { // P14.1 (words: MESSAGE), T6
	f := newFour(t)
	for _, m := range [][]byte{
		prevote(t, f.p0, 1, 0, hash(1)), precommit(t, f.p1, 9, 3, api.Hash{}),
		proposal(t, f.p0, 1, 0, -1, hash(1)), proposal(t, f.p2, 1, 2, 1, hash(1)),
	} {
		for bit := range 8 * len(m) {
			bent := slices.Clone(m)
			bent[bit/8] ^= 1 << (bit % 8)
			refuses(t, f.n, bent)
		}
		for size := range len(m) {
			refuses(t, f.n, m[:size])
		}
		refuses(t, f.n, append(slices.Clone(m), 0))
		refuses(t, f.n, append([]byte{0}, m...))
		refuses(t, f.n, slices.Concat(m, m))
		hear(t, f.n, m)
	}
	says(t, f.n)
	stands(t, f.n, 1, -1)
}

// TestHearSwapped: a signature is for its own message and key.
func TestHearSwapped(t *testing.T) { // P14.1 (words: MESSAGE)
	f := newFour(t)
	v, w := voteOf(t, f.p0, 1, 0, api.Prevote, hash(1)), voteOf(t, f.p1, 1, 0, api.Prevote, hash(1))
	v.Sig = w.Sig
	refuses(t, f.n, bytesOf(t, v))
	w.Key = keyOf(t, f.p0)
	refuses(t, f.n, bytesOf(t, w))
	key := keyOf(t, f.p0)
	whole, _ := schnorr.Sign(f.p0, fields(8, chain, 1, 0, -1, hash(1), key, api.Sig{})) // of the key's field too
	refuses(t, f.n, fields(8, chain, 1, 0, -1, hash(1), key, whole))
	other, _ := schnorr.Sign(f.p1, fields(8, chain, 1, 0, -1, hash(1), 0, api.Sig{}))
	refuses(t, f.n, fields(8, chain, 1, 0, -1, hash(1), key, other))
}

// TestLesser: what is of a lesser height counts for nothing.
func TestLesser(t *testing.T) { // P14.1 (N2: Hear)
	f := newFour(t)
	if e := f.n.Catch(commitOf(t, f.set, f.secrets, 1, 0, hash(5))); e != api.OK {
		t.Fatalf("Catch: %d", e)
	}
	start(t, f.n)
	f.n.Out()
	before := tell(f.n)
	for _, s := range f.secrets {
		hear(t, f.n, prevote(t, s, 1, 3, hash(1)), precommit(t, s, 1, 3, hash(1)))
	}
	hear(t, f.n, proposal(t, f.p0, 1, 0, -1, hash(1)), proposal(t, f.p1, 1, 1, 0, hash(1)))
	says(t, f.n)
	if !before.same(tell(f.n)) {
		t.Errorf("%+v; want %+v", tell(f.n), before)
	}
}

// TestFarRounds: 64 rounds above its own something counts, 65 above it nothing does, and no round is as 0.
func TestFarRounds(t *testing.T) { // P14.1 (N2: Hear)
	for _, started := range []bool{false, true} {
		f := newFour(t)
		if started {
			start(t, f.n)
		}
		own := 0
		for range 3 {
			before := tell(f.n)
			for _, s := range others(f.secrets, f.me) {
				hear(t, f.n, prevote(t, s, 1, own+65, hash(1)), precommit(t, s, 1, own+66, hash(1)), precommit(t, s, 1, api.MaxRound, hash(1)))
			}
			if !before.same(tell(f.n)) {
				t.Errorf("%+v; want %+v", tell(f.n), before)
			}
			hear(t, f.n, prevote(t, f.p0, 1, own+64, hash(1)))
			if !before.same(tell(f.n)) {
				t.Errorf("%+v; want %+v", tell(f.n), before)
			}
			hear(t, f.n, precommit(t, f.p1, 1, own+64, hash(1)))
			own += 64
			if f.n.Round() != own {
				t.Fatalf("round %d; want %d", f.n.Round(), own)
			}
			hear(t, f.n, prevote(t, f.p0, 1, own+1, hash(1))) // had it counted ahead, this would be a third and more
			if f.n.Round() != own {
				t.Errorf("round %d; want %d", f.n.Round(), own)
			}
		}
	}
}

// TestFarNot: what was too far ahead is not taken in later on.
func TestFarNot(t *testing.T) { // P14.1 (N2: Hear)
	f := newFour(t)
	start(t, f.n)
	hear(t, f.n, prevote(t, f.p0, 1, 65, hash(1)))
	hear(t, f.n, prevote(t, f.p0, 1, 1, hash(1)), prevote(t, f.p1, 1, 1, hash(1)))
	stands(t, f.n, 1, 1, waitPropose(0), waitPropose(1))
	hear(t, f.n, prevote(t, f.p1, 1, 65, hash(1)))
	stands(t, f.n, 1, 1, waitPropose(0), waitPropose(1))
	hear(t, f.n, precommit(t, f.p0, 1, 65, hash(1)))
	if f.n.Round() != 65 {
		t.Errorf("round %d", f.n.Round())
	}
}

// TestMaxRound: the last round of all.
func TestMaxRound(t *testing.T) { // P14.1, P1
	f := newFour(t)
	for r := 64; r <= api.MaxRound; r += 64 {
		hear(t, f.n, prevote(t, f.p0, 1, r, hash(1)), prevote(t, f.p1, 1, r, hash(1)))
	}
	if f.n.Round() != api.MaxRound {
		t.Fatalf("round %d", f.n.Round())
	}
	f.n.Out()
	i := slices.IndexFunc(f.n.Waits(), func(w node.Wait) bool { return w.Round == api.MaxRound })
	waits := len(f.n.Waits())
	if i >= 0 {
		fire(t, f.n, i)
	}
	hear(t, f.n, precommit(t, f.p0, 1, api.MaxRound, hash(1)), precommit(t, f.p1, 1, api.MaxRound, hash(2)), precommit(t, f.p2, 1, api.MaxRound, hash(1)))
	waits = len(f.n.Waits())
	last := f.n.Waits()[waits-1]
	if last != (node.Wait{Kind: round.WaitPrecommit, Height: 1, Round: api.MaxRound}) {
		t.Fatalf("waits for %v", last)
	}
	fire(t, f.n, waits-1)
	if f.n.Round() != api.MaxRound || len(f.n.Waits()) != waits-1 {
		t.Errorf("round %d", f.n.Round())
	}
}

// TestKept: up to 256 of greater heights, in whatever order, are taken in where they belong.
func TestKept(t *testing.T) { // P14.1 (N2: Hear)
	f := newFour(t)
	p := proposerOf(t, f.set, f.secrets, 2, 0)
	l := [][]byte{proposal(t, p, 2, 0, -1, hash(2))}
	for _, s := range others(f.secrets, f.me) {
		l = append(l, precommit(t, s, 2, 0, hash(2)))
	}
	for filled := 250; filled <= 256; filled++ {
		n := fresh(t, f.me, f.set)
		for i := range filled {
			hear(t, n, prevote(t, f.p0, 10+i, 0, hash(1)))
		}
		hear(t, n, l...)
		stands(t, n, 1, -1)
		if e := n.Catch(commitOf(t, f.set, f.secrets, 1, 0, hash(1))); e != api.OK {
			t.Fatalf("Catch: %d", e)
		}
		if want := 256-filled >= len(l); (n.Height() == 3) != want {
			t.Errorf("behind %d others: height %d", filled, n.Height())
		}
	}
}

// TestKeptNot: what counts for nothing takes no room.
func TestKeptNot(t *testing.T) { // P14.1 (N2: Hear)
	f := newFour(t)
	if e := f.n.Catch(commitOf(t, f.set, f.secrets, 1, 0, hash(1))); e != api.OK {
		t.Fatalf("Catch: %d", e)
	}
	start(t, f.n)
	for i := range 300 {
		hear(t, f.n, prevote(t, f.p0, 1, i%50, hash(1)), prevote(t, f.p0, 3+i, 65, hash(1)), prevote(t, f.p0, 2, 65+i, hash(1)))
	}
	hear(t, f.n, proposal(t, proposerOf(t, f.set, f.secrets, 3, 0), 3, 0, -1, hash(3)))
	for _, s := range others(f.secrets, f.me) {
		hear(t, f.n, precommit(t, s, 3, 0, hash(3)))
	}
	if e := f.n.Catch(commitOf(t, f.set, f.secrets, 2, 0, hash(1))); e != api.OK {
		t.Fatalf("Catch: %d", e)
	}
	stands(t, f.n, 4, -1)
}

// TestKeptFrees: what was taken in is kept no more, and there is room again; what is of a lesser height needs none.
func TestKeptFrees(t *testing.T) { // P14.1 (N2: Hear)
	f := newFour(t)
	for i := range 256 {
		hear(t, f.n, prevote(t, f.p0, 2, i%65, hash(1)))
	}
	hear(t, f.n, precommit(t, f.p0, 3, 0, hash(1)))
	stands(t, f.n, 1, -1)
	catch := func(h int) {
		t.Helper()
		if e := f.n.Catch(commitOf(t, f.set, f.secrets, h, 0, hash(1))); e != api.OK {
			t.Fatalf("Catch: %d", e)
		}
	}
	catch(1)
	stands(t, f.n, 2, -1)
	for h := 3; h <= 5; h++ { // three heights ahead
		p := proposerOf(t, f.set, f.secrets, h, 0)
		hear(t, f.n, proposal(t, p, h, 0, -1, hash(byte(h))))
		for _, s := range others(f.secrets, f.me) {
			hear(t, f.n, precommit(t, s, h, 0, hash(byte(h))))
		}
	}
	for i := range 256 - 12 {
		hear(t, f.n, prevote(t, f.p0, 100+i, 0, hash(1)))
	}
	catch(2)
	stands(t, f.n, 6, -1) // three at once
	says(t, f.n)
	for i, c := range f.n.Commits() {
		if c.Height != i+1 || tally.Check(f.set, chain, c) != api.OK {
			t.Errorf("commit %d: %v", i, c)
		}
	}
}

// TestKeptFar: at the height it is of, what was kept is as far ahead as all else may be.
func TestKeptFar(t *testing.T) { // P14.1 (N2: Hear)
	for _, r := range []int{64, 65} {
		f := newFour(t)
		for at := range 2 {
			hear(t, f.n, prevote(t, f.secrets[at], 1, 5, hash(1)))
		}
		if f.n.Round() != 5 {
			t.Fatalf("round %d", f.n.Round())
		}
		for at := range 2 {
			hear(t, f.n, prevote(t, f.secrets[at], 2, r, hash(1)))
		}
		if e := f.n.Catch(commitOf(t, f.set, f.secrets, 1, 0, hash(1))); e != api.OK {
			t.Fatalf("Catch: %d", e)
		}
		if (f.n.Round() == r) != (r <= 64) {
			t.Errorf("%d rounds ahead: round %d", r, f.n.Round())
		}
		hear(t, f.n, prevote(t, f.secrets[2], 2, 1, hash(1)), prevote(t, f.secrets[3], 2, 1, hash(1)))
		if want := map[int]int{64: 64, 65: 1}[r]; f.n.Round() != want {
			t.Errorf("%d rounds ahead: round %d; want %d", r, f.n.Round(), want)
		}
	}
}
