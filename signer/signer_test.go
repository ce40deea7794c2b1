package signer_test

import (
	"bytes"
	"encoding/binary"
	"math"
	"math/big"
	"math/rand/v2"
	"slices"
	"strings"
	"testing"

	"nuncio/api"
	"nuncio/blake"
	"nuncio/forms"
	"nuncio/schnorr"
	"nuncio/signer"
	"nuncio/tally"
	"nuncio/tape"
	"nuncio/wal"
)

const (
	prime = 1<<61 - 1
	order = prime - 1

	secret = 5
	chain  = "a"
)

func random() *rand.Rand { return rand.New(rand.NewPCG(13, 14)) }

func hash(b byte) api.Hash { return api.Hash{b} }

func keyOf(t *testing.T, secret uint64) uint64 {
	t.Helper()
	key, e := schnorr.Key(secret)
	if e != api.OK {
		t.Fatalf("no key of %d: %d", secret, e)
	}
	return key
}

// vote is of no signer yet.
func vote(height, round int, kind api.VoteType, block api.Hash) api.Vote {
	return api.Vote{Chain: chain, Height: height, Round: round, Type: kind, Block: block}
}

// signedBy is a vote as it is signed beside the package.
func signedBy(t *testing.T, secret uint64, v api.Vote) api.Vote {
	t.Helper()
	v, e := tally.Sign(secret, v)
	if e != api.OK {
		t.Fatalf("tally.Sign of %+v: %d", v, e)
	}
	return v
}

// own is a vote as the tests' signer signs it.
func own(t *testing.T, height, round int, kind api.VoteType, block api.Hash) api.Vote {
	t.Helper()
	return signedBy(t, secret, vote(height, round, kind, block))
}

// otherSig signs a vote with another number K than Sign takes, by layer 4's words and big numbers.
func otherSig(t *testing.T, k uint64, v api.Vote) api.Vote {
	t.Helper()
	v.Key, v.Sig = keyOf(t, secret), api.Sig{}
	message, e := forms.SignBytes(v)
	if e != api.OK {
		t.Fatalf("SignBytes: %d", e)
	}
	r := new(big.Int).Exp(big.NewInt(37), new(big.Int).SetUint64(k), big.NewInt(prime)).Uint64()
	two := binary.BigEndian.AppendUint64(binary.BigEndian.AppendUint64(nil, r), v.Key)
	digest := blake.Join(2, two, message)
	n := new(big.Int).SetBytes(digest[:8])
	n.Mod(n, big.NewInt(order))
	n.Mul(n, big.NewInt(secret)).Add(n, new(big.Int).SetUint64(k)).Mod(n, big.NewInt(order))
	v.Sig = api.Sig{R: r, S: n.Uint64()}
	if !tally.Signed(v) || v == signedBy(t, secret, v) {
		t.Fatalf("no other signature: %+v", v)
	}
	return v
}

func bytesOf(t *testing.T, v api.Vote) []byte {
	t.Helper()
	b, e := forms.EncodeVote(v)
	if e != api.OK {
		t.Fatalf("EncodeVote of %+v: %d", v, e)
	}
	return b
}

func recordsOf(t *testing.T, l ...api.Vote) [][]byte {
	t.Helper()
	var records [][]byte
	for _, v := range l {
		records = append(records, bytesOf(t, v))
	}
	return records
}

// tapeOf has a log of records.
func tapeOf(t *testing.T, records ...[]byte) *tape.Tape {
	t.Helper()
	x := tape.New()
	l, e := wal.Open(x)
	for _, r := range records {
		e = max(e, l.Append(r))
	}
	if e = max(e, l.Sync()); e != api.OK {
		t.Fatalf("a log of %d records: %d", len(records), e)
	}
	return x
}

// open is the tests' signer, which must be there.
func open(t *testing.T, x *tape.Tape) *signer.Signer {
	t.Helper()
	return openAs(t, x, secret, chain)
}

func openAs(t *testing.T, x *tape.Tape, secret uint64, chain string) *signer.Signer {
	t.Helper()
	s, e := signer.Open(x, secret, chain)
	if e != api.OK || s == nil {
		t.Fatalf("Open(%d, %q): %v, %d", secret, chain, s, e)
	}
	return s
}

func ask(s *signer.Signer, v api.Vote) (api.Vote, api.Errno) {
	return s.Sign(v.Height, v.Round, v.Type, v.Block)
}

// signs: the vote is answered just so.
func signs(t *testing.T, s *signer.Signer, v api.Vote) {
	t.Helper()
	if got, e := ask(s, v); got != v || e != api.OK {
		t.Errorf("Sign: %+v, %d; want %+v", got, e, v)
	}
}

// refuses: it is not, and what can be told of the signer and its tape is as it was.
func refuses(t *testing.T, s *signer.Signer, x *tape.Tape, v api.Vote, want api.Errno) {
	t.Helper()
	votes, calls, safe, b := s.Votes(), x.Calls(), x.Safe(), x.Read()
	if got, e := ask(s, v); got != (api.Vote{}) || e != want {
		t.Errorf("Sign of %+v: %+v, %d; want %d", v, got, e, want)
	}
	if !slices.Equal(s.Votes(), votes) || x.Calls() != calls || x.Safe() != safe || !bytes.Equal(x.Read(), b) {
		t.Errorf("Sign of %+v, refused, has changed something", v)
	}
}

// has: the signer has just these votes.
func has(t *testing.T, s *signer.Signer, want ...api.Vote) {
	t.Helper()
	if got := s.Votes(); !slices.Equal(got, want) {
		t.Errorf("Votes: %d of them, %+v; want %d, %+v", len(got), got, len(want), want)
	}
}

// holds: the tape has just these records, all of them safe.
func holds(t *testing.T, x *tape.Tape, want ...[]byte) {
	t.Helper()
	records, n := wal.Scan(x.Read())
	if !slices.EqualFunc(records, want, bytes.Equal) || n != len(x.Read()) || x.Safe() != n {
		t.Errorf("the tape: %d records, %d of %d bytes, %d safe; want %d records", len(records), n, len(x.Read()), x.Safe(), len(want))
	}
}

func TestOpenEmpty(t *testing.T) { // P13.1 (I1)
	for _, secret := range []uint64{1, 2, 5, 1 << 40, order - 2, order - 1} {
		for _, chain := range []string{"a", "z", "abc", "abcdefghijklmnop"} {
			x := tape.New()
			s := openAs(t, x, secret, chain)
			if s.Key() != keyOf(t, secret) {
				t.Errorf("Key of %d: %d", secret, s.Key())
			}
			has(t, s)
			holds(t, x)
			v := api.Vote{Chain: chain, Height: 1, Type: api.Prevote, Block: hash(1)}
			signs(t, s, signedBy(t, secret, v))
			has(t, s, signedBy(t, secret, v))
		}
	}
}

// TestOpenWrong: each error, ahead of those that I1 names behind it, and a tape that stays as it was.
func TestOpenWrong(t *testing.T) { // P13.1 (I1), rules 1 to 3
	names := []string{"", "A", "a1", "a b", "a/b", "\x00", "\xff", "ä", "`", "{", " a", "abcdefghijklmnopq", strings.Repeat("a", api.MaxText+1)}
	secrets := []uint64{0, order, prime, prime + 1, 1 << 61, 1 << 63, math.MaxUint64}
	x := tape.New()
	x.Append([]byte("none"))
	refused := func(x *tape.Tape, secret uint64, chain string, want api.Errno) {
		t.Helper()
		if s, e := signer.Open(x, secret, chain); s != nil || e != want {
			t.Errorf("Open(%d, %.20q): %v, %d; want %d", secret, chain, s, e, want)
		}
	}
	for _, n := range secrets {
		for _, name := range append(names, chain) {
			refused(x, n, name, api.ErrSecret)
			refused(nil, n, name, api.ErrSecret)
		}
	}
	for _, name := range names {
		refused(x, secret, name, api.ErrForm)
		refused(nil, secret, name, api.ErrForm)
	}
	refused(nil, secret, chain, api.ErrArg)
	if x.Calls() != 1 || x.Safe() != 0 || string(x.Read()) != "none" {
		t.Errorf("the tape: %d calls, %d safe, %q", x.Calls(), x.Safe(), x.Read())
	}
}

func TestSign(t *testing.T) { // P13.1 (I2)
	x := tape.New()
	s := open(t, x)
	l := []api.Vote{
		own(t, 1, 0, api.Prevote, hash(1)),
		own(t, 1, 0, api.Precommit, hash(1)),
		own(t, 1, 1, api.Prevote, api.Hash{}),
		own(t, 1, 7, api.Precommit, api.Hash{31: 1}),
		own(t, 2, 0, api.Prevote, hash(1)),
		own(t, 900, api.MaxRound, api.Precommit, hash(2)),
		own(t, api.MaxHeight, 0, api.Precommit, hash(2)),
		own(t, api.MaxHeight, api.MaxRound, api.Precommit, hash(3)),
	}
	for i, v := range l {
		signs(t, s, v)
		if !tally.Signed(v) || v.Key != s.Key() || v.Chain != chain {
			t.Errorf("not well signed: %+v", v)
		}
		has(t, s, l[:i+1]...)
		holds(t, x, recordsOf(t, l[:i+1]...)...)
		has(t, open(t, x.Cut(x.Calls(), 0)), l[:i+1]...)
	}
	has(t, open(t, x), l...)
}

// TestAgain: the last vote is answered as often as it is asked for, and stands once.
func TestAgain(t *testing.T) { // P13.1 (I2)
	x := tape.New()
	s := open(t, x)
	first, last := own(t, 3, 2, api.Prevote, hash(1)), own(t, 3, 2, api.Precommit, api.Hash{})
	for _, v := range []api.Vote{first, last} {
		for range 3 {
			signs(t, s, v)
		}
	}
	has(t, s, first, last)
	holds(t, x, recordsOf(t, first, last)...)
	calls := x.Calls()
	signs(t, s, last)
	if x.Calls() != calls {
		t.Errorf("%d calls of the tape for a vote that is there", x.Calls()-calls)
	}
	refuses(t, s, x, first, api.ErrDouble)
	s = open(t, x)
	refuses(t, s, x, first, api.ErrDouble)
	signs(t, s, last)
	has(t, s, first, last)
}

// TestOtherBlock: one bit of the block is enough, and none is another one than any.
func TestOtherBlock(t *testing.T) { // P13.1 (I2), P13.2
	for _, block := range []api.Hash{{}, hash(1), {31: 1}} {
		x := tape.New()
		s := open(t, x)
		v := own(t, 1, 0, api.Precommit, block)
		signs(t, s, v)
		for bit := range 256 {
			other := v
			other.Block[bit/8] ^= 1 << (bit % 8)
			refuses(t, s, x, other, api.ErrDouble)
			refuses(t, open(t, x), x, other, api.ErrDouble)
		}
		signs(t, s, v)
	}
}

// places in order, with neighbours of each kind.
func places(t *testing.T) []api.Vote {
	t.Helper()
	var l []api.Vote
	for _, height := range []int{1, 2, 3, 1 << 32, 1<<32 + 1, api.MaxHeight} {
		for _, round := range []int{0, 1, 2, 255, 256, api.MaxRound} {
			for _, kind := range []api.VoteType{api.Prevote, api.Precommit} {
				l = append(l, own(t, height, round, kind, hash(9)))
			}
		}
	}
	return l
}

// TestOrder: any place behind any other one, by height, then round, then type.
func TestOrder(t *testing.T) { // P13.1 (I2)
	l := places(t)
	for i, first := range l {
		for j, second := range l {
			x := tapeOf(t, bytesOf(t, first))
			s := open(t, x)
			if j < i {
				refuses(t, s, x, second, api.ErrDouble)
			} else {
				signs(t, s, second)
			}
			if j == i {
				second.Block = hash(8)
				refuses(t, s, x, second, api.ErrDouble)
			}
			if n := len(s.Votes()); (n == 2) != (j > i) {
				t.Errorf("%+v behind %+v: %d votes", second, first, n)
			}
		}
	}
}

// wrong votes have one field that may not be so.
func wrong() []api.Vote {
	var l []api.Vote
	for _, n := range []int{0, -1, math.MinInt, api.MaxHeight + 1, 1 << 41, math.MaxInt} {
		l = append(l, vote(n, 0, api.Prevote, hash(1)))
	}
	for _, n := range []int{-1, math.MinInt, api.MaxRound + 1, 1 << 32, math.MaxInt} {
		l = append(l, vote(7, n, api.Precommit, hash(1)))
	}
	for _, n := range []api.VoteType{0, 3, -1, math.MinInt, math.MaxInt, 257, 1<<32 + 1} {
		l = append(l, vote(7, 3, n, hash(1)))
	}
	return l
}

func TestSignWrong(t *testing.T) { // P13.1 (I2), rules 1 to 3
	x := tape.New()
	s := open(t, x)
	for _, v := range append(wrong(), vote(0, 0, 0, api.Hash{})) {
		refuses(t, s, x, v, api.ErrForm)
	}
	holds(t, x)
	last := own(t, 7, 3, api.Precommit, hash(1))
	signs(t, s, last)
	double := []api.Vote{
		vote(0, 0, api.Prevote, hash(1)), vote(-1, 9, api.Prevote, hash(1)), vote(math.MinInt, math.MaxInt, 9, hash(1)), vote(6, api.MaxRound+1, 1, hash(1)),
		vote(7, -1, api.Precommit, hash(1)), vote(7, math.MinInt, math.MaxInt, hash(1)), vote(7, 2, 3, hash(1)),
		vote(7, 3, 0, hash(1)), vote(7, 3, -1, hash(1)), vote(7, 3, math.MinInt, hash(1)),
	}
	behind := []api.Vote{
		vote(api.MaxHeight+1, 0, api.Prevote, hash(1)), vote(math.MaxInt, math.MinInt, -1, hash(1)), vote(8, -1, api.Prevote, hash(1)), vote(8, api.MaxRound+1, api.Prevote, hash(1)),
		vote(7, api.MaxRound+1, api.Prevote, hash(1)), vote(7, math.MaxInt, 0, hash(1)), vote(7, 4, 0, hash(1)), vote(7, 4, 3, hash(1)),
		vote(7, 3, 3, hash(1)), vote(7, 3, math.MaxInt, hash(1)), vote(7, 3, 1<<32+2, hash(1)),
	}
	for _, v := range double {
		refuses(t, s, x, v, api.ErrDouble)
	}
	for _, v := range behind {
		refuses(t, s, x, v, api.ErrForm)
	}
	next := own(t, 7, 4, api.Prevote, hash(1))
	signs(t, s, next)
	has(t, s, last, next)
	holds(t, x, recordsOf(t, last, next)...)
}

// TestFound: votes that were signed elsewhere count, as they are.
func TestFound(t *testing.T) { // P13.1 (I1)
	l := places(t)
	for i := range l {
		if i%3 == 1 {
			l[i] = otherSig(t, uint64(i+1), l[i])
		}
	}
	last := len(l) - 1
	for n := range l {
		x := tapeOf(t, recordsOf(t, l[:n]...)...)
		s := open(t, x)
		has(t, s, l[:n]...)
		holds(t, x, recordsOf(t, l[:n]...)...)
		if n > 0 {
			signs(t, s, l[n-1])
		}
		signs(t, s, own(t, l[last].Height, l[last].Round, l[last].Type, hash(7)))
	}
}

// turned has one bit changed.
func turned(b []byte, at int) []byte {
	b = slices.Clone(b)
	b[at/8] ^= 1 << (at % 8)
	return b
}

// foreign records do not count behind the votes of TestForeign, nor at the beginning, but for those that are later.
func foreign(t *testing.T) map[string][]byte {
	t.Helper()
	next := vote(5, 1, api.Precommit, hash(3))
	right := bytesOf(t, signedBy(t, secret, next))
	elsewhere, unsigned, badly, otherKey, strange := next, next, signedBy(t, secret, next), signedBy(t, 6, next), next
	elsewhere.Chain = "aa"
	unsigned.Key = keyOf(t, secret)
	badly.Sig.S ^= 1
	otherKey.Key = keyOf(t, secret)
	strange.Key, strange.Sig = 0, api.Sig{}
	of := signedBy(t, secret, vote(5, 1, api.Precommit, hash(4)))
	of.Block = hash(3)
	header, _ := forms.EncodeHeader(api.Header{Chain: chain, Height: 5})
	return map[string][]byte{
		"another chain's":             bytesOf(t, signedBy(t, secret, elsewhere)),
		"another key's":               bytesOf(t, signedBy(t, 6, next)),
		"not signed":                  bytesOf(t, unsigned),
		"of nobody":                   bytesOf(t, strange),
		"badly signed":                bytesOf(t, badly),
		"signed by somebody else":     bytesOf(t, otherKey),
		"signed for another block":    bytesOf(t, of),
		"a header":                    header,
		"one byte":                    {1},
		"any bytes":                   []byte("any bytes"),
		"a byte too many":             append(slices.Clone(right), 0),
		"a byte too few":              right[:len(right)-1],
		"another number":              turned(right, 7*8),
		"another height, same bytes":  turned(right, (8+2+1+7)*8+1),
		"a height that may not be":    turned(right, (8+2+1)*8+7),
		"a round that may not be":     turned(right, (8+2+1+8)*8+7),
		"a type that may not be":      turned(right, (8+2+1+16+7)*8),
		"a chain that may not be":     turned(right, (8+2)*8+5),
		"two votes":                   slices.Concat(right, right),
		"a frame of a vote":           tapeOf(t, right).Read(),
		"the longest record":          make([]byte, api.MaxText),
		"the right one, turned about": func() []byte { b := slices.Clone(right); slices.Reverse(b); return b }(),
	}
}

// stale votes are right ones, but not behind the votes of TestForeign.
func stale(t *testing.T) map[string]api.Vote {
	t.Helper()
	return map[string]api.Vote{
		"the last one again":             own(t, 5, 1, api.Prevote, hash(2)),
		"the last one, otherwise signed": otherSig(t, 77, vote(5, 1, api.Prevote, hash(2))),
		"the last place, another block":  own(t, 5, 1, api.Prevote, hash(3)),
		"the last place, no block":       own(t, 5, 1, api.Prevote, api.Hash{}),
		"the first one again":            own(t, 4, 9, api.Precommit, hash(1)),
		"a round ahead":                  own(t, 5, 0, api.Precommit, hash(3)),
		"a height ahead":                 own(t, 4, api.MaxRound, api.Precommit, hash(3)),
		"the very first place":           own(t, 1, 0, api.Prevote, hash(3)),
	}
}

// TestForeign: a record that does not count, and all behind it, count for nothing and stay; nothing is signed any more.
func TestForeign(t *testing.T) { // P13.1 (I1, I2), P13.2
	l := []api.Vote{own(t, 4, 9, api.Precommit, hash(1)), own(t, 5, 1, api.Prevote, hash(2))}
	later := own(t, 6, 0, api.Prevote, hash(3))
	records := foreign(t)
	for name, v := range stale(t) {
		records[name] = bytesOf(t, v)
	}
	for name, record := range records {
		for _, behind := range [][][]byte{nil, {bytesOf(t, later)}, {record}, {[]byte("x"), bytesOf(t, later)}} {
			t.Run(name, func(t *testing.T) {
				all := slices.Concat(recordsOf(t, l...), [][]byte{record}, behind)
				x := tapeOf(t, all...)
				s := open(t, x)
				has(t, s, l...)
				signs(t, s, l[1])
				for _, v := range append(wrong(), later, vote(5, 1, api.Precommit, hash(3)), vote(5, 1, api.Prevote, hash(3)), l[0], vote(api.MaxHeight, 0, 1, hash(3)), vote(api.MaxHeight+1, 0, 1, hash(3))) {
					refuses(t, s, x, v, api.ErrDouble)
				}
				has(t, s, l...)
				holds(t, x, all...)
				has(t, open(t, x), l...)
			})
		}
	}
	for name, record := range foreign(t) {
		x := tapeOf(t, append([][]byte{record}, recordsOf(t, l...)...)...)
		s := open(t, x)
		has(t, s)
		for _, v := range append(wrong(), l[0], l[1], later) {
			refuses(t, s, x, v, api.ErrDouble)
		}
		if t.Failed() {
			t.Fatalf("at the beginning: %s", name)
		}
	}
}

// TestOtherSigners: a tape of one is none of another one's, by key or by chain.
func TestOtherSigners(t *testing.T) { // P13.1 (I1), P13.2
	v := own(t, 1, 0, api.Prevote, hash(1))
	x := tapeOf(t, bytesOf(t, v))
	for _, s := range []*signer.Signer{openAs(t, x, secret+1, chain), openAs(t, x, secret, "b"), openAs(t, x, secret, "aa"), openAs(t, x, order-1, "z")} {
		has(t, s)
		refuses(t, s, x, vote(1, 0, api.Prevote, hash(1)), api.ErrDouble)
		refuses(t, s, x, vote(2, 0, api.Prevote, hash(1)), api.ErrDouble)
	}
	signs(t, open(t, x), v)
	holds(t, x, bytesOf(t, v))
}

// TestTorn: bytes that are no records are gone, and it goes on behind the votes.
func TestTorn(t *testing.T) { // P13.1 (I1), P13.2
	l := []api.Vote{own(t, 1, 0, api.Prevote, hash(1)), own(t, 1, 0, api.Precommit, hash(1)), own(t, 1, 1, api.Prevote, hash(2))}
	whole := tapeOf(t, recordsOf(t, l[:2]...)...).Read()
	for n := range len(whole) + 1 {
		x := tape.New()
		x.Append(whole[:n])
		votes := l[:n*2/len(whole)]
		s := open(t, x)
		has(t, s, votes...)
		holds(t, x, recordsOf(t, votes...)...)
		signs(t, s, l[2])
		has(t, open(t, x.Cut(x.Calls(), 0)), append(slices.Clone(votes), l[2])...)
	}
}

// TestFull: a tape without room for one more vote.
func TestFull(t *testing.T) { // P13.1 (I2), rule 3
	x := tape.New()
	s := open(t, x)
	n := api.MaxTape / (6 + len(bytesOf(t, own(t, 1, 0, api.Prevote, hash(1)))))
	for i := range n {
		if v, e := s.Sign(i+1, 0, api.Prevote, hash(1)); e != api.OK || v.Height != i+1 {
			t.Fatalf("vote %d of %d: %+v, %d", i, n, v, e)
		}
	}
	for _, s := range []*signer.Signer{s, open(t, x)} {
		refuses(t, s, x, vote(n+1, 0, api.Prevote, hash(1)), api.ErrTapeFull)
		refuses(t, s, x, vote(n, 0, api.Precommit, hash(1)), api.ErrTapeFull)
		refuses(t, s, x, vote(n+1, 0, 3, hash(1)), api.ErrForm)
		refuses(t, s, x, vote(n, 0, api.Prevote, hash(2)), api.ErrDouble)
		refuses(t, s, x, vote(1, 0, api.Prevote, hash(1)), api.ErrDouble)
		signs(t, s, own(t, n, 0, api.Prevote, hash(1)))
		if len(s.Votes()) != n {
			t.Errorf("%d votes of %d", len(s.Votes()), n)
		}
	}
	if calls := x.Calls(); open(t, x.Cut(calls, 0)).Votes()[n-1] != own(t, n, 0, api.Prevote, hash(1)) {
		t.Error("the last vote is not safe")
	}
}

func TestNil(t *testing.T) { // P1, rule 8
	var s *signer.Signer
	for _, v := range append(wrong(), vote(1, 0, api.Prevote, hash(1))) {
		if got, e := ask(s, v); got != (api.Vote{}) || e != api.ErrArg {
			t.Errorf("Sign: %+v, %d", got, e)
		}
	}
	if s.Key() != 0 || len(s.Votes()) != 0 {
		t.Errorf("%d, %v", s.Key(), s.Votes())
	}
}

// TestNoSigner: one that no call gave does not panic either, and signs nothing.
func TestNoSigner(t *testing.T) { // P1
	s := &signer.Signer{}
	for _, v := range append(wrong(), vote(1, 0, api.Prevote, hash(1))) {
		if got, e := ask(s, v); got != (api.Vote{}) || e == api.OK {
			t.Errorf("Sign: %+v, %d", got, e)
		}
	}
	if s.Key() != 0 || len(s.Votes()) != 0 {
		t.Errorf("%d, %v", s.Key(), s.Votes())
	}
}

// TestAnswersAreNew: what is done to an answer is seen by nobody, and answers stay.
func TestAnswersAreNew(t *testing.T) { // rule 4
	s := open(t, tape.New())
	var l []api.Vote
	var answers [][]api.Vote
	for i := range 40 {
		v := own(t, i+1, 0, api.Prevote, hash(byte(i)))
		signs(t, s, v)
		l = append(l, v)
		answers = append(answers, s.Votes())
		spoilt := s.Votes()
		_ = append(spoilt, api.Vote{Height: 77})
		clear(spoilt[:cap(spoilt)])
		has(t, s, l...)
		signs(t, s, v)
	}
	for i, votes := range answers {
		if !slices.Equal(votes, l[:i+1]) {
			t.Errorf("answer %d: %+v", i, votes)
		}
	}
}

// TestTwoOpen: two signers that are open on one tape are as one.
func TestTwoOpen(t *testing.T) { // P13.2
	x := tape.New()
	one, two := open(t, x), open(t, x)
	first, second := own(t, 1, 0, api.Prevote, hash(1)), own(t, 1, 0, api.Precommit, hash(2))
	signs(t, one, first)
	refuses(t, two, x, vote(1, 0, api.Prevote, hash(2)), api.ErrDouble)
	signs(t, two, first)
	signs(t, two, second)
	refuses(t, one, x, vote(1, 0, api.Precommit, hash(1)), api.ErrDouble)
	refuses(t, one, x, first, api.ErrDouble)
	signs(t, one, second)
	has(t, one, first, second)
	has(t, two, first, second)
	holds(t, x, recordsOf(t, first, second)...)
	stranger := openAs(t, x.Cut(0, 0), secret+1, chain)
	has(t, stranger)
	signs(t, stranger, signedBy(t, secret+1, first))
}

// TestRecordPutBehind: what somebody else puts on the tape while the signer is open does not hide what it signs next.
func TestRecordPutBehind(t *testing.T) { // P13.2
	x := tape.New()
	s := open(t, x)
	v := own(t, 1, 0, api.Prevote, hash(1))
	signs(t, s, v)
	l, _ := wal.Open(x)
	if e := max(l.Append([]byte("other")), l.Sync()); e != api.OK {
		t.Fatalf("a record: %d", e)
	}
	refuses(t, s, x, vote(2, 0, api.Prevote, hash(1)), api.ErrDouble)
	signs(t, s, v)
	has(t, s, v)
}

// anyVote is one of few, so that places and blocks come again.
func anyVote(r *rand.Rand, height int) api.Vote {
	v := vote(max(1, height+r.IntN(4)-1), r.IntN(3), api.VoteType(1+r.IntN(2)), hash(byte(r.IntN(3))))
	if r.IntN(12) == 0 {
		return wrong()[r.IntN(len(wrong()))]
	}
	return v
}

// answer is a vote, and how many calls its tape had behind it.
type answer struct {
	vote  api.Vote
	calls int
}

// never tells two answered votes that are unlike and of one place.
func never(t *testing.T, answers []answer) {
	t.Helper()
	seen := map[[3]int]api.Vote{}
	for _, a := range answers {
		at := [3]int{a.vote.Height, a.vote.Round, int(a.vote.Type)}
		if first, is := seen[at]; is && first != a.vote {
			t.Fatalf("two votes: %+v, %+v", first, a.vote)
		}
		seen[at] = a.vote
	}
}

// asked are the answers to some asks at a tape, by signers that are opened again and again, or open at once.
func asked(t *testing.T, r *rand.Rand, x *tape.Tape, answers []answer) []answer {
	t.Helper()
	signers := []*signer.Signer{open(t, x), open(t, x)}
	for range r.IntN(20) {
		if r.IntN(8) == 0 {
			signers[r.IntN(2)] = open(t, x)
		}
		height := 1
		if len(answers) > 0 {
			height = answers[len(answers)-1].vote.Height
		}
		s := signers[0]
		if r.IntN(4) == 0 {
			s = signers[1]
		}
		if v, e := ask(s, anyVote(r, height)); e == api.OK {
			answers = append(answers, answer{v, x.Calls()})
		}
	}
	return answers
}

// TestPower: power goes behind any call, again and again, and signers go on from what it left.
func TestPower(t *testing.T) { // P13.2
	r := random()
	total := 0
	for range 40 {
		x := tape.New()
		var answers []answer
		for range 12 {
			answers = asked(t, r, x, answers)
			never(t, answers)
			at := x.Calls()
			if r.IntN(3) == 0 {
				at = r.IntN(at + 1)
			}
			answers = slices.DeleteFunc(answers, func(a answer) bool { return a.calls > at })
			x = x.Cut(at, int(r.Uint32()))
			keptAll(t, x, answers)
			for i := range answers {
				answers[i].calls = 0
			}
		}
		total += len(answers)
	}
	if total < 1000 {
		t.Errorf("only %d answers", total)
	}
}

// keptAll: a signer that is opened now has all votes that were answered, and answers none other for their places.
func keptAll(t *testing.T, x *tape.Tape, answers []answer) {
	t.Helper()
	s := open(t, x)
	votes := s.Votes()
	for _, a := range answers {
		if !slices.Contains(votes, a.vote) {
			t.Fatalf("lost: %+v", a.vote)
		}
		other := a.vote
		other.Block[5]++
		refuses(t, s, x, other, api.ErrDouble)
	}
}

// TestPowerEverywhere: behind each call, however many bytes are torn, all that was answered by then is there, and at most one vote more, whole.
func TestPowerEverywhere(t *testing.T) { // P13.2
	x := tape.New()
	s := open(t, x)
	var answers []answer
	for i := range 6 {
		v, e := s.Sign(1+i/4, i%4/2, api.VoteType(1+i%2), hash(byte(i)))
		if e != api.OK {
			t.Fatalf("vote %d: %d", i, e)
		}
		answers = append(answers, answer{v, x.Calls()})
	}
	all := s.Votes()
	for at := range x.Calls() + 1 {
		n := 0
		for n < len(answers) && answers[n].calls <= at {
			n++
		}
		for torn := range 100 {
			y := x.Cut(at, torn)
			s := open(t, y)
			votes := s.Votes()
			if len(votes) < n || len(votes) > n+1 || !slices.Equal(votes, all[:len(votes)]) {
				t.Fatalf("behind call %d, %d torn: %d votes, %d answered", at, torn, len(votes), n)
			}
			for _, v := range votes {
				v.Block = hash(99)
				refuses(t, s, y, v, api.ErrDouble)
			}
			if next := len(votes); next < len(all) {
				signs(t, s, all[next])
			}
		}
	}
}

// TestOpenIsSafe: votes that are found on a tape, but not safe there, are made safe ahead of being answered.
func TestOpenIsSafe(t *testing.T) { // P13.2
	v := own(t, 1, 0, api.Prevote, hash(1))
	for _, behind := range []string{"", "torn"} {
		x := tape.New()
		x.Append(append(tapeOf(t, bytesOf(t, v)).Read(), behind...))
		signs(t, open(t, x), v)
		y := x.Cut(x.Calls(), 0)
		refuses(t, open(t, y), y, vote(1, 0, api.Prevote, hash(2)), api.ErrDouble)
	}
}

// plain is the document's signer, told plainly: it has records, and goes through them whenever it is asked.
type plain struct {
	records [][]byte
	key     uint64
}

func later(a, b api.Vote) bool {
	if a.Height != b.Height {
		return a.Height > b.Height
	}
	if a.Round != b.Round {
		return a.Round > b.Round
	}
	return a.Type > b.Type
}

func (p *plain) votes() []api.Vote {
	var l []api.Vote
	for _, record := range p.records {
		v, e := forms.DecodeVote(record)
		if e != api.OK || v.Chain != chain || v.Key != p.key || !tally.Signed(v) || len(l) > 0 && !later(v, l[len(l)-1]) {
			break
		}
		l = append(l, v)
	}
	return l
}

func (p *plain) sign(v api.Vote) (api.Vote, api.Errno) {
	l := p.votes()
	if len(l) > 0 && !later(v, l[len(l)-1]) {
		last := l[len(l)-1]
		if later(last, v) || last.Block != v.Block {
			return api.Vote{}, api.ErrDouble
		}
		return last, api.OK
	}
	if len(l) < len(p.records) {
		return api.Vote{}, api.ErrDouble
	}
	v, e := tally.Sign(secret, v)
	if e == api.OK {
		record, _ := forms.EncodeVote(v)
		p.records = append(p.records, record)
	}
	return v, e
}

// randomRecords are votes of rising places, most of them right.
func randomRecords(t *testing.T, r *rand.Rand) [][]byte {
	t.Helper()
	var records [][]byte
	for i := range r.IntN(7) {
		v := own(t, 1+i/2, r.IntN(2)+i%2, api.VoteType(1+r.IntN(2)), hash(byte(r.IntN(3))))
		record := bytesOf(t, v)
		switch r.IntN(20) {
		case 0:
			record = turned(record, r.IntN(len(record)*8))
		case 1:
			record = []byte("any bytes")
		case 2:
			record = bytesOf(t, signedBy(t, secret+1, v))
		case 3:
			record = bytesOf(t, otherSig(t, 1+r.Uint64N(99), v))
		}
		records = append(records, record)
	}
	return records
}

func TestAgainstPlain(t *testing.T) { // P13.1, P1
	r := random()
	answered, refused := 0, 0
	for range 400 {
		p := &plain{randomRecords(t, r), keyOf(t, secret)}
		x := tapeOf(t, p.records...)
		s := open(t, x)
		for range 8 {
			has(t, s, p.votes()...)
			v := anyVote(r, 1+r.IntN(4))
			want, wantE := p.sign(v)
			got, e := ask(s, v)
			if got != want || e != wantE {
				t.Fatalf("Sign of %+v: %+v, %d; want %+v, %d", v, got, e, want, wantE)
			}
			if e == api.OK {
				answered++
			} else {
				refused++
			}
			holds(t, x, p.records...)
			if r.IntN(4) == 0 {
				s = open(t, x)
			}
		}
	}
	if answered < 500 || refused < 500 {
		t.Errorf("%d answered, %d refused", answered, refused)
	}
}

// TestSameCalls: the same calls are answered alike, whatever other signers do on tapes of their own.
func TestSameCalls(t *testing.T) { // P2
	r := random()
	x, y := tape.New(), tape.New()
	s, other := open(t, x), open(t, y)
	for i := range 200 {
		v := anyVote(r, 1+i/4)
		got, e := ask(s, v)
		ask(open(t, x.Cut(i, i)), vote(api.MaxHeight, 0, api.Prevote, hash(1)))
		if again, e2 := ask(other, v); again != got || e2 != e {
			t.Fatalf("%+v, %d; the other one %+v, %d", got, e, again, e2)
		}
		if !bytes.Equal(x.Read(), y.Read()) || x.Safe() != y.Safe() || x.Calls() != y.Calls() {
			t.Fatalf("unlike tapes behind %d", i)
		}
	}
}
