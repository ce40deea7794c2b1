package tally_test

import (
	"encoding/binary"
	"math"
	"math/big"
	"math/rand/v2"
	"slices"
	"testing"

	"nuncio/api"
	"nuncio/blake"
	"nuncio/forms"
	"nuncio/schnorr"
	"nuncio/tally"
)

const (
	prime = 1<<61 - 1
	order = prime - 1
)

func random() *rand.Rand { return rand.New(rand.NewPCG(9, 10)) }

// member is a validator and its secret.
type member struct {
	api.Validator
	secret uint64
}

// members have the secrets 1, 2 and so on and these powers; they stand by their keys.
func members(t *testing.T, powers ...int) []member {
	t.Helper()
	var l []member
	for i, p := range powers {
		secret := uint64(i + 1)
		key, e := schnorr.Key(secret)
		if e != api.OK {
			t.Fatalf("no key of %d: %v", secret, e)
		}
		l = append(l, member{api.Validator{Key: key, Power: p}, secret})
	}
	slices.SortFunc(l, func(a, b member) int {
		if a.Key < b.Key {
			return -1
		}
		return 1
	})
	return l
}

func setOf(l []member) []api.Validator {
	var set []api.Validator
	for _, m := range l {
		set = append(set, m.Validator)
	}
	return set
}

// withPower is the first member that has so much.
func withPower(t *testing.T, l []member, power int) member {
	t.Helper()
	i := slices.IndexFunc(l, func(m member) bool { return m.Power == power })
	if i < 0 {
		t.Fatalf("nobody has %d", power)
	}
	return l[i]
}

func place() api.Vote { return api.Vote{Chain: "a", Height: 3, Round: 2, Type: api.Precommit} }

func hash(n byte) api.Hash { return api.Hash{n, 31: n} }

func mustSign(t *testing.T, secret uint64, v api.Vote) api.Vote {
	t.Helper()
	s, e := tally.Sign(secret, v)
	if e != api.OK {
		t.Fatalf("Sign of %+v: %v", v, e)
	}
	return s
}

// voteOf is a member's vote at the place for a block.
func voteOf(t *testing.T, m member, block api.Hash) api.Vote {
	t.Helper()
	v := place()
	v.Block = block
	return mustSign(t, m.secret, v)
}

func mustNew(t *testing.T, set []api.Validator, at api.Vote) *tally.Tally {
	t.Helper()
	x, e := tally.New(set, at.Chain, at.Height, at.Round, at.Type)
	if e != api.OK || x == nil {
		t.Fatalf("New of %d validators: %v", len(set), e)
	}
	return x
}

func mustAdd(t *testing.T, x *tally.Tally, l ...api.Vote) {
	t.Helper()
	for _, v := range l {
		if e := x.Add(v); e != api.OK {
			t.Fatalf("Add of %+v: %v", v, e)
		}
	}
}

func refused(t *testing.T, x *tally.Tally, v api.Vote, want api.Errno) {
	t.Helper()
	if e := x.Add(v); e != want {
		t.Errorf("Add of %+v: %v, not %v", v, e, want)
	}
}

// otherSig signs a vote with another number K than Sign takes, by the document's words of layer 4 and big numbers.
func otherSig(t *testing.T, secret, k uint64, v api.Vote) api.Vote {
	t.Helper()
	key, _ := schnorr.Key(secret)
	v.Key, v.Sig = key, api.Sig{}
	message, e := forms.SignBytes(v)
	if e != api.OK {
		t.Fatalf("SignBytes: %v", e)
	}
	g, p, q := big.NewInt(37), big.NewInt(prime), big.NewInt(order)
	r := new(big.Int).Exp(g, new(big.Int).SetUint64(k), p).Uint64()
	two := binary.BigEndian.AppendUint64(binary.BigEndian.AppendUint64(nil, r), key)
	digest := blake.Join(2, two, message)
	n := new(big.Int).SetBytes(digest[:8])
	s := n.Mul(n.Mod(n, q), new(big.Int).SetUint64(secret))
	s.Mod(s.Add(s, new(big.Int).SetUint64(k)), q)
	v.Sig = api.Sig{R: r, S: s.Uint64()}
	return v
}

// wrongPlaces are votes that are not right, each for one field.
func wrongPlaces() []api.Vote {
	var l []api.Vote
	wrong := func(change func(*api.Vote)) {
		v := place()
		change(&v)
		l = append(l, v)
	}
	for _, s := range []string{"", "A", "a1", "a b", "a/b", "\x00", "\xff", "`", "{", "abcdefghijklmnopq"} {
		wrong(func(v *api.Vote) { v.Chain = s })
	}
	for _, n := range []int{0, -1, math.MinInt, api.MaxHeight + 1, math.MaxInt, 1<<40 + 3} {
		wrong(func(v *api.Vote) { v.Height = n })
	}
	for _, n := range []int{-1, math.MinInt, api.MaxRound + 1, math.MaxInt} {
		wrong(func(v *api.Vote) { v.Round = n })
	}
	for _, n := range []api.VoteType{0, 3, -1, math.MinInt, math.MaxInt, 1<<32 + 1} {
		wrong(func(v *api.Vote) { v.Type = n })
	}
	return append(l, api.Vote{})
}

// rightPlaces are at the edges.
func rightPlaces() []api.Vote {
	return []api.Vote{
		place(),
		{Chain: "a", Height: 1, Type: api.Prevote},
		{Chain: "z", Height: api.MaxHeight, Round: api.MaxRound, Type: api.Precommit},
		{Chain: "abcdefghijklmnop", Height: 1, Round: api.MaxRound, Type: api.Prevote},
		{Chain: "b", Height: api.MaxHeight, Type: api.Precommit},
	}
}

func TestSign(t *testing.T) { // P9.1 (A1)
	for _, v := range rightPlaces() {
		for _, block := range []api.Hash{{}, hash(7), {31: 1}} {
			for _, secret := range []uint64{1, 2, 5, 1 << 40, order - 2, order - 1} {
				v.Block = block
				want := v
				want.Key, _ = schnorr.Key(secret)
				message, _ := forms.SignBytes(v)
				want.Sig, _ = schnorr.Sign(secret, message)
				if got, e := tally.Sign(secret, v); got != want || e != api.OK {
					t.Errorf("Sign(%d, %+v): %+v, %v; not %+v", secret, v, got, e, want)
				}
				v.Key, v.Sig = 12345, api.Sig{R: 6, S: 7}
				if got, e := tally.Sign(secret, v); got != want || e != api.OK {
					t.Errorf("Sign(%d) of a vote that has a key: %+v, %v; not %+v", secret, got, e, want)
				}
				v.Key, v.Sig = 0, api.Sig{}
				if !tally.Signed(want) {
					t.Errorf("not well signed: %+v", want)
				}
			}
		}
	}
}

func TestSignWrong(t *testing.T) { // P9.1 (A1), rules 1, 2
	none := []uint64{0, order, prime, prime + 1, 1 << 61, 1 << 63, math.MaxUint64}
	for _, v := range wrongPlaces() {
		for _, secret := range append(none, 1, 5) {
			if got, e := tally.Sign(secret, v); got != (api.Vote{}) || e != api.ErrForm {
				t.Errorf("Sign(%d) of %+v: %+v, %v", secret, v, got, e)
			}
		}
	}
	for _, secret := range none {
		if got, e := tally.Sign(secret, place()); got != (api.Vote{}) || e != api.ErrSecret {
			t.Errorf("Sign(%d): %+v, %v", secret, got, e)
		}
	}
}

func TestSigned(t *testing.T) { // P9.1 (A1)
	v := place()
	v.Block = hash(4)
	v = mustSign(t, 5, v)
	if !tally.Signed(v) || !tally.Signed(otherSig(t, 5, 99, v)) || otherSig(t, 5, 99, v) == v {
		t.Fatal("well signed in two ways")
	}
	other, _ := schnorr.Key(6)
	changes := []func(*api.Vote){
		func(v *api.Vote) { v.Chain = "b" }, func(v *api.Vote) { v.Chain = "aa" }, func(v *api.Vote) { v.Chain = "" },
		func(v *api.Vote) { v.Height++ }, func(v *api.Vote) { v.Height = 0 }, func(v *api.Vote) { v.Height = -v.Height },
		func(v *api.Vote) { v.Round-- }, func(v *api.Vote) { v.Round = -1 },
		func(v *api.Vote) { v.Type = api.Prevote }, func(v *api.Vote) { v.Type = 0 }, func(v *api.Vote) { v.Type = 3 },
		func(v *api.Vote) { v.Block = api.Hash{} }, func(v *api.Vote) { v.Block[31] ^= 1 }, func(v *api.Vote) { v.Block[0] ^= 128 },
		func(v *api.Vote) { v.Key = other }, func(v *api.Vote) { v.Key = 0 }, func(v *api.Vote) { v.Key += prime },
		func(v *api.Vote) { v.Sig.R ^= 1 }, func(v *api.Vote) { v.Sig.R += prime }, func(v *api.Vote) { v.Sig.S ^= 1 }, func(v *api.Vote) { v.Sig.S += order },
		func(v *api.Vote) { v.Sig = api.Sig{} }, func(v *api.Vote) { v.Sig.R, v.Sig.S = v.Sig.S, v.Sig.R },
	}
	for i, change := range changes {
		w := v
		change(&w)
		if tally.Signed(w) {
			t.Errorf("change %d: well signed: %+v", i, w)
		}
	}
	for _, w := range append(wrongPlaces(), place()) {
		if tally.Signed(w) {
			t.Errorf("well signed, without a signature: %+v", w)
		}
		w.Key, w.Sig = v.Key, v.Sig
		if tally.Signed(w) {
			t.Errorf("well signed, by another vote's signature: %+v", w)
		}
	}
}

// TestSignedWhole: a signature of all the vote's bytes, its key among them, is none of its SignBytes; nor is one of the vote's bytes when it is not right.
func TestSignedWhole(t *testing.T) { // P9.1 (A1)
	v := place()
	v.Key, _ = schnorr.Key(5)
	b, _ := forms.EncodeVote(v)
	v.Sig, _ = schnorr.Sign(5, b)
	if tally.Signed(v) {
		t.Error("well signed, by a signature of other bytes")
	}
	for _, message := range [][]byte{nil, {}, {0}} {
		w := api.Vote{Chain: "A", Height: 1, Type: api.Prevote, Key: v.Key}
		w.Sig, _ = schnorr.Sign(5, message)
		if tally.Signed(w) {
			t.Errorf("well signed, though it is not right, by a signature of %d bytes", len(message))
		}
	}
}

// plainMore tells whether times the part is more than of times all, by big numbers.
func plainMore(part, total int, times, of int64) bool {
	for _, n := range []int{part, total} {
		if n < 0 || n > api.MaxPower {
			return false
		}
	}
	a := new(big.Int).Mul(big.NewInt(int64(part)), big.NewInt(times))
	return a.Cmp(new(big.Int).Mul(big.NewInt(int64(total)), big.NewInt(of))) > 0
}

func TestTwoOneTold(t *testing.T) { // P9.1 (A1)
	for _, c := range []struct {
		part, total int
		two, one    bool
	}{
		{0, 0, false, false}, {1, 0, true, true}, {0, 1, false, false}, {1, 1, true, true}, {1, 2, false, true}, {2, 2, true, true}, {5, 3, true, true},
		{1, 3, false, false}, {2, 3, false, true}, {3, 3, true, true}, {1, 4, false, false}, {2, 4, false, true}, {3, 4, true, true},
		{2, 5, false, true}, {3, 5, false, true}, {4, 5, true, true}, {2, 6, false, false}, {4, 6, false, true}, {66, 100, false, true}, {67, 100, true, true},
		{33, 100, false, false}, {34, 100, false, true}, {-1, 0, false, false}, {0, -1, false, false}, {1, -1, false, false}, {-1, -3, false, false}, {-1, -2, false, false},
		{api.MaxPower, api.MaxPower, true, true}, {api.MaxPower, 0, true, true}, {0, api.MaxPower, false, false},
		{api.MaxPower + 1, api.MaxPower, false, false}, {api.MaxPower + 1, 1, false, false}, {api.MaxPower, api.MaxPower + 1, false, false}, {3, math.MaxInt, false, false},
		{750599937895082, api.MaxPower, false, true}, {750599937895083, api.MaxPower, true, true}, {375299968947541, api.MaxPower, false, false}, {375299968947542, api.MaxPower, false, true},
		{math.MaxInt, 1, false, false}, {math.MinInt, 1, false, false}, {math.MaxInt, math.MinInt, false, false}, {1, math.MinInt, false, false}, {1 << 62, 1, false, false},
	} {
		if tally.Two(c.part, c.total) != c.two || tally.One(c.part, c.total) != c.one {
			t.Errorf("%d of %d: Two %v, One %v", c.part, c.total, !c.two, !c.one)
		}
	}
}

func TestTwoOneAgainstBig(t *testing.T) { // P9.1 (A1)
	check := func(part, total int) {
		t.Helper()
		if got := tally.Two(part, total); got != plainMore(part, total, 3, 2) {
			t.Errorf("Two(%d, %d): %v", part, total, got)
		}
		if got := tally.One(part, total); got != plainMore(part, total, 3, 1) {
			t.Errorf("One(%d, %d): %v", part, total, got)
		}
	}
	for part := -3; part < 40; part++ {
		for total := -3; total < 40; total++ {
			check(part, total)
		}
	}
	r := random()
	for range 20000 {
		total := int(r.Uint64() >> r.IntN(64))
		third := total / 3
		for d := -2; d <= 2; d++ {
			check(third+d, total)
			check(2*third+d, total)
			check(total-third+d, total)
		}
		check(int(r.Uint64()>>r.IntN(64)), total)
	}
	for d := -3; d <= 3; d++ {
		for _, part := range []int{0, api.MaxPower / 3, 2 * (api.MaxPower / 3), api.MaxPower, math.MaxInt - 3, math.MinInt + 3} {
			for _, total := range []int{0, api.MaxPower, math.MaxInt - 3, math.MinInt + 3} {
				check(part+d, total)
				check(part, total+d)
			}
		}
	}
}

func wrongSets(t *testing.T) [][]api.Validator {
	good := setOf(members(t, 1, 1, 1))
	many := make([]api.Validator, api.MaxValidators+1)
	for i := range many {
		many[i] = api.Validator{Key: uint64(i), Power: 1}
	}
	fall := slices.Clone(good)
	slices.Reverse(fall)
	weak, strong, wraps := slices.Clone(good), slices.Clone(good), slices.Clone(good)
	weak[1].Power = 0
	strong[1].Power = api.MaxPower - 1
	wraps[0].Power, wraps[1].Power, wraps[2].Power = math.MaxInt, math.MaxInt, 7
	return [][]api.Validator{nil, {}, many, fall, append(slices.Clone(good), good[2]), weak, strong, wraps, {{Key: 1, Power: -1}}, {{Key: 1, Power: api.MaxPower + 1}}}
}

func TestNew(t *testing.T) { // P9.1 (A2), rules 1, 2
	good := setOf(members(t, 1, 2, 3))
	for _, v := range rightPlaces() {
		mustNew(t, good, v)
	}
	mustNew(t, []api.Validator{{Key: 0, Power: api.MaxPower}}, place())
	mustNew(t, setOf(members(t, slices.Repeat([]int{api.MaxPower / 64}, 64)...)), place())
	for _, v := range wrongPlaces() {
		if x, e := tally.New(good, v.Chain, v.Height, v.Round, v.Type); x != nil || e != api.ErrVoteForm {
			t.Errorf("New of %+v: %v, %v", v, x, e)
		}
	}
	for i, set := range wrongSets(t) {
		for _, v := range append(wrongPlaces(), place()) {
			if x, e := tally.New(set, v.Chain, v.Height, v.Round, v.Type); x != nil || e != api.ErrSet {
				t.Errorf("New of set %d that is not right, %+v: %v, %v", i, v, x, e)
			}
		}
	}
}

// state is all that a tally tells.
type state struct {
	powers   [8]int // of some blocks, the empty hash first
	all      int
	winner   api.Hash
	won, any bool
	votes    []api.Vote
	twice    []api.Vote
	commit   api.Commit
	e        api.Errno
}

func stateOf(x *tally.Tally) state {
	var s state
	for n := range s.powers {
		s.powers[n] = x.Power(hash(byte(n)))
	}
	s.all = x.All()
	s.winner, s.won = x.Winner()
	s.any = x.Any()
	s.votes, s.twice = x.Votes(), x.Twice()
	s.commit, s.e = x.Commit()
	return s
}

func sameCommit(a, b api.Commit) bool {
	return a.Height == b.Height && a.Round == b.Round && a.Block == b.Block && slices.Equal(a.Seals, b.Seals)
}

func (s state) same(o state) bool {
	return s.powers == o.powers && s.all == o.all && s.winner == o.winner && s.won == o.won && s.any == o.any && slices.Equal(s.votes, o.votes) &&
		slices.Equal(s.twice, o.twice) && sameCommit(s.commit, o.commit) && s.e == o.e
}

// plain keeps all votes that came in, and goes through them whenever it is asked.
type plain struct {
	set   []api.Validator
	place api.Vote
	came  []api.Vote // well signed, of the set and the place
}

func (p *plain) power(key uint64) int {
	for _, v := range p.set {
		if v.Key == key {
			return v.Power
		}
	}
	return 0
}

func (p *plain) first(key uint64) (api.Vote, bool) {
	for _, v := range p.came {
		if v.Key == key {
			return v, true
		}
	}
	return api.Vote{}, false
}

func (p *plain) add(v api.Vote) api.Errno {
	if v.Chain != p.place.Chain || v.Height != p.place.Height || v.Round != p.place.Round || v.Type != p.place.Type {
		return api.ErrVoteForm
	}
	if p.power(v.Key) == 0 {
		return api.ErrVoteKey
	}
	message, e := forms.SignBytes(v)
	if e != api.OK || !schnorr.Verify(v.Key, message, v.Sig) {
		return api.ErrVoteSig
	}
	p.came = append(p.came, v)
	if f, _ := p.first(v.Key); f.Block != v.Block {
		return api.ErrVoteTwice
	}
	return api.OK
}

func (p *plain) votes() []api.Vote {
	var l []api.Vote
	for _, m := range p.set {
		if v, ok := p.first(m.Key); ok {
			l = append(l, v)
		}
	}
	return l
}

func (p *plain) of(which func(api.Vote) bool) int {
	n := 0
	for _, v := range p.votes() {
		if which(v) {
			n += p.power(v.Key)
		}
	}
	return n
}

func (p *plain) more(part int) bool {
	total := 0
	for _, v := range p.set {
		total += v.Power
	}
	return plainMore(part, total, 3, 2)
}

func (p *plain) state() state {
	s := state{e: api.ErrCommit, votes: p.votes(), all: p.of(func(api.Vote) bool { return true })}
	s.any = p.more(s.all)
	for n := range s.powers {
		block := hash(byte(n))
		s.powers[n] = p.of(func(v api.Vote) bool { return v.Block == block })
		if p.more(s.powers[n]) {
			s.winner, s.won = block, true
		}
	}
	for _, v := range p.came {
		if f, _ := p.first(v.Key); f.Block != v.Block {
			s.twice = append(s.twice, f, v)
		}
	}
	if s.won && s.winner != (api.Hash{}) && p.place.Type == api.Precommit {
		s.e = api.OK
		s.commit = api.Commit{Height: p.place.Height, Round: p.place.Round, Block: s.winner}
		for _, v := range s.votes {
			if v.Block == s.winner {
				s.commit.Seals = append(s.commit.Seals, api.Seal{Key: v.Key, Sig: v.Sig})
			}
		}
	}
	return s
}

// TestAdd is a tally by hand: powers 1, 2, 3 and 4; more than two thirds of 10 are 7.
func TestAdd(t *testing.T) { // P9.1 (A2, A3)
	l := members(t, 1, 2, 3, 4)
	one, two, three, four := withPower(t, l, 1), withPower(t, l, 2), withPower(t, l, 3), withPower(t, l, 4)
	x := mustNew(t, setOf(l), place())
	if s := stateOf(x); !s.same(state{e: api.ErrCommit}) {
		t.Errorf("without votes: %+v", s)
	}
	a, b, none := hash(1), hash(2), api.Hash{}
	mustAdd(t, x, voteOf(t, four, a), voteOf(t, two, none))
	if x.Power(a) != 4 || x.Power(none) != 2 || x.Power(b) != 0 || x.All() != 6 || x.Any() {
		t.Errorf("4 and 2: %+v", stateOf(x))
	}
	mustAdd(t, x, voteOf(t, one, b))
	if h, won := x.Winner(); x.All() != 7 || !x.Any() || won || h != none {
		t.Errorf("7 for whatever: %+v", stateOf(x))
	}
	mustAdd(t, x, voteOf(t, three, a))
	if h, won := x.Winner(); x.Power(a) != 7 || !won || h != a || x.All() != 10 {
		t.Errorf("7 for one: %+v", stateOf(x))
	}
	var want []api.Vote
	for _, m := range l {
		block := map[int]api.Hash{1: b, 2: none, 3: a, 4: a}[m.Power]
		want = append(want, voteOf(t, m, block))
	}
	if got := x.Votes(); !slices.Equal(got, want) {
		t.Errorf("Votes: %+v, not %+v", got, want)
	}
	seals := []api.Seal{{Key: three.Key, Sig: voteOf(t, three, a).Sig}, {Key: four.Key, Sig: voteOf(t, four, a).Sig}}
	if three.Key > four.Key {
		slices.Reverse(seals)
	}
	if c, e := x.Commit(); e != api.OK || !sameCommit(c, api.Commit{Height: 3, Round: 2, Block: a, Seals: seals}) {
		t.Errorf("Commit: %+v, %v", c, e)
	}
	if len(x.Twice()) != 0 {
		t.Errorf("Twice: %+v", x.Twice())
	}
}

// TestAddWrong asks each error, and the first one where several are so; none of them changes anything.
func TestAddWrong(t *testing.T) { // P9.1 (A2), rules 1, 3
	l := members(t, 1, 1, 1)
	for _, votes := range []int{0, 1, 3} {
		x := mustNew(t, setOf(l), place())
		for _, m := range l[:votes] {
			mustAdd(t, x, voteOf(t, m, hash(1)))
		}
		before := stateOf(x)
		wrong := func(v api.Vote, want api.Errno) {
			t.Helper()
			refused(t, x, v, want)
			if !stateOf(x).same(before) {
				t.Errorf("behind %+v: %+v, not %+v", v, stateOf(x), before)
			}
		}
		good, off := voteOf(t, l[0], hash(2)), voteOf(t, l[0], hash(2))
		off.Sig.S ^= 1
		same := voteOf(t, l[0], hash(1))
		same.Sig.R ^= 1
		stranger := place()
		stranger = mustSign(t, 77, stranger)
		badStranger := stranger
		badStranger.Sig.S ^= 1
		for _, change := range []func(*api.Vote){
			func(v *api.Vote) { v.Chain = "b" }, func(v *api.Vote) { v.Chain = "A" }, func(v *api.Vote) { v.Chain = "" },
			func(v *api.Vote) { v.Height = 2 }, func(v *api.Vote) { v.Height = 4 }, func(v *api.Vote) { v.Height = -3 },
			func(v *api.Vote) { v.Round = 1 }, func(v *api.Vote) { v.Round = 3 }, func(v *api.Vote) { v.Round = -2 },
			func(v *api.Vote) { v.Type = api.Prevote }, func(v *api.Vote) { v.Type = 3 }, func(v *api.Vote) { v.Type = 0 },
		} {
			for i, v := range []api.Vote{good, off, same, stranger, badStranger} {
				change(&v)
				wrong(v, api.ErrVoteForm)
				if s, e := tally.Sign(l[0].secret, v); e == api.OK && i == 0 {
					wrong(s, api.ErrVoteForm)
				}
			}
		}
		wrong(api.Vote{}, api.ErrVoteForm)
		wrong(stranger, api.ErrVoteKey)
		wrong(badStranger, api.ErrVoteKey)
		wrong(place(), api.ErrVoteKey)
		wrong(off, api.ErrVoteSig)
		wrong(same, api.ErrVoteSig)
		swapped := voteOf(t, l[1], hash(1))
		swapped.Sig = voteOf(t, l[0], hash(1)).Sig
		wrong(swapped, api.ErrVoteSig)
		swapped.Key = l[2].Key
		wrong(swapped, api.ErrVoteSig)
	}
}

func TestTwice(t *testing.T) { // P9.1 (A2)
	l := members(t, 1, 1, 1, 1)
	x := mustNew(t, setOf(l), place())
	v := func(i int, n byte) api.Vote { return voteOf(t, l[i], hash(n)) }
	mustAdd(t, x, v(3, 1), v(0, 2), v(1, 0))
	var want []api.Vote
	twice := func(first, second api.Vote) {
		t.Helper()
		before := stateOf(x)
		refused(t, x, second, api.ErrVoteTwice)
		want = append(want, first, second)
		if got := x.Twice(); !slices.Equal(got, want) {
			t.Errorf("Twice: %+v, not %+v", got, want)
		}
		before.twice = want
		if !stateOf(x).same(before) {
			t.Errorf("behind a second vote: %+v, not %+v", stateOf(x), before)
		}
	}
	again := func(v api.Vote) {
		t.Helper()
		before := stateOf(x)
		mustAdd(t, x, v)
		if !stateOf(x).same(before) {
			t.Errorf("behind a vote that counts: %+v, not %+v", stateOf(x), before)
		}
	}
	twice(v(3, 1), v(3, 2))
	twice(v(0, 2), v(0, 0)) // for none, too
	again(v(3, 1))          // though its key voted for another one since
	twice(v(1, 0), v(1, 5))
	twice(v(3, 1), v(3, 3)) // behind the vote that counts, not the last one
	again(v(0, 2))
	mustAdd(t, x, v(2, 2))
	again(v(2, 2))
	again(otherSig(t, l[2].secret, 4321, v(2, 2))) // the first signature of a vote stays
	twice(v(2, 2), otherSig(t, l[2].secret, 4321, v(2, 1)))
	twice(v(3, 1), v(3, 2)) // noted as often as it comes
}

// TestWinnerEdges has powers just at, under and above two thirds.
func TestWinnerEdges(t *testing.T) { // P9.1 (A3), P9.2
	big := api.MaxPower
	for _, c := range []struct {
		powers []int
		voters int // the first ones
		wins   bool
	}{
		{[]int{1}, 0, false}, {[]int{1}, 1, true}, {[]int{2, 1}, 1, false}, {[]int{3, 1}, 1, true}, {[]int{1, 1}, 1, false},
		{[]int{1, 1, 1}, 2, false}, {[]int{1, 1, 1}, 3, true}, {[]int{1, 1, 1, 1}, 2, false}, {[]int{1, 1, 1, 1}, 3, true}, {[]int{2, 2, 2, 3}, 3, false}, {[]int{2, 2, 3, 3}, 3, true},
		{[]int{big}, 1, true}, {[]int{750599937895082, big - 750599937895082}, 1, false}, {[]int{750599937895083, big - 750599937895083}, 1, true},
		{[]int{big - 1, 1}, 1, true}, {[]int{1, big - 1}, 1, false},
		{slices.Repeat([]int{big / 64}, 64), 42, false}, {slices.Repeat([]int{big / 64}, 64), 43, true}, {slices.Repeat([]int{1}, 63), 42, false}, {slices.Repeat([]int{1}, 63), 43, true},
	} {
		l := members(t, c.powers...)
		for _, block := range []api.Hash{{}, hash(3), {31: 1}} {
			x := mustNew(t, setOf(l), place())
			part := 0
			for _, m := range l {
				if m.secret <= uint64(c.voters) {
					mustAdd(t, x, voteOf(t, m, block))
					part += m.Power
				}
			}
			h, won := x.Winner()
			if won != c.wins || won && h != block || !won && h != (api.Hash{}) || x.Any() != c.wins || x.All() != part || x.Power(block) != part {
				t.Errorf("%d of %v for %x: %x, %v; Any %v, %d of all", c.voters, c.powers, block[:1], h[:1], won, x.Any(), x.All())
			}
			commit, e := x.Commit()
			if is := c.wins && block != (api.Hash{}); (e == api.OK) != is || !is && (e != api.ErrCommit || !sameCommit(commit, api.Commit{})) {
				t.Errorf("%d of %v for %x: %+v, %v", c.voters, c.powers, block[:1], commit, e)
			}
		}
	}
}

// TestNoWinner: votes for many blocks are more than two thirds for whatever, and nobody wins.
func TestNoWinner(t *testing.T) { // P9.1 (A3), P9.2
	l := members(t, slices.Repeat([]int{5}, api.MaxValidators)...)
	x := mustNew(t, setOf(l), place())
	for i, m := range l {
		mustAdd(t, x, voteOf(t, m, hash(byte(i))))
	}
	if h, won := x.Winner(); won || h != (api.Hash{}) || !x.Any() || x.All() != 320 || x.Power(hash(63)) != 5 || x.Power(api.Hash{}) != 5 || len(x.Votes()) != 64 {
		t.Errorf("64 blocks: %x, %v, %v, %d", h[:1], won, x.Any(), x.All())
	}
	if c, e := x.Commit(); e != api.ErrCommit || !sameCommit(c, api.Commit{}) {
		t.Errorf("Commit: %+v, %v", c, e)
	}
}

func TestNoCommitOfPrevotes(t *testing.T) { // P9.1 (A3)
	l := members(t, 1, 1, 1)
	at := place()
	at.Type = api.Prevote
	x := mustNew(t, setOf(l), at)
	for _, m := range l {
		v := at
		v.Block = hash(1)
		mustAdd(t, x, mustSign(t, m.secret, v))
	}
	if h, won := x.Winner(); !won || h != hash(1) {
		t.Error("all prevoted for one block")
	}
	if c, e := x.Commit(); e != api.ErrCommit || !sameCommit(c, api.Commit{}) {
		t.Errorf("a commit of prevotes: %+v, %v", c, e)
	}
}

// somePowers are as many as there may be, or few, or unlike.
func somePowers(r *rand.Rand) []int {
	l := make([]int, 1+r.IntN(9))
	most := 1 << r.IntN(6)
	for i := range l {
		l[i] = 1 + r.IntN(most)
	}
	return l
}

// someVote is mostly one that may be, at the place; and sometimes wrong in a way.
func someVote(t *testing.T, r *rand.Rand, l []member, at api.Vote) api.Vote {
	t.Helper()
	v := at
	v.Block = hash(byte(r.IntN(2 + r.IntN(5))))
	m := l[r.IntN(len(l))]
	switch r.IntN(14) {
	case 0:
		v.Height++
	case 1:
		v.Round ^= 1
	case 2:
		v.Type = 3 - v.Type
	case 3:
		v.Chain += "b"
	case 4:
		m.secret = 100 + uint64(r.IntN(5))
	case 5:
		return otherSig(t, m.secret, 1+r.Uint64N(1000), v)
	}
	v = mustSign(t, m.secret, v)
	switch r.IntN(20) {
	case 0:
		v.Sig.S ^= 1 << r.IntN(62)
	case 1:
		v.Block[r.IntN(32)] ^= 1
	}
	return v
}

func TestAgainstPlain(t *testing.T) { // P9.1 (A2, A3), P9.2, P9.3
	r := random()
	won, twice := 0, 0
	for range 150 {
		l := members(t, somePowers(r)...)
		at := api.Vote{Chain: "ab", Height: 1 + r.IntN(3), Round: r.IntN(3), Type: api.VoteType(1 + r.IntN(2))}
		if r.IntN(3) > 0 {
			at.Type = api.Precommit
		}
		x, p := mustNew(t, setOf(l), at), &plain{set: setOf(l), place: at}
		var winner api.Hash
		hasWon := false
		for range r.IntN(40) {
			v := someVote(t, r, l, at)
			if got, want := x.Add(v), p.add(v); got != want {
				t.Fatalf("Add of %+v: %v, not %v", v, got, want)
			}
			s := stateOf(x)
			if !s.same(p.state()) {
				t.Fatalf("%+v, not %+v", s, p.state())
			}
			if hasWon && (!s.won || s.winner != winner) {
				t.Fatalf("the winner did not stay: %x, then %x, %v", winner, s.winner, s.won)
			}
			winner, hasWon = s.winner, s.won
			if s.e == api.OK && tally.Check(setOf(l), "ab", s.commit) != api.OK {
				t.Fatalf("Check refuses what Commit made: %+v", s.commit)
			}
		}
		if hasWon {
			won++
		}
		twice += len(x.Twice())
	}
	if won < 20 || twice < 100 {
		t.Errorf("few cases: %d won, %d noted", won, twice)
	}
}

// TestOrderOfVotes: what a tally tells does not hang on the order in which votes came, but for Twice.
func TestOrderOfVotes(t *testing.T) { // P9.1 (A3)
	r := random()
	l := members(t, 5, 4, 3, 2, 1, 1, 1)
	var votes []api.Vote
	for _, m := range l {
		votes = append(votes, voteOf(t, m, hash(byte(m.secret/5))))
	}
	first := mustNew(t, setOf(l), place())
	mustAdd(t, first, votes...)
	for range 30 {
		r.Shuffle(len(votes), func(i, j int) { votes[i], votes[j] = votes[j], votes[i] })
		x := mustNew(t, setOf(l), place())
		mustAdd(t, x, votes...)
		if !stateOf(x).same(stateOf(first)) {
			t.Errorf("%+v, not %+v", stateOf(x), stateOf(first))
		}
	}
}

// commitOf is signed by these members for a block at the place, whoever they are.
func commitOf(t *testing.T, l []member, block api.Hash) api.Commit {
	t.Helper()
	c := api.Commit{Height: place().Height, Round: place().Round, Block: block}
	for _, m := range l {
		c.Seals = append(c.Seals, api.Seal{Key: m.Key, Sig: voteOf(t, m, block).Sig})
	}
	return c
}

func checks(t *testing.T, set []api.Validator, c api.Commit, want api.Errno) {
	t.Helper()
	if e := tally.Check(set, place().Chain, c); e != want {
		t.Errorf("Check of %d seals: %v, not %v", len(c.Seals), e, want)
	}
}

func shares(t *testing.T, set []api.Validator, c api.Commit, part int, want api.Errno) {
	t.Helper()
	if n, e := tally.Shared(set, place().Chain, c); n != part || e != want {
		t.Errorf("Shared of %d seals: %d, %v; not %d, %v", len(c.Seals), n, e, part, want)
	}
}

// TestWhoSealed has each choice of five validators: the commit is one just if they are more than two thirds; what they share is their power.
func TestWhoSealed(t *testing.T) { // P9.1 (A4)
	l := members(t, 1, 2, 4, 8, 12)
	for who := range 32 {
		var some []member
		part := 0
		for i, m := range l {
			if who>>i&1 == 1 {
				some = append(some, m)
				part += m.Power
			}
		}
		c := commitOf(t, some, hash(9))
		want := api.ErrCommit
		if part > 18 { // of 27
			want = api.OK
		}
		checks(t, setOf(l), c, want)
		shares(t, setOf(l), c, part, api.OK)
	}
}

// wrongCommits are changes that make a commit none; of one that has at least two seals.
func wrongCommits() []func(*api.Commit) {
	return []func(*api.Commit){
		func(c *api.Commit) { c.Block = api.Hash{} }, func(c *api.Commit) { c.Block[5] ^= 1 },
		func(c *api.Commit) { c.Height++ }, func(c *api.Commit) { c.Height = 0 }, func(c *api.Commit) { c.Height = math.MinInt }, func(c *api.Commit) { c.Height = api.MaxHeight + 1 },
		func(c *api.Commit) { c.Round-- }, func(c *api.Commit) { c.Round = -1 }, func(c *api.Commit) { c.Round = api.MaxRound + 1 },
		func(c *api.Commit) { c.Seals[0], c.Seals[1] = c.Seals[1], c.Seals[0] },
		func(c *api.Commit) { slices.Reverse(c.Seals) },
		func(c *api.Commit) { c.Seals = append(c.Seals, c.Seals[0]) },
		func(c *api.Commit) { c.Seals = append(c.Seals, c.Seals[len(c.Seals)-1]) },
		func(c *api.Commit) { c.Seals = slices.Insert(c.Seals, 0, c.Seals[0]) },
		func(c *api.Commit) { c.Seals[0].Sig.S ^= 1 }, func(c *api.Commit) { c.Seals[0].Sig.R ^= 1 },
		func(c *api.Commit) { c.Seals[len(c.Seals)-1].Sig.S ^= 1 }, func(c *api.Commit) { c.Seals[len(c.Seals)-1].Sig = api.Sig{} },
		func(c *api.Commit) { c.Seals[1].Sig.S += order },
		func(c *api.Commit) { c.Seals[0].Sig, c.Seals[1].Sig = c.Seals[1].Sig, c.Seals[0].Sig },
	}
}

func copyOf(c api.Commit) api.Commit {
	c.Seals = slices.Clone(c.Seals)
	return c
}

func TestCheckWrong(t *testing.T) { // P9.1 (A4), rule 1
	l := members(t, 1, 1, 1, 1, 1)
	good := commitOf(t, l, hash(9))
	checks(t, setOf(l), good, api.OK)
	for i, change := range wrongCommits() {
		c := copyOf(good)
		change(&c)
		if e := tally.Check(setOf(l), "a", c); e != api.ErrCommit {
			t.Errorf("Check, change %d: %v", i, e)
		}
		if n, e := tally.Shared(setOf(l), "a", c); n != 0 || e != api.ErrCommit {
			t.Errorf("Shared, change %d: %d, %v", i, n, e)
		}
		for j, set := range wrongSets(t) {
			if e := tally.Check(set, "a", c); e != api.ErrSet {
				t.Errorf("Check, change %d, set %d: %v", i, j, e)
			}
			if n, e := tally.Shared(set, "a", c); n != 0 || e != api.ErrSet {
				t.Errorf("Shared, change %d, set %d: %d, %v", i, j, n, e)
			}
		}
	}
	for j, set := range wrongSets(t) {
		if e := tally.Check(set, "a", good); e != api.ErrSet {
			t.Errorf("Check, set %d: %v", j, e)
		}
	}
	for _, chain := range []string{"", "b", "aa", "A", "\x00", "abcdefghijklmnopq"} {
		if e := tally.Check(setOf(l), chain, good); e != api.ErrCommit {
			t.Errorf("Check of chain %q: %v", chain, e)
		}
		if n, e := tally.Shared(setOf(l), chain, good); n != 0 || e != api.ErrCommit {
			t.Errorf("Shared of chain %q: %d, %v", chain, n, e)
		}
	}
	checks(t, setOf(l), api.Commit{}, api.ErrCommit)
	checks(t, setOf(l), api.Commit{Height: 3, Block: hash(1)}, api.ErrCommit)
}

// TestPrevotesSealNothing: seals stand for precommits.
func TestPrevotesSealNothing(t *testing.T) { // P9.1 (A4)
	l := members(t, 1, 1, 1)
	c := commitOf(t, l, hash(9))
	for i, m := range l {
		v := place()
		v.Type, v.Block = api.Prevote, hash(9)
		c.Seals[i].Sig = mustSign(t, m.secret, v).Sig
	}
	checks(t, setOf(l), c, api.ErrCommit)
	shares(t, setOf(l), c, 0, api.ErrCommit)
}

// TestStrangers: who is none of the set's makes a commit none of it, and is passed over in what is shared, whatever its signature is.
func TestStrangers(t *testing.T) { // P9.1 (A4)
	all := members(t, 1, 2, 4, 8, 16, 32)
	for out := range 64 {
		var l, rest []member
		for i, m := range all {
			if out>>i&1 == 1 {
				rest = append(rest, m)
			} else {
				l = append(l, m)
			}
		}
		if len(l) == 0 {
			continue
		}
		c := commitOf(t, all, hash(9))
		for i := range c.Seals {
			if out>>i&1 == 1 && i%2 == 0 {
				c.Seals[i].Sig = api.Sig{R: math.MaxUint64}
			}
		}
		part := 0
		for _, m := range l {
			part += m.Power
		}
		shares(t, setOf(l), c, part, api.OK)
		if len(rest) == 0 {
			checks(t, setOf(l), c, api.OK)
			continue
		}
		checks(t, setOf(l), c, api.ErrCommit)
		others := copyOf(c)
		others.Seals = nil
		for i, s := range c.Seals {
			if out>>i&1 == 1 {
				others.Seals = append(others.Seals, s)
			}
		}
		shares(t, setOf(l), others, 0, api.OK)
		if n, e := tally.Shared(setOf(l), "", others); n != 0 || e != api.OK { // nobody's signature is asked for
			t.Errorf("Shared of strangers: %d, %v", n, e)
		}
		bad := copyOf(c)
		bad.Seals[slices.IndexFunc(bad.Seals, func(s api.Seal) bool { return s.Key == l[0].Key })].Sig.S ^= 1
		shares(t, setOf(l), bad, 0, api.ErrCommit)
		others.Seals = append(others.Seals, others.Seals[0])
		shares(t, setOf(l), others, 0, api.ErrCommit)
		others.Seals, others.Block = nil, api.Hash{}
		shares(t, setOf(l), others, 0, api.ErrCommit)
	}
}

// TestSharedOtherPower: what counts is the power that keys have in the set that is asked of.
func TestSharedOtherPower(t *testing.T) { // P9.1 (A4)
	l := members(t, 1, 2, 3)
	c := commitOf(t, l, hash(9))
	other := setOf(l)
	for i := range other {
		other[i].Power = api.MaxPower / 4
	}
	shares(t, other, c, 3*(api.MaxPower/4), api.OK)
	shares(t, other[:1], c, api.MaxPower/4, api.OK)
	shares(t, other, api.Commit{Height: 3, Block: hash(1)}, 0, api.OK)
	shares(t, other, api.Commit{Block: hash(1)}, 0, api.OK)
}

// TestManySeals: more seals than a set may have validators.
func TestManySeals(t *testing.T) { // P9.1 (A4), P1
	l := members(t, slices.Repeat([]int{3}, api.MaxValidators)...)
	c := commitOf(t, l, hash(9))
	checks(t, setOf(l), c, api.OK)
	many := copyOf(c)
	for range 5000 {
		many.Seals = append(many.Seals, api.Seal{Key: many.Seals[len(many.Seals)-1].Key + 1})
	}
	checks(t, setOf(l), many, api.ErrCommit)
	shares(t, setOf(l), many, 192, api.OK)
	many.Seals[4000].Key--
	shares(t, setOf(l), many, 0, api.ErrCommit)
}

// TestCommitChecks makes commits of tallies at all edges of a set.
func TestCommitChecks(t *testing.T) { // P9.3
	for _, powers := range [][]int{{1}, {api.MaxPower}, {1, 3}, {1, 1, 1, 1}, {5, 1, 1}, slices.Repeat([]int{api.MaxPower / 64}, 64)} {
		l := members(t, powers...)
		for _, at := range rightPlaces() {
			at.Type = api.Precommit
			x := mustNew(t, setOf(l), at)
			for i, m := range l {
				v := at
				v.Block = hash(byte(1 + i%5/4))
				mustAdd(t, x, mustSign(t, m.secret, v))
			}
			c, e := x.Commit()
			if e != api.OK || tally.Check(setOf(l), at.Chain, c) != api.OK || c.Height != at.Height || c.Round != at.Round || c.Block != hash(1) {
				t.Errorf("%d validators: %+v, %v; Check: %v", len(l), c, e, tally.Check(setOf(l), at.Chain, c))
			}
			if n, e := tally.Shared(setOf(l), at.Chain, c); e != api.OK || n != x.Power(hash(1)) {
				t.Errorf("Shared: %d, %v", n, e)
			}
		}
	}
}

func TestNilTally(t *testing.T) { // rule 8, P1
	var x *tally.Tally
	if e := x.Add(place()); e != api.ErrArg {
		t.Errorf("Add: %v", e)
	}
	if c, e := x.Commit(); e != api.ErrArg || !sameCommit(c, api.Commit{}) {
		t.Errorf("Commit: %v", e)
	}
	if h, won := x.Winner(); won || h != (api.Hash{}) || x.Any() || x.All() != 0 || x.Power(hash(0)) != 0 || len(x.Votes()) != 0 || len(x.Twice()) != 0 {
		t.Error("a nil tally tells something")
	}
}

// TestNothingKept: what is handed in, and what was answered, may be changed without a tally's telling.
func TestNothingKept(t *testing.T) { // P2, rule 4
	l := members(t, 1, 2, 3, 4)
	set := setOf(l)
	x := mustNew(t, set, place())
	for i := range set {
		set[i] = api.Validator{Key: uint64(i), Power: 50}
	}
	for _, m := range l {
		mustAdd(t, x, voteOf(t, m, hash(1)))
	}
	refused(t, x, voteOf(t, l[0], hash(2)), api.ErrVoteTwice)
	before := stateOf(x)
	before.votes, before.twice, before.commit = slices.Clone(before.votes), slices.Clone(before.twice), copyOf(before.commit)
	votes, twice := x.Votes(), x.Twice()
	c, _ := x.Commit()
	clear(votes[:cap(votes)])
	clear(twice[:cap(twice)])
	clear(c.Seals[:cap(c.Seals)])
	if !stateOf(x).same(before) || before.all != 10 || len(before.twice) != 2 || len(before.commit.Seals) != 4 {
		t.Errorf("behind changed answers: %+v, not %+v", stateOf(x), before)
	}
	held := x.Twice()
	refused(t, x, voteOf(t, l[1], hash(2)), api.ErrVoteTwice)
	clear(held[:cap(held)])
	if got := x.Twice(); len(got) != 4 || got[0] != voteOf(t, l[0], hash(1)) || got[2] != voteOf(t, l[1], hash(1)) || got[3] != voteOf(t, l[1], hash(2)) {
		t.Errorf("Twice: %+v", got)
	}
}

// TestArgumentsStay: lists that are handed in stay as they were, and what lies behind their length.
func TestArgumentsStay(t *testing.T) { // rule 4
	l := members(t, 1, 1, 1, 1, 1)
	for n := 1; n <= len(l); n++ {
		set, c := setOf(l), commitOf(t, l, hash(1))
		wantSet, wantSeals := slices.Clone(set), slices.Clone(c.Seals)
		c.Seals = c.Seals[:n]
		want := api.ErrCommit
		if 3*n > 2*len(l) {
			want = api.OK
		}
		checks(t, set, c, want)
		shares(t, set[:n], c, n, api.OK)
		x := mustNew(t, set[:n], place())
		for i, m := range l {
			if e := x.Add(voteOf(t, m, hash(1))); (e == api.OK) != (i < n) {
				t.Errorf("member %d of %d: %v", i, n, e)
			}
		}
		x.Commit()
		if !slices.Equal(set, wantSet) || !slices.Equal(c.Seals[:len(l)], wantSeals) {
			t.Error("written into")
		}
	}
}

// TestTwoTallies do not know of each other.
func TestTwoTallies(t *testing.T) { // P2
	l := members(t, 1, 1, 1)
	x, y := mustNew(t, setOf(l), place()), mustNew(t, setOf(l), place())
	mustAdd(t, x, voteOf(t, l[0], hash(1)))
	mustAdd(t, y, voteOf(t, l[0], hash(2)), voteOf(t, l[1], hash(2)))
	if x.All() != 1 || y.All() != 2 || x.Power(hash(2)) != 0 || len(x.Twice())+len(y.Twice()) != 0 {
		t.Errorf("%+v, %+v", stateOf(x), stateOf(y))
	}
}
