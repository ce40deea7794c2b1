package turns_test

import (
	"math"
	"math/big"
	"math/rand/v2"
	"slices"
	"testing"

	"nuncio/api"
	"nuncio/turns"
	"nuncio/valset"
)

func random() *rand.Rand { return rand.New(rand.NewPCG(8, 9)) }

// pairs has a validator for each key with its power.
func pairs(l ...int) []api.Validator {
	var vs []api.Validator
	for i := 0; i < len(l); i += 2 {
		vs = append(vs, api.Validator{Key: uint64(l[i]), Power: l[i+1]})
	}
	return vs
}

// row has n validators of like power, their keys a step apart from the first one on.
func row(n int, first, step uint64, power int) []api.Validator {
	var l []api.Validator
	for i := range n {
		l = append(l, api.Validator{Key: first + step*uint64(i), Power: power})
	}
	return l
}

func totalOf(t *testing.T, l []api.Validator) int {
	t.Helper()
	all, e := valset.Total(l)
	if e != api.OK {
		t.Fatalf("a set that is not right: %v", e)
	}
	return all
}

func mustOrder(t *testing.T, l []api.Validator, n int) []uint64 {
	t.Helper()
	o, e := turns.Order(l, n)
	if e != api.OK || len(o) != n {
		t.Fatalf("Order of %d validators, %d turns: %d keys, %v", len(l), n, len(o), e)
	}
	return o
}

// plainOrder keeps no priorities: that of a validator, grown for turn t, is (t+1) times its power less all power for each time that it proposed. It asks for the least key by itself, and cannot wrap.
func plainOrder(l []api.Validator, n int) []uint64 {
	all := new(big.Int)
	for _, v := range l {
		all.Add(all, big.NewInt(int64(v.Power)))
	}
	times := map[uint64]int64{}
	var o []uint64
	for t := range n {
		var who uint64
		var most *big.Int
		for _, v := range l {
			p := new(big.Int).Mul(big.NewInt(int64(t)+1), big.NewInt(int64(v.Power)))
			p.Sub(p, new(big.Int).Mul(all, big.NewInt(times[v.Key])))
			if most == nil || p.Cmp(most) > 0 || p.Cmp(most) == 0 && v.Key < who {
				who, most = v.Key, p
			}
		}
		times[who]++
		o = append(o, who)
	}
	return o
}

func timesOf(o []uint64) map[uint64]int {
	times := map[uint64]int{}
	for _, key := range o {
		times[key]++
	}
	return times
}

func rightSets() map[string][]api.Validator {
	return map[string][]api.Validator{
		"one":               pairs(5, 1),
		"one of key 0":      pairs(0, 3),
		"the greatest key":  {{Key: math.MaxUint64, Power: 1}},
		"two":               pairs(1, 2, 3, 5),
		"two alike":         pairs(4, 9, 6, 9),
		"both ends":         {{Key: 0, Power: 3}, {Key: 1 << 63, Power: 1}, {Key: math.MaxUint64, Power: 2}},
		"powers that fall":  pairs(1, 9, 2, 8, 3, 7),
		"powers that rise":  pairs(1, 7, 2, 8, 3, 9),
		"a great one first": pairs(1, 1000, 2, 1, 3, 1),
		"a great one last":  pairs(1, 1, 2, 1, 3, 1000),
		"most validators":   row(64, 0, 1, 1),
		"all power at one":  pairs(7, 1<<50),
		"all but one":       pairs(7, 1, 8, 1<<50-1),
		"a half each":       pairs(7, 1<<49, 8, 1<<49),
		"all power at most": row(64, 10, 3, 1<<44),
	}
}

func wrongSets() map[string][]api.Validator {
	return map[string][]api.Validator{
		"nil":                   nil,
		"none":                  {},
		"too many":              row(65, 0, 1, 1),
		"a key twice":           pairs(1, 1, 1, 1),
		"keys that fall":        pairs(3, 1, 1, 1),
		"no power":              pairs(1, 0),
		"no power at the last":  pairs(1, 1, 2, 0),
		"power below 0":         pairs(1, 5, 2, -1),
		"the least power":       pairs(1, math.MinInt),
		"too much at one":       pairs(1, 1<<50+1),
		"too much at two":       pairs(1, 1<<50, 2, 1),
		"a sum that wraps to 7": pairs(1, math.MaxInt, 2, math.MaxInt, 3, 9),
	}
}

// randomSet is right, and has at most so much power.
func randomSet(r *rand.Rand, most int) []api.Validator {
	var l []api.Validator
	n := 1 + r.IntN(min(most, api.MaxValidators))
	key := r.Uint64N(1 << 40)
	for i := range n {
		p := 1 + r.IntN(most-(n-i)+1)
		if r.IntN(2) == 0 {
			p = 1 + r.IntN((most-(n-i))/(n-i)+1)
		}
		l = append(l, api.Validator{Key: key, Power: p})
		most -= p
		key += 1 + r.Uint64N(1<<40)
	}
	return l
}

// P8.1 (T1): orders that were reckoned by hand.
func TestOrders(t *testing.T) {
	cases := []struct {
		name string
		set  []api.Validator
		want []uint64
	}{
		{"one", pairs(9, 4), []uint64{9, 9, 9, 9, 9}},
		{"one and three", pairs(1, 1, 2, 3), []uint64{2, 1, 2, 2, 2, 1, 2, 2}},
		{"three and one", pairs(1, 3, 2, 1), []uint64{1, 1, 2, 1, 1, 1, 2, 1}},
		{"two and two", pairs(1, 2, 2, 2), []uint64{1, 2, 1, 2, 1}},
		{"three alike", pairs(3, 5, 5, 5, 7, 5), []uint64{3, 5, 7, 3, 5, 7, 3}},
		{"five, one, one", pairs(1, 5, 2, 1, 3, 1), []uint64{1, 1, 2, 1, 3, 1, 1, 1, 1, 2}},
		{"one, one, five", pairs(1, 1, 2, 1, 3, 5), []uint64{3, 3, 1, 3, 2, 3, 3, 3, 3, 1}},
		{"one, two, three", pairs(1, 1, 2, 2, 3, 3), []uint64{3, 2, 1, 3, 2, 3, 3, 2, 1, 3, 2, 3}},
		{"a key above all int", []api.Validator{{Key: 1, Power: 1}, {Key: math.MaxUint64, Power: 1}}, []uint64{1, math.MaxUint64, 1}},
	}
	for _, c := range cases {
		if o := mustOrder(t, c.set, len(c.want)); !slices.Equal(o, c.want) {
			t.Errorf("%s: %v, want %v", c.name, o, c.want)
		}
		for i, want := range c.want {
			if key, e := turns.Proposer(c.set, i); key != want || e != api.OK {
				t.Errorf("%s: Proposer at %d: %d, %v, want %d", c.name, i, key, e, want)
			}
		}
	}
}

// P8.1 (T1): all turns that there are, against the words written out otherwise.
func TestOrderAsWritten(t *testing.T) {
	for name, l := range rightSets() {
		want := plainOrder(l, api.MaxTurns)
		if o := mustOrder(t, l, api.MaxTurns); !slices.Equal(o, want) {
			t.Errorf("%s: %v, want %v", name, o[:20], want[:20])
		}
		for _, i := range []int{0, 1, 2, 63, 64, 1001, 1002, 4094, 4095} {
			if key, e := turns.Proposer(l, i); key != want[i] || e != api.OK {
				t.Errorf("%s: Proposer at %d: %d, %v, want %d", name, i, key, e, want[i])
			}
		}
	}
	r := random()
	for range 200 {
		l := randomSet(r, 1+int(r.Uint64()>>(14+r.UintN(50))))
		n := r.IntN(600)
		want := plainOrder(l, n+1)
		if o := mustOrder(t, l, n); !slices.Equal(o, want[:n]) {
			t.Fatalf("%v, %d turns: %v, want %v", l, n, o, want[:n])
		}
		if key, e := turns.Proposer(l, n); key != want[n] || e != api.OK {
			t.Fatalf("%v: Proposer at %d: %d, %v, want %d", l, n, key, e, want[n])
		}
	}
}

// P8.1 (T1): ErrTurn at the edges and beyond them.
func TestTurnsThatAreNone(t *testing.T) {
	for name, l := range rightSets() {
		for _, i := range []int{-1, -api.MaxTurns, math.MinInt, api.MaxTurns, api.MaxTurns + 1, 1 << 32, 1 << 40, math.MaxInt} {
			if key, e := turns.Proposer(l, i); key != 0 || e != api.ErrTurn {
				t.Errorf("%s: Proposer at %d: %d, %v", name, i, key, e)
			}
		}
		for _, n := range []int{-1, -api.MaxTurns, math.MinInt, api.MaxTurns + 1, 1 << 32, 1 << 40, math.MaxInt} {
			if o, e := turns.Order(l, n); len(o) != 0 || e != api.ErrTurn {
				t.Errorf("%s: Order of %d: %d keys, %v", name, n, len(o), e)
			}
		}
		if o, e := turns.Order(l, 0); len(o) != 0 || e != api.OK {
			t.Errorf("%s: Order of 0: %v, %v", name, o, e)
		}
	}
}

// P8.1 (T1): ErrSet, ahead of ErrTurn too.
func TestSetsThatAreNotRight(t *testing.T) {
	for name, l := range wrongSets() {
		for _, i := range []int{0, 1, api.MaxTurns - 1, api.MaxTurns, api.MaxTurns + 1, -1, math.MinInt, math.MaxInt} {
			if key, e := turns.Proposer(l, i); key != 0 || e != api.ErrSet {
				t.Errorf("%s: Proposer at %d: %d, %v", name, i, key, e)
			}
			if o, e := turns.Order(l, i); len(o) != 0 || e != api.ErrSet {
				t.Errorf("%s: Order of %d: %d keys, %v", name, i, len(o), e)
			}
		}
	}
}

// P8.1 (T2).
func TestTurn(t *testing.T) {
	cases := []struct{ height, round, want int }{
		{1, 0, 1}, {1, 1, 2}, {3, 1, 4}, {4095, 0, 4095}, {4095, 1, 0}, {4095, 2, 1}, {4096, 0, 0}, {4097, 7, 8},
		{1, 4094, 4095}, {1, 4095, 0}, {1, 4096, 1}, {5000, 5000, 10000 - 2*4096},
		{api.MaxHeight, 0, 0}, {api.MaxHeight, 1, 1}, {api.MaxHeight - 1, 0, 4095}, {api.MaxHeight, api.MaxRound, 0},
		{api.MaxHeight - 3, 2, 4095}, {7, api.MaxRound, 7}, {7, api.MaxRound - 1, 6},
		{0, 0, 0}, {0, 5, 0}, {-1, 7, 0}, {-4095, 4097, 0}, {math.MinInt, 3, 0},
		{api.MaxHeight + 1, 0, 0}, {api.MaxHeight + 1, 5, 0}, {math.MaxInt, 0, 0}, {math.MaxInt, 1, 0}, {math.MaxInt, math.MaxInt, 0},
		{5, -1, 0}, {5, -3, 0}, {5, math.MinInt, 0}, {5, api.MaxRound + 1, 0}, {5, math.MaxInt, 0},
		{api.MaxHeight + 2, -1, 0}, {-1, api.MaxRound + 9, 0}, {math.MinInt, math.MinInt, 0},
	}
	for _, c := range cases {
		if turn := turns.Turn(c.height, c.round); turn != c.want {
			t.Errorf("Turn(%d, %d): %d, want %d", c.height, c.round, turn, c.want)
		}
	}
	r := random()
	for range 10000 {
		height, round := int(r.Uint64()>>r.UintN(64)), int(r.Uint64()>>r.UintN(64))
		want := 0
		if height >= 1 && height <= 1<<40 && round >= 0 && round <= 1<<20 {
			want = int(new(big.Int).Mod(big.NewInt(int64(height+round)), big.NewInt(4096)).Int64())
		}
		if turn := turns.Turn(height, round); turn != want {
			t.Fatalf("Turn(%d, %d): %d, want %d", height, round, turn, want)
		}
	}
}

// P8.2: in as many turns as there is power, each one as often as it has power; then it goes on as at first.
func TestAsOftenAsPower(t *testing.T) {
	sets := []([]api.Validator){pairs(1, api.MaxTurns), pairs(1, 1, 2, api.MaxTurns-1), row(64, 5, 7, 64), row(64, 0, 1, 1), pairs(1, 1000, 2, 3, 3, 1045), pairs(2, 1024, 4, 1024)}
	for r := random(); len(sets) < 300; {
		sets = append(sets, randomSet(r, 1+r.IntN(api.MaxTurns)))
	}
	for _, l := range sets {
		all := totalOf(t, l)
		o := mustOrder(t, l, api.MaxTurns)
		times := timesOf(o[:all])
		for _, v := range l {
			if times[v.Key] != v.Power {
				t.Errorf("%v: %d proposes %d times in %d turns", l, v.Key, times[v.Key], all)
			}
		}
		for i := all; i < len(o); i++ {
			if o[i] != o[i-all] {
				t.Fatalf("%v: turn %d: %d, but %d a period ahead", l, i, o[i], o[i-all])
			}
		}
	}
}

// P8.3: the one with the least power, wherever its key lies, waits no longer than there is power.
func TestNobodyWaitsForEver(t *testing.T) {
	for _, all := range []int{2, 3, 64, 1000, api.MaxTurns} {
		for _, l := range [][]api.Validator{pairs(1, 1, 2, all-1), pairs(1, all-1, 2, 1)} {
			o := mustOrder(t, l, all)
			for _, v := range l {
				if !slices.Contains(o, v.Key) {
					t.Errorf("%v: %d proposes at none of %d turns", l, v.Key, all)
				}
			}
		}
	}
	r := random()
	for range 300 {
		l := randomSet(r, 1+r.IntN(api.MaxTurns))
		o := mustOrder(t, l, totalOf(t, l))
		for _, v := range l {
			if !slices.Contains(o, v.Key) {
				t.Errorf("%v: %d proposes at none of %d turns", l, v.Key, len(o))
			}
		}
	}
}

// P8.1: each height's and round's turn is one, and the next round's is the next one.
func TestTurnIsATurn(t *testing.T) {
	l := pairs(1, 5, 2, 1, 3, 1)
	o := mustOrder(t, l, api.MaxTurns)
	for _, height := range []int{1, 7, 4095, 4096, api.MaxHeight} {
		for _, round := range []int{0, 1, 2, 4095, 4096, api.MaxRound} {
			turn := turns.Turn(height, round)
			if key, e := turns.Proposer(l, turn); key != o[(height%4096+round%4096)%4096] || e != api.OK {
				t.Errorf("height %d, round %d: %d, %v", height, round, key, e)
			}
		}
	}
}

// Rule 4: what is handed in stays, what lies behind it counts for nothing, and each answer is a list of its own.
func TestArgumentsStay(t *testing.T) {
	whole := append(pairs(1, 5, 2, 1, 3, 1), pairs(4, 50, 0, 0, 2, -7)...)
	was := slices.Clone(whole)
	l := whole[:3]
	one := mustOrder(t, l, 20)
	key, e := turns.Proposer(l, 4)
	if key != 3 || e != api.OK {
		t.Errorf("Proposer: %d, %v", key, e)
	}
	if !slices.Equal(whole, was) {
		t.Errorf("the set was written into: %v", whole)
	}
	other := mustOrder(t, l, 20)
	want := slices.Clone(other)
	if !slices.Equal(one, want) {
		t.Errorf("the same call: %v, then %v", one, want)
	}
	for i := range one[:cap(one)] {
		one[:cap(one)][i] = 99
	}
	if !slices.Equal(other, want) || !slices.Equal(mustOrder(t, l, 20), want) {
		t.Error("two answers share memory")
	}
}

// P2: neither calls about other sets nor calls that went wrong are to be seen in an answer.
func TestNothingIsKept(t *testing.T) {
	l := pairs(1, 2, 2, 3, 3, 4)
	want := plainOrder(l, 30)
	for i := range 30 {
		turns.Order(pairs(1, 7, 2, 1), i)
		turns.Order(nil, 3)
		turns.Proposer(l, -1)
		turns.Turn(i, i)
		if key, e := turns.Proposer(l, i); key != want[i] || e != api.OK {
			t.Fatalf("Proposer at %d: %d, %v, want %d", i, key, e, want[i])
		}
	}
}

// P1: whatever the arguments are, a call ends, and with an error it has nothing else.
func TestAnything(t *testing.T) {
	r := random()
	number := func() int { return int(r.Uint64()>>r.UintN(64)) - int(r.Uint64()>>r.UintN(64)) }
	for range 5000 {
		var l []api.Validator
		for range r.IntN(5) {
			l = append(l, api.Validator{Key: r.Uint64N(6), Power: number()})
		}
		n := number()
		if n > 64 && r.IntN(20) > 0 {
			n %= 64
		}
		_, set := valset.Total(l)
		want := func(wrong bool) api.Errno {
			if set == api.OK && wrong {
				return api.ErrTurn
			}
			return set
		}
		if key, e := turns.Proposer(l, n); e != want(n < 0 || n > 4095) || e != api.OK && key != 0 {
			t.Fatalf("Proposer(%v, %d): %d, %v", l, n, key, e)
		}
		if o, e := turns.Order(l, n); e != want(n < 0 || n > 4096) || e != api.OK && len(o) != 0 {
			t.Fatalf("Order(%v, %d): %d keys, %v", l, n, len(o), e)
		}
		if turn := turns.Turn(number(), number()); turn < 0 || turn > 4095 {
			t.Fatalf("Turn: %d", turn)
		}
	}
}
