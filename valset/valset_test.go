package valset_test

import (
	"math"
	"math/big"
	"math/rand/v2"
	"slices"
	"testing"

	"nuncio/api"
	"nuncio/blake"
	"nuncio/forms"
	"nuncio/valset"
)

func random() *rand.Rand { return rand.New(rand.NewPCG(7, 8)) }

// pairs has a validator for each key with its power.
func pairs(l ...int) []api.Validator {
	var vs []api.Validator
	for i := 0; i < len(l); i += 2 {
		vs = append(vs, api.Validator{Key: uint64(l[i]), Power: l[i+1]})
	}
	return vs
}

// row has n validators of like power, their keys a step apart from the first one on.
func row(n int, first, step uint64, power int) []api.Validator {
	var l []api.Validator
	for i := range n {
		l = append(l, api.Validator{Key: first + step*uint64(i), Power: power})
	}
	return l
}

// plainTotal cannot wrap.
func plainTotal(l []api.Validator) *big.Int {
	all := new(big.Int)
	for _, v := range l {
		all.Add(all, big.NewInt(int64(v.Power)))
	}
	return all
}

func tooMuch(l []api.Validator) bool { return plainTotal(l).Cmp(big.NewInt(1<<50)) > 0 }

func plainRight(l []api.Validator) bool {
	for i, v := range l {
		if v.Power < 1 {
			return false
		}
		for _, ahead := range l[:i] {
			if ahead.Key >= v.Key {
				return false
			}
		}
	}
	return len(l) >= 1 && len(l) <= 64 && !tooMuch(l)
}

// plainUpdate is V2 sentence by sentence: validators are looked for one by one, and laid in order in the end.
func plainUpdate(l, changes []api.Validator) ([]api.Validator, api.Errno) {
	if !plainRight(l) {
		return nil, api.ErrSet
	}
	l = slices.Clone(l)
	for _, c := range changes {
		i := slices.IndexFunc(l, func(v api.Validator) bool { return v.Key == c.Key })
		switch {
		case c.Power < 0 || c.Power > 1<<50:
			return nil, api.ErrPower
		case c.Power == 0 && i < 0:
			return nil, api.ErrUnknown
		case c.Power == 0:
			l = slices.Delete(l, i, i+1)
		case i < 0:
			l = append(l, c)
		default:
			l[i] = c
		}
	}
	slices.SortFunc(l, func(a, b api.Validator) int {
		if a.Key < b.Key {
			return -1
		}
		return 1
	})
	switch {
	case tooMuch(l):
		return nil, api.ErrPower
	case !plainRight(l):
		return nil, api.ErrSet
	}
	return l, api.OK
}

func rightSets() map[string][]api.Validator {
	return map[string][]api.Validator{
		"one":               pairs(5, 1),
		"one of key 0":      pairs(0, 1),
		"the greatest key":  {{Key: math.MaxUint64, Power: 1}},
		"two":               pairs(1, 2, 3, 5),
		"keys side by side": pairs(1, 1, 2, 1, 3, 1),
		"both ends":         {{Key: 0, Power: 3}, {Key: 1 << 63, Power: 1}, {Key: math.MaxUint64, Power: 2}},
		"powers that fall":  pairs(1, 9, 2, 8, 3, 7),
		"most validators":   row(64, 0, 1, 1),
		"all power at one":  pairs(7, 1<<50),
		"all power at two":  pairs(7, 1<<50-1, 8, 1),
		"all power at most": row(64, 10, 3, 1<<44),
	}
}

func wrongSets() map[string][]api.Validator {
	return map[string][]api.Validator{
		"nil":                      nil,
		"none":                     {},
		"too many":                 row(65, 0, 1, 1),
		"far too many":             row(5000, 0, 1, 1),
		"a key twice":              pairs(1, 1, 1, 1),
		"a key twice, in the end":  pairs(1, 1, 2, 1, 2, 2),
		"keys that fall":           pairs(3, 1, 1, 1),
		"one key that falls":       pairs(1, 1, 2, 1, 4, 1, 3, 1),
		"keys that wrap":           {{Key: math.MaxUint64, Power: 1}, {Key: 0, Power: 1}},
		"no power":                 pairs(1, 0),
		"no power at the last":     pairs(1, 1, 2, 0),
		"power below 0":            pairs(1, -1),
		"power below 0 among more": pairs(1, 5, 2, -1, 3, 5),
		"the least power":          pairs(1, 5, 2, math.MinInt),
		"the least power alone":    pairs(1, math.MinInt),
		"below 0 makes it fit":     pairs(1, 1<<50, 2, -5, 3, 5),
		"too much at one":          pairs(1, 1<<50+1),
		"too much at two":          pairs(1, 1<<50, 2, 1),
		"too much at the first":    pairs(1, 1, 2, 1<<50),
		"too much at most":         append(row(63, 10, 3, 1<<44), api.Validator{Key: 1 << 20, Power: 1<<44 + 1}),
		"the greatest power":       pairs(1, math.MaxInt),
		"a sum that wraps":         pairs(1, math.MaxInt, 2, 1),
		"a sum that wraps to 7":    pairs(1, math.MaxInt, 2, math.MaxInt, 3, 9),
		"a sum that wraps to 0":    row(4, 1, 1, 1<<62),
		"a sum that wraps behind":  pairs(1, 1, 2, math.MaxInt, 3, math.MaxInt, 4, 1),
	}
}

func TestRightSets(t *testing.T) { // P7.1 (V1)
	for what, l := range rightSets() {
		if !plainRight(l) || !valset.Right(l) {
			t.Errorf("%s: not right", what)
		}
		if n, e := valset.Total(l); big.NewInt(int64(n)).Cmp(plainTotal(l)) != 0 || e != api.OK {
			t.Errorf("Total, %s: %d, %d", what, n, e)
		}
		if h, e := valset.Hash(l); h == (api.Hash{}) || e != api.OK {
			t.Errorf("Hash, %s: %s, %d", what, blake.Text(h), e)
		} else if same, _ := forms.SetHash(l); h != same {
			t.Errorf("Hash, %s: %s, but SetHash %s", what, blake.Text(h), blake.Text(same))
		}
	}
}

func TestWrongSets(t *testing.T) { // P7.1 (V1, V2)
	for what, l := range wrongSets() {
		if plainRight(l) || valset.Right(l) {
			t.Errorf("%s: right", what)
		}
		if n, e := valset.Total(l); n != 0 || e != api.ErrSet {
			t.Errorf("Total, %s: %d, %d", what, n, e)
		}
		if h, e := valset.Hash(l); h != (api.Hash{}) || e != api.ErrSet {
			t.Errorf("Hash, %s: %s, %d", what, blake.Text(h), e)
		}
		for _, changes := range [][]api.Validator{nil, pairs(1, 1), pairs(1, 0), pairs(9, 0), pairs(1, -1), pairs(9, 1<<50)} {
			if m, e := valset.Update(l, changes); len(m) != 0 || e != api.ErrSet {
				t.Errorf("Update, %s, by %v: %v, %d", what, changes, m, e)
			}
		}
	}
}

func TestTotal(t *testing.T) { // P7.1 (V1)
	for _, c := range []struct {
		l    []api.Validator
		want int
	}{
		{pairs(1, 2, 3, 5), 7},
		{pairs(0, 1), 1},
		{row(64, 0, 1, 3), 192},
		{row(64, 0, 1, 1<<44), 1 << 50},
		{pairs(1, 1<<50), 1 << 50},
	} {
		if n, e := valset.Total(c.l); n != c.want || e != api.OK {
			t.Errorf("Total of %v: %d, %d", c.l, n, e)
		}
	}
}

func TestPower(t *testing.T) { // P7.1 (V1)
	ends := []api.Validator{{Key: 0, Power: 4}, {Key: math.MaxUint64, Power: 6}}
	wild := pairs(9, 1, 3, math.MinInt, 9, 2, 3, 7, 5, 0, 5, 8, 1, math.MaxInt)
	for _, c := range []struct {
		l    []api.Validator
		key  uint64
		want int
	}{
		{nil, 0, 0},
		{[]api.Validator{}, 1, 0},
		{pairs(1, 2, 3, 5), 1, 2},
		{pairs(1, 2, 3, 5), 3, 5},
		{pairs(1, 2, 3, 5), 2, 0},
		{pairs(1, 2, 3, 5), 0, 0},
		{pairs(1, 2, 3, 5), 4, 0},
		{ends, 0, 4},
		{ends, math.MaxUint64, 6},
		{ends, 1 << 63, 0},
		{wild, 9, 1},
		{wild, 3, math.MinInt},
		{wild, 5, 0},
		{wild, 1, math.MaxInt},
		{wild, 2, 0},
		{row(65, 0, 1, 3), 64, 3},
		{row(5000, 5000, math.MaxUint64, 2), 1, 2},
	} {
		if n := valset.Power(c.l, c.key); n != c.want {
			t.Errorf("Power of %d: %d, not %d", c.key, n, c.want)
		}
	}
}

// TestHashesKnown has digests that another implementation made.
func TestHashesKnown(t *testing.T) { // P7.1 (V1)
	var squares []api.Validator
	for i := range 64 {
		squares = append(squares, api.Validator{Key: uint64(i * i), Power: i + 1})
	}
	for want, l := range map[string][]api.Validator{
		"7c937a0a3699af0d8e1544f688130581fa3eb03f8f78b6d972798b91093358ca": pairs(0, 1),
		"bae486b48755afa372670d053ff0e36acc257a3f495b4da3e8fda2b0a1c09919": pairs(1, 2, 3, 5),
		"aafc8f35e09706471c8bc4e2793558cf26c75a25b63ddd9905471b819f7da44a": {{Key: 7, Power: 1<<50 - 1}, {Key: math.MaxUint64, Power: 1}},
		"c424397b3d08c89e0c8edb78fcfdebbd0a011d3250c8c355c128c8ce7a5520b1": squares,
	} {
		if h, e := valset.Hash(l); blake.Text(h) != want || e != api.OK {
			t.Errorf("Hash of %v: %s, %d", l, blake.Text(h), e)
		}
	}
}

// join has lists one behind the other.
func join(l ...[]api.Validator) []api.Validator { return slices.Concat(l...) }

func TestUpdate(t *testing.T) { // P7.1 (V2), P7.2
	two := pairs(1, 2, 3, 5)
	full := row(64, 1, 1, 1)
	for what, c := range map[string]struct{ l, changes, want []api.Validator }{
		"nothing":                        {two, nil, two},
		"an empty list":                  {two, []api.Validator{}, two},
		"other power":                    {two, pairs(3, 4), pairs(1, 2, 3, 4)},
		"the same power":                 {two, pairs(3, 5), two},
		"the first is taken away":        {two, pairs(1, 0), pairs(3, 5)},
		"the last is taken away":         {two, pairs(3, 0), pairs(1, 2)},
		"a new one ahead":                {two, pairs(0, 7), pairs(0, 7, 1, 2, 3, 5)},
		"a new one between":              {two, pairs(2, 7), pairs(1, 2, 2, 7, 3, 5)},
		"a new one behind":               {two, pairs(4, 7), pairs(1, 2, 3, 5, 4, 7)},
		"new ones, falling":              {two, pairs(9, 1, 4, 2, 2, 3, 0, 4), pairs(0, 4, 1, 2, 2, 3, 3, 5, 4, 2, 9, 1)},
		"the greatest key":               {two, []api.Validator{{Key: math.MaxUint64, Power: 1}}, join(two, []api.Validator{{Key: math.MaxUint64, Power: 1}})},
		"several":                        {two, pairs(2, 1, 1, 0, 3, 4), pairs(2, 1, 3, 4)},
		"the later one holds":            {two, pairs(3, 4, 3, 6), pairs(1, 2, 3, 6)},
		"away and back":                  {two, pairs(1, 0, 1, 9), pairs(1, 9, 3, 5)},
		"there and away":                 {two, pairs(2, 9, 2, 0), two},
		"there, away, there":             {two, pairs(2, 9, 2, 0, 2, 1), pairs(1, 2, 2, 1, 3, 5)},
		"none between":                   {two, pairs(1, 0, 3, 0, 8, 1), pairs(8, 1)},
		"all power":                      {two, pairs(3, 1<<50-2), pairs(1, 2, 3, 1<<50-2)},
		"all power at one":               {two, pairs(1, 0, 3, 1<<50), pairs(3, 1<<50)},
		"too much power between":         {two, pairs(2, 1<<50, 9, 1<<50, 2, 0, 9, 0), two},
		"too much power, then less":      {two, pairs(3, 1<<50, 3, 1<<50-2), pairs(1, 2, 3, 1<<50-2)},
		"most validators":                {two, row(62, 10, 1, 1), join(two, row(62, 10, 1, 1))},
		"one for another, when full":     {full, pairs(64, 0, 0, 1), row(64, 0, 1, 1)},
		"too many between":               {full, pairs(0, 1, 64, 0), row(64, 0, 1, 1)},
		"all others":                     {full, join(row(64, 1, 1, 0), row(64, 101, 1, 2)), row(64, 101, 1, 2)},
		"all others, the new ones first": {full, join(row(64, 101, 1, 2), row(64, 1, 1, 0)), row(64, 101, 1, 2)},
	} {
		m, e := valset.Update(c.l, c.changes)
		if !slices.Equal(m, c.want) || e != api.OK || !valset.Right(m) {
			t.Errorf("%s: %v, %d", what, m, e)
		}
	}
}

func TestUpdateErrors(t *testing.T) { // P7.1 (V2)
	two := pairs(1, 2, 3, 5)
	for what, c := range map[string]struct {
		l, changes []api.Validator
		want       api.Errno
	}{
		"power below 0":                      {two, pairs(3, -1), api.ErrPower},
		"power below 0 of a new one":         {two, pairs(4, -1), api.ErrPower},
		"the least power":                    {two, pairs(3, math.MinInt), api.ErrPower},
		"too much power of one":              {two, pairs(3, 1<<50+1), api.ErrPower},
		"the greatest power":                 {two, pairs(4, math.MaxInt), api.ErrPower},
		"too much power of one, then less":   {two, pairs(3, 1<<50+1, 3, 1), api.ErrPower},
		"power below 0, then more":           {two, pairs(3, -1, 3, 1), api.ErrPower},
		"one too much in the end":            {two, pairs(3, 1<<50-1), api.ErrPower},
		"too much with a new one":            {two, pairs(9, 1<<50), api.ErrPower},
		"too much with a new one ahead":      {two, pairs(0, 1<<50), api.ErrPower},
		"one too much, by many":              {row(64, 1, 1, 1<<44), pairs(5, 1<<44+1), api.ErrPower},
		"a sum that wraps to what is there":  {two, row(1<<14, 10, 1, 1<<50), api.ErrPower},
		"a sum that wraps below 0":           {two, row(1<<13, 10, 1, 1<<50), api.ErrPower},
		"unknown":                            {two, pairs(9, 0), api.ErrUnknown},
		"unknown between":                    {two, pairs(2, 0), api.ErrUnknown},
		"unknown ahead":                      {two, pairs(0, 0), api.ErrUnknown},
		"away twice":                         {two, pairs(1, 0, 1, 0), api.ErrUnknown},
		"there, and away twice":              {two, pairs(2, 1, 2, 0, 2, 0), api.ErrUnknown},
		"unknown then, though there later":   {two, pairs(2, 0, 2, 1), api.ErrUnknown},
		"none left":                          {two, pairs(1, 0, 3, 0), api.ErrSet},
		"the only one":                       {pairs(1, 1), pairs(1, 0), api.ErrSet},
		"too many":                           {two, row(63, 10, 1, 1), api.ErrSet},
		"too many, one more":                 {row(64, 1, 1, 1), pairs(0, 1), api.ErrSet},
		"far too many":                       {two, row(5000, 10, 1, 1), api.ErrSet},
		"unknown ahead of power below 0":     {two, pairs(9, 0, 1, -1), api.ErrUnknown},
		"power below 0 ahead of unknown":     {two, pairs(1, -1, 9, 0), api.ErrPower},
		"unknown ahead of too much of one":   {two, pairs(9, 0, 1, 1<<50+1), api.ErrUnknown},
		"too much of one ahead of unknown":   {two, pairs(1, 1<<50+1, 9, 0), api.ErrPower},
		"unknown, and too much in the end":   {two, pairs(3, 1<<50, 9, 0), api.ErrUnknown},
		"unknown, and none left":             {two, pairs(1, 0, 3, 0, 9, 0), api.ErrUnknown},
		"unknown, and too many":              {two, join(row(63, 10, 1, 1), pairs(9, 0)), api.ErrUnknown},
		"power below 0, and none left":       {two, pairs(1, 0, 3, 0, 9, -1), api.ErrPower},
		"power below 0, and too many":        {two, join(row(63, 10, 1, 1), pairs(9, -1)), api.ErrPower},
		"too much power, and too many":       {two, join(row(63, 10, 1, 1), pairs(3, 1<<50)), api.ErrPower},
		"too many, and too much at the last": {two, join(row(63, 10, 1, 1), pairs(999, 1<<50)), api.ErrPower},
	} {
		if m, e := valset.Update(c.l, c.changes); len(m) != 0 || e != c.want {
			t.Errorf("%s: %v, %d, not %d", what, m, e, c.want)
		}
	}
}

// chance makes sets and changes whose keys often meet.
type chance struct{ *rand.Rand }

func (r chance) key() uint64 {
	k := r.Uint64N(8)
	if r.IntN(10) == 0 {
		k = math.MaxUint64 - k
	}
	return k
}

func (r chance) power() int {
	switch r.IntN(40) {
	case 0:
		return -1 - r.IntN(math.MaxInt)>>r.IntN(63)
	case 1:
		return r.IntN(math.MaxInt)
	case 2, 3:
		return 1<<50 - r.IntN(30)
	}
	return r.IntN(10)
}

func (r chance) validators(most int) []api.Validator {
	var l []api.Validator
	for range r.IntN(most + 1) {
		l = append(l, api.Validator{Key: r.key(), Power: r.power()})
	}
	return l
}

// set is small or nearly full at times, so that changes leave none, or too many.
func (r chance) set() []api.Validator {
	var others []api.Validator
	if r.IntN(4) == 0 {
		others = row(62, 1<<20, 1<<30, 1)
	}
	for {
		m, e := plainUpdate(pairs(100, 1), join(r.validators(r.IntN(12)), pairs(100, 0), others))
		if e == api.OK {
			return m
		}
	}
}

func TestUpdateByChance(t *testing.T) { // P7.1, P7.2, P7.3; P2
	r := chance{random()}
	times := map[api.Errno]int{}
	for range 10000 {
		l, changes := r.set(), r.validators(6)
		want, wantE := plainUpdate(l, changes)
		for range 2 {
			m, e := valset.Update(l, changes)
			if !slices.Equal(m, want) || e != wantE {
				t.Fatalf("Update of %v by %v: %v, %d, not %v, %d", l, changes, m, e, want, wantE)
			}
			if e == api.OK {
				isUpdated(t, l, changes, m)
			}
		}
		times[wantE]++
	}
	for _, e := range []api.Errno{api.OK, api.ErrPower, api.ErrUnknown, api.ErrSet} {
		if times[e] < 100 {
			t.Errorf("%d came %d times alone", e, times[e])
		}
	}
}

// isUpdated holds P7.2 and P7.3 by themselves: what is answered is right, keys that no change names have what they had, the others what their last change gives.
func isUpdated(t *testing.T, l, changes, m []api.Validator) {
	t.Helper()
	if !valset.Right(m) || !plainRight(m) {
		t.Errorf("Update of %v by %v is not right: %v", l, changes, m)
	}
	want := map[uint64]int{}
	for _, v := range join(l, m) {
		want[v.Key] = valset.Power(l, v.Key)
	}
	for _, c := range changes {
		want[c.Key] = c.Power
	}
	for key, power := range want {
		if n := valset.Power(m, key); n != power {
			t.Errorf("Update of %v by %v: %d has %d, not %d", l, changes, key, n, power)
		}
	}
}

func TestRightByChance(t *testing.T) { // P7.1 (V1)
	r := chance{random()}
	rights := 0
	for range 20000 {
		l := r.validators(4)
		n, e := valset.Total(l)
		if is := plainRight(l); valset.Right(l) != is || (e == api.OK) != is {
			t.Fatalf("%v: Right is not %t; %d", l, is, e)
		} else if is {
			rights++
		}
		if e == api.OK && big.NewInt(int64(n)).Cmp(plainTotal(l)) != 0 {
			t.Errorf("Total of %v: %d", l, n)
		}
	}
	if rights < 100 {
		t.Errorf("only %d were right", rights)
	}
}

// TestJustThat: among many, those who are not named stay.
func TestJustThat(t *testing.T) { // P7.3
	l := row(60, 3, 1<<57, 1)
	for i := range l {
		l[i].Power += i * i
	}
	changes := pairs(0, 4, 2, 9, 4, 8)
	changes = append(changes, api.Validator{Key: l[30].Key}, api.Validator{Key: l[59].Key, Power: 1})
	m, e := valset.Update(l, changes)
	if e != api.OK || len(m) != 62 {
		t.Fatalf("%d, %d", len(m), e)
	}
	isUpdated(t, l, changes, m)
}

// TestManyChanges ends in time, though far more validators than a set may have are there between.
func TestManyChanges(t *testing.T) { // P1, P7.1 (V2)
	const n = 300000
	l := pairs(5, 1, 9, 2)
	there, away := row(n, 1<<40, math.MaxUint64, 1<<50), row(n, 1<<40, math.MaxUint64, 0)
	if m, e := valset.Update(l, join(there, away, pairs(7, 3))); !slices.Equal(m, pairs(5, 1, 7, 3, 9, 2)) || e != api.OK {
		t.Errorf("there and away: %d, %d", len(m), e)
	}
	if m, e := valset.Update(l, join(there, away, away[:1])); len(m) != 0 || e != api.ErrUnknown {
		t.Errorf("away twice: %d, %d", len(m), e)
	}
	if m, e := valset.Update(l, there); len(m) != 0 || e != api.ErrPower {
		t.Errorf("there: %d, %d", len(m), e)
	}
}

// room is a list with some more behind its length.
func room(l []api.Validator, behind api.Validator) []api.Validator {
	return append(slices.Clip(slices.Clone(l)), behind, behind, behind)[:len(l)]
}

func stays(t *testing.T, what string, l, want []api.Validator, behind api.Validator) {
	t.Helper()
	if !slices.Equal(l, want) || !slices.Equal(l[len(l):len(l)+3], []api.Validator{behind, behind, behind}) {
		t.Errorf("%s is now %v, behind it %v", what, l, l[len(l):len(l)+3])
	}
}

func TestHandedInStays(t *testing.T) { // rules 3, 4
	set := pairs(1, 2, 3, 5)
	behind := api.Validator{Key: 2, Power: 6}
	for _, changes := range [][]api.Validator{nil, pairs(3, 4), pairs(2, 1, 1, 0), pairs(0, 9, 3, 0), pairs(1, 7, 9, 0), pairs(3, -1), pairs(1, 0, 3, 0), row(70, 4, 1, 1)} {
		l, c := room(set, behind), room(changes, behind)
		valset.Right(l)
		valset.Total(l)
		valset.Power(l, 2)
		valset.Hash(l)
		valset.Update(l, c)
		stays(t, "the set", l, set, behind)
		stays(t, "the list of changes", c, changes, behind)
	}
}

// TestBehindTheLength: what lies behind a list's length counts for nothing.
func TestBehindTheLength(t *testing.T) { // rule 4
	set := pairs(1, 2, 3, 5)
	l := room(set, api.Validator{Key: 9, Power: 6})
	want, _ := forms.SetHash(set)
	n, e := valset.Total(l)
	if !valset.Right(l) || n != 7 || e != api.OK || valset.Power(l, 9) != 0 {
		t.Errorf("Total: %d, %d", n, e)
	}
	if h, e := valset.Hash(l); h != want || e != api.OK {
		t.Errorf("Hash: %s, %d", blake.Text(h), e)
	}
	changes := room(pairs(2, 1), api.Validator{Key: 2, Power: -1})
	if m, e := valset.Update(l, changes); !slices.Equal(m, pairs(1, 2, 2, 1, 3, 5)) || e != api.OK {
		t.Errorf("Update: %v, %d", m, e)
	}
}

func TestAnswersAreNew(t *testing.T) { // rule 4
	for _, given := range [][]api.Validator{nil, pairs(3, 4), pairs(4, 4), pairs(1, 0)} {
		l, changes := room(pairs(1, 2, 3, 5), api.Validator{Key: 8}), room(given, api.Validator{Key: 8})
		one, _ := valset.Update(l, changes)
		two, _ := valset.Update(l, changes)
		want := slices.Clone(two)
		one = one[:cap(one)]
		for i := range one {
			one[i] = api.Validator{Key: 77, Power: 77}
		}
		stays(t, "the set", l, pairs(1, 2, 3, 5), api.Validator{Key: 8})
		stays(t, "the list of changes", changes, given, api.Validator{Key: 8})
		if !slices.Equal(two, want) {
			t.Errorf("two answers share memory: %v", two)
		}
	}
	twice := pairs(1, 2, 3, 5)
	if m, e := valset.Update(twice, twice); !slices.Equal(m, twice) || e != api.OK || &m[0] == &twice[0] {
		t.Errorf("a set by itself: %v, %d", m, e)
	}
}
