package detect_test

import (
	"math"
	"slices"
	"testing"

	"nuncio/api"
	"nuncio/detect"
)

// classified: it is evidence of that kind and of these keys, and nothing else is told.
func classified(t *testing.T, name string, common, conflicting, other api.Light, kind string, keys []uint64) api.Evidence {
	t.Helper()
	e, errno := detect.Classify(common, conflicting, other)
	want := api.Evidence{Kind: kind, Common: common.Header.Height, Conflicting: conflicting, Keys: keys}
	if errno != api.OK || !isSameEvidence(e, want) {
		t.Errorf("%s: %+v, %d; not %+v", name, e, errno, want)
	}
	return e
}

func unclassified(t *testing.T, name string, common, conflicting, other api.Light) {
	t.Helper()
	if e, errno := detect.Classify(common, conflicting, other); errno != api.ErrMatch || !isNothing(e) {
		t.Errorf("%s: %+v, %d", name, e, errno)
	}
}

func TestClassify(t *testing.T) { // P17.1 (H2)
	for _, height := range []int{6, 7, 100, api.MaxHeight} {
		common, conflicting, other := equivocal(height).lights()
		classified(t, "equivocation", common, conflicting, other, "equivocation", keysOf(2, 3))
		classified(t, "equivocation, the other way round", common, other, conflicting, "equivocation", keysOf(2, 3))
		common, conflicting, other = forgetful(height).lights()
		classified(t, "amnesia", common, conflicting, other, "amnesia", nil)
		classified(t, "amnesia, the other way round", common, other, conflicting, "amnesia", nil)
		common, conflicting, other = mad(height).lights()
		classified(t, "lunatic", common, conflicting, other, "lunatic", keysOf(2, 3, 4))
		classified(t, "lunatic, the other way round", common, other, conflicting, "lunatic", keysOf(1, 2, 3))
	}
}

// TestKinds: which fields of the headers and the commits tell the kind.
func TestKinds(t *testing.T) { // P17.1 (H2)
	even, odd := headerChanges()
	for _, round := range []int{0, 1, api.MaxRound, -1, math.MinInt, math.MaxInt} {
		common, base, other := equivocal(7).lights()
		base.Header, other.Commit.Round = other.Header, round
		for i, f := range even {
			conflicting := base
			f(&conflicting.Header)
			conflicting.Commit.Round = round
			name := "even change " + string(rune('a'+i))
			classified(t, name, common, conflicting, other, "equivocation", keysOf(2, 3))
			conflicting.Commit.Round ^= 1
			classified(t, name, common, conflicting, other, "amnesia", nil)
			conflicting.Commit.Round = -1 - round
			classified(t, name, common, conflicting, other, "amnesia", nil)
		}
		for i, f := range odd {
			conflicting := base
			f(&conflicting.Header)
			name := "odd change " + string(rune('a'+i))
			for _, n := range []int{round, round ^ 1} {
				conflicting.Commit.Round = n
				classified(t, name, common, conflicting, other, "lunatic", keysOf(2, 3, 4))
				classified(t, name+", the other way round", common, other, conflicting, "lunatic", keysOf(1, 2, 3))
			}
		}
	}
}

// TestKindsByHeaders: the commits' heights and blocks, the lists and what the common block says count for no kind.
func TestKindsByHeaders(t *testing.T) { // P17.1 (H2)
	for _, f := range []func(common, conflicting, other *api.Light){
		func(common, conflicting, other *api.Light) { conflicting.Commit.Height++ },
		func(common, conflicting, other *api.Light) { conflicting.Commit.Block = api.Hash{} },
		func(common, conflicting, other *api.Light) { conflicting.Commit.Block = other.Commit.Block },
		func(common, conflicting, other *api.Light) { other.Commit.Height = 0 },
		func(common, conflicting, other *api.Light) { other.Set, other.Next = nil, crowd(5) },
		func(common, conflicting, other *api.Light) { conflicting.Next = nil },
		func(common, conflicting, other *api.Light) { common.Header = api.Header{Chain: "other", Height: -7} },
		func(common, conflicting, other *api.Light) { common.Commit, common.Set = api.Commit{Round: 9}, nil },
	} {
		common, conflicting, other := equivocal(7).lights()
		f(&common, &conflicting, &other)
		classified(t, "equivocation", common, conflicting, other, "equivocation", keysOf(2, 3))
		other.Commit.Round++
		classified(t, "amnesia", common, conflicting, other, "amnesia", nil)
		conflicting.Header.App[0]++
		classified(t, "lunatic", common, conflicting, other, "lunatic", keysOf(2, 3, 4))
	}
}

func TestNoConflict(t *testing.T) { // P17.1 (H2), rule 2
	for _, w := range worlds() {
		common, conflicting, other := w.lights()
		same := conflicting
		same.Header = other.Header
		unclassified(t, "the same header", common, same, other)
		same.Header, same.Commit, same.Set, same.Next = conflicting.Header, api.Commit{}, nil, nil
		unclassified(t, "the same header with other lists", common, conflicting, same)
		unclassified(t, "itself", common, conflicting, conflicting)
		for _, n := range []int{-1, 1, 1 << 32, math.MinInt, -2 * conflicting.Header.Height} {
			moved := conflicting
			moved.Header.Height += n
			unclassified(t, "other heights", common, moved, other)
			unclassified(t, "other heights, the other way round", common, other, moved)
		}
		for _, n := range []int{conflicting.Header.Height, conflicting.Header.Height + 1, api.MaxHeight + 1, math.MaxInt} {
			low := common
			low.Header.Height = n
			unclassified(t, "not above the common one", low, conflicting, other)
		}
	}
	unclassified(t, "zero values", api.Light{}, api.Light{}, api.Light{})
}

// TestStrangeHeights: heights that no header may have are compared as numbers.
func TestStrangeHeights(t *testing.T) { // P17.1 (H2), P1
	heights := []int{math.MinInt, math.MinInt + 1, -1, 0, 1, 5, api.MaxHeight, api.MaxHeight + 1, math.MaxInt - 1, math.MaxInt}
	for _, low := range heights {
		for _, high := range heights {
			common, conflicting, other := equivocal(7).lights()
			common.Header.Height, conflicting.Header.Height, other.Header.Height = low, high, high
			if high > low {
				classified(t, "above", common, conflicting, other, "equivocation", keysOf(2, 3))
			} else {
				unclassified(t, "not above", common, conflicting, other)
			}
		}
	}
}

// TestLunaticKeys: of the conflicting commit those that the common block's Next has.
func TestLunaticKeys(t *testing.T) { // P17.1 (H2)
	w := mad(9)
	w.common.set, w.common.next = crowd(2), setOf(0, 7, 0, 1, 2, 0, 9)
	w.conflicting.set, w.conflicting.next, w.conflicting.secrets = crowd(8), crowd(8), upTo(6)
	w.other.secrets = []uint64{7}
	common, conflicting, other := w.lights()
	classified(t, "some of them", common, conflicting, other, "lunatic", keysOf(2, 4, 5))
	classified(t, "the other way round", common, other, conflicting, "lunatic", keysOf(7))

	conflicting.Set = nil
	classified(t, "the conflicting block's set counts for nothing", common, conflicting, other, "lunatic", keysOf(2, 4, 5))
	slices.Reverse(conflicting.Commit.Seals)
	classified(t, "keys that fall", common, conflicting, other, "lunatic", keysOf(2, 4, 5))
	conflicting.Commit.Seals = slices.Concat(conflicting.Commit.Seals, conflicting.Commit.Seals, conflicting.Commit.Seals[2:3])
	classified(t, "each key is told once", common, conflicting, other, "lunatic", keysOf(2, 4, 5))
	for i := range conflicting.Commit.Seals {
		conflicting.Commit.Seals[i].Sig = api.Sig{R: uint64(i)}
	}
	classified(t, "signatures are not asked for", common, conflicting, other, "lunatic", keysOf(2, 4, 5))

	slices.Reverse(common.Next)
	classified(t, "a set that falls", common, conflicting, other, "lunatic", keysOf(2, 4, 5))
	common.Next = crowd(3)
	classified(t, "others of the next height", common, conflicting, other, "lunatic", keysOf(1, 2, 3))
	common.Next = nil
	classified(t, "nobody of the next height", common, conflicting, other, "lunatic", nil)
	conflicting.Commit.Seals = nil
	common.Next = crowd(8)
	classified(t, "no seals", common, conflicting, other, "lunatic", nil)
}

// TestEquivocationKeys: those in both commits that the conflicting block's Set has.
func TestEquivocationKeys(t *testing.T) { // P17.1 (H2)
	w := equivocal(9)
	w.common.set, w.common.next = crowd(2), crowd(3)
	w.conflicting.set, w.conflicting.secrets = crowd(9), []uint64{1, 2, 3, 4, 5, 12}
	w.other.set, w.other.secrets = crowd(9), []uint64{3, 4, 5, 6, 7, 12}
	common, conflicting, other := w.lights()
	classified(t, "those of both", common, conflicting, other, "equivocation", keysOf(3, 4, 5))
	classified(t, "the other way round", common, other, conflicting, "equivocation", keysOf(3, 4, 5))

	common.Next, other.Set = nil, nil
	classified(t, "the common block and the other one's set count for nothing", common, conflicting, other, "equivocation", keysOf(3, 4, 5))
	slices.Reverse(conflicting.Commit.Seals)
	classified(t, "keys that fall", common, conflicting, other, "equivocation", keysOf(3, 4, 5))
	other.Commit.Seals = slices.Concat(other.Commit.Seals[4:], other.Commit.Seals, other.Commit.Seals)
	conflicting.Commit.Seals = slices.Concat(conflicting.Commit.Seals[3:], conflicting.Commit.Seals)
	classified(t, "each key is told once", common, conflicting, other, "equivocation", keysOf(3, 4, 5))
	for i := range other.Commit.Seals {
		other.Commit.Seals[i].Sig = api.Sig{R: uint64(i)}
	}
	classified(t, "signatures are not asked for", common, conflicting, other, "equivocation", keysOf(3, 4, 5))

	conflicting.Set = setOf(1, 1, 0, 1, 1, 1, 1)
	classified(t, "not all have power", common, conflicting, other, "equivocation", keysOf(4, 5))
	other.Commit.Seals = sealsOf("a", other.Commit, 1, 2, 6, 7)
	classified(t, "two of both", common, conflicting, other, "equivocation", keysOf(1, 2))
	other.Commit.Seals = sealsOf("a", other.Commit, 6, 7)
	classified(t, "nobody of both", common, conflicting, other, "equivocation", nil)
	other.Commit.Seals = nil
	classified(t, "no seals", common, conflicting, other, "equivocation", nil)
	classified(t, "no seals, the other way round", common, other, conflicting, "equivocation", nil)
}

// TestStrangePowers: power is that of the first validator of a key, and is not nought if it is below that.
func TestStrangePowers(t *testing.T) { // P17.1 (H2)
	keys := keysOf(2, 3, 4)
	for _, c := range []struct {
		name string
		set  []api.Validator
		want []uint64
	}{
		{"nought", []api.Validator{{Key: keys[0]}, {Key: keys[1], Power: 1}, {Key: keys[2]}}, keys[1:2]},
		{"below nought", []api.Validator{{Key: keys[0], Power: -1}, {Key: keys[1]}, {Key: keys[2], Power: math.MinInt}}, []uint64{keys[0], keys[2]}},
		{"nought, and then more", []api.Validator{{Key: keys[0]}, {Key: keys[2], Power: 1}, {Key: keys[0], Power: 5}}, keys[2:]},
		{"more, and then nought", []api.Validator{{Key: keys[0], Power: 5}, {Key: keys[0]}}, keys[:1]},
		{"powers that are nought together", []api.Validator{{Key: keys[0], Power: 3}, {Key: keys[0], Power: -3}, {Key: keys[1], Power: -3}}, keys[:2]},
		{"too much", []api.Validator{{Key: keys[2], Power: math.MaxInt}, {Key: keys[1], Power: math.MaxInt}}, keys[1:]},
	} {
		common, conflicting, other := mad(7).lights()
		common.Next = c.set
		classified(t, c.name, common, conflicting, other, "lunatic", c.want)
		common, conflicting, other = equivocal(7).lights()
		conflicting.Set, other.Commit.Seals = c.set, conflicting.Commit.Seals
		classified(t, c.name, common, conflicting, other, "equivocation", c.want)
	}
}

// TestStrangeKeys: keys that nobody's are, and the greatest ones.
func TestStrangeKeys(t *testing.T) { // P17.1 (H2)
	seals := []api.Seal{{Key: math.MaxUint64}, {Key: 1 << 63}, {}, {Key: 1<<63 - 1}, {Key: 1}, {Key: math.MaxUint64}, {}}
	set := []api.Validator{{Key: 1 << 63, Power: 1}, {Key: math.MaxUint64, Power: 2}, {Key: 0, Power: 3}, {Key: 5, Power: 4}}
	want := []uint64{0, 1 << 63, math.MaxUint64}
	common, conflicting, other := mad(7).lights()
	common.Next, conflicting.Commit.Seals = set, seals
	classified(t, "lunatic", common, conflicting, other, "lunatic", want)
	common, conflicting, other = equivocal(7).lights()
	conflicting.Set, conflicting.Commit.Seals, other.Commit.Seals = set, seals, seals
	classified(t, "equivocation", common, conflicting, other, "equivocation", want)
}

// TestManySeals: more than a commit may have are gone through all the same.
func TestManySeals(t *testing.T) { // P1
	var seals []api.Seal
	var set []api.Validator
	var want []uint64
	for i := range uint64(3000) {
		seals = append(seals, api.Seal{Key: 3000 - i}, api.Seal{Key: 1 + i})
		set = append(set, api.Validator{Key: 2 * i, Power: 1})
		if i > 0 && i <= 1500 {
			want = append(want, 2*i)
		}
	}
	common, conflicting, other := mad(7).lights()
	common.Next, conflicting.Commit.Seals = set, seals
	e := classified(t, "lunatic", common, conflicting, other, "lunatic", want)
	if n := detect.Named(set, e); n != 1500 {
		t.Errorf("Named: %d", n)
	}
}

// TestClassifyKeepsApart: what is handed in stays as it is, what lies behind its lists too; what is answered has memory of its own.
func TestClassifyKeepsApart(t *testing.T) { // rule 4
	for _, w := range worlds() {
		common, conflicting, other := w.lights()
		want, _ := detect.Classify(common, conflicting, other)
		l := []api.Light{deep(common), deep(conflicting), deep(other)}
		was := []api.Light{whole(l[0]), whole(l[1]), whole(l[2])}
		e, errno := detect.Classify(l[0], l[1], l[2])
		if errno != api.OK || !isSameEvidence(e, want) {
			t.Fatalf("%s: %+v, %d; not %+v", want.Kind, e, errno, want)
		}
		spoil(e.Conflicting)
		clear(e.Keys[:cap(e.Keys)])
		for i := range l {
			if !isSameLight(whole(l[i]), was[i]) {
				t.Errorf("%s: block %d was written into", want.Kind, i)
			}
		}
		e, _ = detect.Classify(l[0], l[1], l[2])
		again, _ := detect.Classify(l[0], l[1], l[2])
		for i := range l {
			spoil(l[i])
		}
		spoil(again.Conflicting)
		clear(again.Keys)
		if !isSameEvidence(e, want) {
			t.Errorf("%s: %+v behind writing into arguments and into another answer; not %+v", want.Kind, e, want)
		}
	}
}

// TestBehindSeals: keys behind the lists' ends count for nothing.
func TestBehindSeals(t *testing.T) { // rule 4
	common, conflicting, other := mad(7).lights()
	conflicting.Commit.Seals = conflicting.Commit.Seals[:2]
	classified(t, "lunatic", common, conflicting, other, "lunatic", []uint64{conflicting.Commit.Seals[0].Key, conflicting.Commit.Seals[1].Key})
	common.Next = common.Next[:0]
	classified(t, "lunatic, nobody", common, conflicting, other, "lunatic", nil)
	common, conflicting, other = equivocal(7).lights()
	other.Commit.Seals = other.Commit.Seals[:0]
	classified(t, "equivocation", common, conflicting, other, "equivocation", nil)
}

// TestNoSharedLists: a block whose two sets lie in one memory has two where it is answered.
func TestNoSharedLists(t *testing.T) { // rule 4
	common, conflicting, other := equivocal(7).lights()
	conflicting.Next = conflicting.Set
	e, _ := detect.Classify(common, conflicting, other)
	e.Conflicting.Set[0].Power = 70
	if e.Conflicting.Next[0].Power != 1 || conflicting.Set[0].Power != 1 {
		t.Errorf("lists that share memory: %+v", e.Conflicting)
	}
}

func TestNamed(t *testing.T) { // P17.1 (H3)
	set := setOf(1, 20, 300, 4000)
	key := keyOf
	for _, c := range []struct {
		name string
		set  []api.Validator
		keys []uint64
		want int
	}{
		{"none", set, nil, 0},
		{"one", set, keysOf(3), 300},
		{"two", set, keysOf(2, 4), 4020},
		{"all", set, keysOf(1, 2, 3, 4), 4321},
		{"keys that fall", set, []uint64{key(4), key(1), key(3)}, 4301},
		{"each once", set, []uint64{key(4), key(4), key(1), key(4), key(1)}, 4001},
		{"strangers", set, keysOf(2, 5, 6), 20},
		{"strangers alone", set, append(keysOf(5, 6), 0, math.MaxUint64), 0},
		{"no set", nil, keysOf(1, 2), 0},
		{"an empty set", set[:0], keysOf(1, 2), 0},
		{"the first one of a key", []api.Validator{{Key: 7, Power: 3}, {Key: 5, Power: 10}, {Key: 7, Power: 50}}, []uint64{5, 7}, 13},
		{"a first one without power", []api.Validator{{Key: 7}, {Key: 7, Power: 50}}, []uint64{7}, 0},
		{"power below nought", []api.Validator{{Key: 7, Power: -3}, {Key: 5, Power: 10}}, []uint64{5, 7, 7}, 7},
		{"keys at their edges", []api.Validator{{Key: math.MaxUint64, Power: 4}, {Key: 0, Power: 3}, {Key: 1 << 63, Power: 6}}, []uint64{0, 1 << 63, math.MaxUint64, 0}, 13},
		{"as much as may be", []api.Validator{{Key: 1, Power: api.MaxPower - 5}, {Key: 2, Power: 5}}, []uint64{1, 2}, api.MaxPower},
		{"as much as an int can be", []api.Validator{{Key: 1, Power: math.MaxInt}, {Key: 2, Power: math.MinInt}}, []uint64{1, 2}, -1},
	} {
		for _, e := range []api.Evidence{{Keys: c.keys}, {Kind: "amnesia", Common: 7, Conflicting: mad(7).conflicting.light(), Keys: c.keys}} {
			for range 2 {
				if n := detect.Named(c.set, e); n != c.want {
					t.Errorf("%s: %d, not %d", c.name, n, c.want)
				}
			}
		}
	}
}

// TestNamedBehindLists: what lies behind the lists' ends counts for nothing, and nothing is written.
func TestNamedBehindLists(t *testing.T) { // rule 4
	set, keys := crowd(4), keysOf(1, 2, 3, 4)
	was := slices.Clone(keys)
	slices.Reverse(keys)
	for i := range 5 {
		for k := range 5 {
			if n := detect.Named(set[:i], api.Evidence{Keys: keys[:k]}); n != max(0, i+k-4) {
				t.Errorf("%d of the set, %d keys: %d", i, k, n)
			}
		}
	}
	slices.Reverse(keys)
	if !slices.Equal(keys, was) || !slices.Equal(set, crowd(4)) {
		t.Errorf("written into: %v, %v", keys, set)
	}
}
