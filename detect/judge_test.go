package detect_test

import (
	"math"
	"slices"
	"testing"

	"nuncio/api"
	"nuncio/detect"
	"nuncio/forms"
	"nuncio/tally"
	"nuncio/verify"
)

// evidence is what Classify says of a world.
func (w world) evidence(t *testing.T) api.Evidence {
	t.Helper()
	e, errno := detect.Classify(w.lights())
	if errno != api.OK {
		t.Fatalf("Classify: %d", errno)
	}
	return e
}

// judged: the evidence that Classify says of a world is answered just that.
func judged(t *testing.T, name string, want api.Errno, w world) {
	t.Helper()
	if e := detect.Judge(w.common.light(), w.other.light(), w.evidence(t), w.o); e != want {
		t.Errorf("%s: %d, not %d", name, e, want)
	}
}

func TestJudge(t *testing.T) { // P17.1 (H3)
	for _, w := range worlds() {
		judged(t, "right evidence", api.OK, w)
		w.conflicting, w.other = w.other, w.conflicting
		judged(t, "the other way round", api.OK, w)
		for _, o := range []api.Options{{Level: 1.0 / 3, Period: tiny}, {Level: 1, Period: infinity, Drift: infinity}, {Level: 0.5, Period: math.MaxFloat64, Drift: tiny}} {
			w.o = o
			judged(t, "other options", api.OK, w)
		}
	}
}

func TestJudgeOptions(t *testing.T) { // P17.1 (H3), rule 1
	nan := math.NaN()
	wrong := []api.Options{
		{}, {Level: nan, Period: nan, Drift: nan}, {Level: nan, Period: 1}, {Level: below(1.0 / 3), Period: 1}, {Level: above(1), Period: 1}, {Level: -0.5, Period: 1}, {Level: infinity, Period: 1},
		{Level: 0.5}, {Level: 0.5, Period: nan}, {Level: 0.5, Period: -1}, {Level: 0.5, Period: math.Copysign(0, -1)}, {Level: 0.5, Period: belowAll},
		{Level: 0.5, Period: 1, Drift: nan}, {Level: 0.5, Period: 1, Drift: -tiny}, {Level: 0.5, Period: 1, Drift: belowAll},
	}
	for _, o := range wrong {
		for _, w := range worlds() {
			w.o = o
			judged(t, "wrong options", api.ErrOptions, w)
			w.conflicting.secrets, w.other.secrets = upTo(1), upTo(1)
			judged(t, "wrong options and unsound blocks", api.ErrOptions, w)
			if e := detect.Judge(w.common.light(), w.other.light(), api.Evidence{}, o); e != api.ErrOptions {
				t.Errorf("wrong options and no evidence: %d", e)
			}
		}
		if e := detect.Judge(api.Light{}, api.Light{}, api.Evidence{}, o); e != api.ErrOptions {
			t.Errorf("wrong options and nothing else: %d", e)
		}
	}
	if e := detect.Judge(api.Light{}, api.Light{}, api.Evidence{}, equivocal(7).o); e != api.ErrMatch {
		t.Errorf("zero values: %d", e)
	}
}

// otherEvidence are claims that are like a right one, but for one thing.
func otherEvidence(e api.Evidence) []api.Evidence {
	var l []api.Evidence
	claim := func(f func(*api.Evidence)) {
		x := e
		x.Keys = slices.Clone(e.Keys)
		f(&x)
		l = append(l, x)
	}
	for _, kind := range []string{"", "lunatic", "equivocation", "amnesia", "Lunatic", "lunatic ", e.Kind + "\x00", "none"} {
		if kind != e.Kind {
			claim(func(x *api.Evidence) { x.Kind = kind })
		}
	}
	for _, n := range []int{0, -e.Common, e.Common + 1, e.Common - 1, e.Common + 1<<32, e.Conflicting.Header.Height, math.MinInt, math.MaxInt} {
		claim(func(x *api.Evidence) { x.Common = n })
	}
	for _, key := range append(keysOf(1, 2, 3, 4, 5), 0, math.MaxUint64) {
		claim(func(x *api.Evidence) { x.Keys = append(x.Keys, key) })
		claim(func(x *api.Evidence) { x.Keys = slices.Insert(x.Keys, 0, key) })
		if !slices.Contains(e.Keys, key) {
			claim(func(x *api.Evidence) {
				x.Keys = append(x.Keys, key)
				slices.Sort(x.Keys)
			})
		}
	}
	for i := range e.Keys {
		claim(func(x *api.Evidence) { x.Keys = slices.Delete(x.Keys, i, i+1) })
		claim(func(x *api.Evidence) { x.Keys[i]++ })
		claim(func(x *api.Evidence) { x.Keys = slices.Insert(x.Keys, i, x.Keys[i]) })
	}
	if len(e.Keys) > 1 {
		claim(func(x *api.Evidence) { x.Keys = nil })
		claim(func(x *api.Evidence) { slices.Reverse(x.Keys) })
		claim(func(x *api.Evidence) { x.Keys = x.Keys[:1] })
	}
	return l
}

func TestJudgeOtherEvidence(t *testing.T) { // P17.1 (H3)
	for _, w := range worlds() {
		common, _, other := w.lights()
		for i, e := range otherEvidence(w.evidence(t)) {
			if got := detect.Judge(common, other, e, w.o); got != api.ErrMatch {
				t.Errorf("claim %d, %q of %d with keys %v: %d", i, e.Kind, e.Common, e.Keys, got)
			}
		}
		w.conflicting.secrets, w.other.secrets = upTo(1), upTo(1)
		for i, e := range otherEvidence(w.evidence(t)) {
			if got := detect.Judge(common, w.other.light(), e, w.o); got != api.ErrMatch {
				t.Errorf("claim %d of unsound blocks: %d", i, got)
			}
		}
	}
}

// TestJudgeOtherBlocks: evidence holds for the blocks alone that it is of.
func TestJudgeOtherBlocks(t *testing.T) { // P17.1 (H3)
	for _, w := range worlds() {
		common, conflicting, other := w.lights()
		e := w.evidence(t)
		match := func(name string, common, other api.Light, e api.Evidence) {
			t.Helper()
			if got := detect.Judge(common, other, e, w.o); got != api.ErrMatch {
				t.Errorf("%s: %d", name, got)
			}
		}
		match("against itself", common, conflicting, e)
		match("against the common block", common, common, e)
		match("from the conflicting block", conflicting, other, e)
		same := e
		same.Conflicting = other
		match("of the other block", common, other, same)
		same.Conflicting = api.Light{}
		match("of no block", common, other, same)
		w.other.header.Height++
		match("against one of another height", common, w.other.light(), e)
		w.common.header.Height++
		match("from another height", w.common.light(), other, e)
	}
	// Two of another round, or with other signers, would be other evidence.
	w := equivocal(7)
	e := w.evidence(t)
	w.other.round++
	if got := detect.Judge(w.common.light(), w.other.light(), e, w.o); got != api.ErrMatch {
		t.Errorf("another round: %d", got)
	}
	w.other.round, w.other.secrets = 1, upTo(4)
	if got := detect.Judge(w.common.light(), w.other.light(), e, w.o); got != api.ErrMatch {
		t.Errorf("more signers of the other block: %d", got)
	}
}

// fault makes one thing of a draft wrong.
type fault struct {
	name string
	want api.Errno
	make func(*draft)
}

func bent(name string, want api.Errno, f func(*api.Header)) fault {
	return fault{name, want, func(d *draft) { d.bend = append(d.bend, f) }}
}

func spoiled(name string, want api.Errno, f func(*api.Commit)) fault {
	return fault{name, want, func(d *draft) { d.spoil = append(d.spoil, f) }}
}

// faults make a block unsound; their order is that of Sound's errors.
func faults() []fault {
	fallen := crowd(4)
	slices.Reverse(fallen)
	return []fault{
		bent("time", api.ErrForm, func(h *api.Header) { h.Time = -1 }),
		bent("late time", api.ErrForm, func(h *api.Header) { h.Time = api.MaxHeight + 1 }),
		bent("no name", api.ErrForm, func(h *api.Header) { h.Chain = "" }),
		spoiled("commit's height", api.ErrForm, func(c *api.Commit) { c.Height = 0 }),
		spoiled("65 seals", api.ErrForm, func(c *api.Commit) { c.Seals = make([]api.Seal, 65) }),
		{"chain", api.ErrChain, func(d *draft) { d.header.Chain = "b" }},
		{"no set", api.ErrSet, func(d *draft) { d.set = nil }},
		{"no next set", api.ErrSet, func(d *draft) { d.next = nil }},
		{"a set that falls", api.ErrSet, func(d *draft) { d.set = fallen }},
		{"65 next", api.ErrSet, func(d *draft) { d.next = crowd(65) }},
		{"too much power", api.ErrSet, func(d *draft) { d.set = setOf(api.MaxPower, 1) }},
		bent("another set", api.ErrSetHash, func(h *api.Header) { h.Set[7] ^= 8 }),
		bent("another next set", api.ErrSetHash, func(h *api.Header) { h.Next[7] ^= 8 }),
		{"too few", api.ErrCommit, func(d *draft) { d.secrets = []uint64{2, 3} }},
		{"a stranger", api.ErrCommit, func(d *draft) { d.secrets = append(upTo(4), 9) }},
		{"a signature", api.ErrCommit, func(d *draft) {
			d.secrets = upTo(4)
			d.spoil = append(d.spoil, func(c *api.Commit) { c.Seals[3].Sig.S ^= 1 })
		}},
		spoiled("seals that fall", api.ErrCommit, func(c *api.Commit) { slices.Reverse(c.Seals) }),
		spoiled("another block", api.ErrCommit, func(c *api.Commit) {
			c.Block[0]++
			c.Seals = sealsOf("a", *c, upTo(4)...)
		}),
		spoiled("another height", api.ErrCommit, func(c *api.Commit) {
			c.Height++
			c.Seals = sealsOf("a", *c, upTo(4)...)
		}),
		spoiled("seals of another chain", api.ErrCommit, func(c *api.Commit) { c.Seals = sealsOf("b", *c, upTo(4)...) }),
	}
}

// TestJudgeUnsound: the conflicting block's error, and then the other one's; both ahead of what the common block says.
func TestJudgeUnsound(t *testing.T) { // P17.1 (H3), rule 1
	for _, begin := range worlds() {
		for _, untrusted := range []bool{false, true} {
			if untrusted {
				begin.common.next = []api.Validator{{Key: 1, Power: 1}}
			}
			for _, f := range faults() {
				w := begin
				f.make(&w.conflicting)
				judged(t, "conflicting: "+f.name, f.want, w)
				w = begin
				f.make(&w.other)
				judged(t, "other: "+f.name, f.want, w)
				for _, g := range faults() {
					w = begin
					f.make(&w.conflicting)
					g.make(&w.other)
					if _, errno := detect.Classify(w.lights()); errno == api.OK {
						judged(t, "conflicting: "+f.name+", other: "+g.name, f.want, w)
					}
				}
			}
		}
	}
}

// TestJudgeChain: the chain is that of the common header, and nothing else of the common block is asked.
func TestJudgeChain(t *testing.T) { // P17.1 (H3)
	for _, w := range worlds() {
		w.common.header.Chain = "b"
		judged(t, "a common block of another chain", api.ErrChain, w)
		w.conflicting.header.Chain = "b"
		judged(t, "another block of another chain", api.ErrChain, w)
		w.other.header.Chain = "b"
		judged(t, "all of another chain", api.OK, w)
		w.common.header.Chain = "a"
		judged(t, "both of another chain", api.ErrChain, w)
	}
	for _, w := range worlds() {
		w.common.secrets, w.common.header.Time, w.common.round = nil, -7, -1
		w.common.set = nil
		judged(t, "a common block without a commit", api.OK, w)
	}
}

// TestJudgeNextHeight: the conflicting block's set must be the one that the common header tells; what of it signed is no more asked.
func TestJudgeNextHeight(t *testing.T) { // P17.1 (H3)
	for _, begin := range []world{equivocal(6), forgetful(6), mad(6)} {
		for _, f := range []func(*api.Header){
			func(h *api.Header) { h.Next[0] ^= 128 }, func(h *api.Header) { h.Next[31] ^= 1 }, func(h *api.Header) { h.Next = api.Hash{} },
		} {
			w := begin
			w.common.bend = append(w.common.bend, f)
			judged(t, "another next hash", api.ErrSetHash, w)
		}
		w := begin
		w.common.next = crowd(5)
		judged(t, "another next set", api.ErrSetHash, w)
		w.common.next = nil
		judged(t, "no next set", api.ErrSetHash, w)
		w.common.next, w.common.set = setOf(1, 1, 1, 2), crowd(4)
		judged(t, "the set of the common height", api.ErrSetHash, w)
		w.common.next, w.common.set = crowd(4), crowd(9)
		judged(t, "another set of the common height", api.OK, w)
		w.common.next = setOf(0, 1, 1, 1)
		w.conflicting.set = w.common.next
		w.conflicting.header.App = api.Hash{9}
		judged(t, "the next set, of the conflicting block alone", api.OK, w)
		w.conflicting, w.other = w.other, w.conflicting
		judged(t, "the next set, of the other block alone", api.ErrSetHash, w)
	}
	// The last height that there is.
	for _, w := range []world{equivocal(api.MaxHeight), forgetful(api.MaxHeight), mad(api.MaxHeight)} {
		w.common.header.Height = api.MaxHeight - 1
		judged(t, "the last height", api.OK, w)
		w.common.next = crowd(5)
		judged(t, "the last height, another set", api.ErrSetHash, w)
		w.common.header.Height = 0
		judged(t, "from nought", api.OK, w)
		w.common.header.Height = math.MinInt
		judged(t, "from below nought", api.OK, w)
	}
}

// TestJudgeThirds: of the common block's next set more than a third must have signed the conflicting block, whatever the level is.
func TestJudgeThirds(t *testing.T) { // P17.1 (H3), P17.2
	const m = api.MaxPower
	for _, begin := range []world{equivocal(8), forgetful(7), mad(100)} {
		for _, level := range []float64{1.0 / 3, 0.5, 1} {
			for _, c := range []struct {
				name string
				next []api.Validator
				want api.Errno
			}{
				// The secrets 2 to 4 signed.
				{"all", setOf(0, 1, 1, 1), api.OK},
				{"one of two", setOf(1, 1), api.OK},
				{"one of three", setOf(1, 1, 0, 0, 1), api.ErrTrust},
				{"two of five", setOf(1, 1, 1, 0, 1, 1), api.OK},
				{"two of six", setOf(1, 1, 1, 0, 1, 1, 1), api.ErrTrust},
				{"none of one", setOf(1), api.ErrTrust},
				{"one of one", setOf(0, 0, 1), api.OK},
				{"a third by power", setOf(50, 20, 2, 3), api.ErrTrust},
				{"more than a third by power", setOf(49, 20, 2, 3), api.OK},
				{"a little less", setOf(2, 1), api.ErrTrust},
				{"most, but weak", setOf(7, 1, 1, 1), api.ErrTrust},
				{"as much as may be, below", setOf(m-m/3, m/3), api.ErrTrust},
				{"as much as may be, above", setOf(m-m/3-1, m/3+1), api.OK},
				{"as much as may be, all", setOf(0, m), api.OK},
				{"22 of 64", crowd(64), api.ErrTrust},
				{"nobody", nil, api.ErrTrust},
				{"65", append(crowd(4), crowd(65)...), api.ErrTrust},
				{"no power", []api.Validator{{Key: keyOf(2)}}, api.ErrTrust},
				{"too much power", setOf(1, m), api.ErrTrust},
				{"power below nought", setOf(-1, 5, 5, 5), api.ErrTrust},
			} {
				w := begin
				w.o.Level, w.common.next = level, c.next
				judged(t, c.name, c.want, w)
				w.common.bend = append(w.common.bend, func(h *api.Header) { h.Next = api.Hash{1} })
				judged(t, c.name+", by another hash", c.want, w)
			}
		}
		fallen := begin
		fallen.common.next = crowd(4)
		slices.Reverse(fallen.common.next)
		judged(t, "a set that falls", api.ErrTrust, fallen)
	}
}

// TestJudgeKeepsApart: nothing is written, and what lies behind the lists counts for nothing.
func TestJudgeKeepsApart(t *testing.T) { // rule 4, P2
	for _, w := range worlds() {
		common, conflicting, other := w.lights()
		e := w.evidence(t)
		l := []api.Light{deep(common), deep(conflicting), deep(other)}
		was := []api.Light{whole(l[0]), whole(l[1]), whole(l[2])}
		e.Conflicting = l[1]
		e.Keys = append(slices.Clone(e.Keys), 1, 2)[:len(e.Keys)]
		keys := slices.Clone(e.Keys[:len(e.Keys)+2])
		for range 3 {
			if got := detect.Judge(l[0], l[2], e, w.o); got != api.OK {
				t.Errorf("%s: %d", e.Kind, got)
			}
		}
		for i := range l {
			if !isSameLight(whole(l[i]), was[i]) {
				t.Errorf("%s: block %d was written into", e.Kind, i)
			}
		}
		if !slices.Equal(e.Keys[:len(e.Keys)+2], keys) {
			t.Errorf("%s: the keys were written into", e.Kind)
		}
	}
}

// blames is P17.2 and P17.3, told by the sets and the signatures themselves.
func blames(t *testing.T, common api.Light, e api.Evidence) {
	t.Helper()
	c := e.Conflicting.Commit
	for _, key := range e.Keys {
		i := slices.IndexFunc(c.Seals, func(s api.Seal) bool { return s.Key == key })
		if i < 0 || !tally.Signed(api.Vote{Chain: e.Conflicting.Header.Chain, Height: c.Height, Round: c.Round, Type: api.Precommit, Block: c.Block, Key: key, Sig: c.Seals[i].Sig}) {
			t.Fatalf("%s: %d is named, but did not sign", e.Kind, key)
		}
	}
	if hash, _ := forms.HeaderHash(e.Conflicting.Header); c.Block != hash {
		t.Fatalf("%s: what was signed is not the block", e.Kind)
	}
	set := common.Next
	switch e.Kind {
	case "amnesia":
		return
	case "equivocation":
		set = e.Conflicting.Set
	}
	part, total := 0, 0
	for _, v := range set {
		total += v.Power
		if slices.Contains(e.Keys, v.Key) {
			part += v.Power
		}
	}
	if 3*part <= total || detect.Named(set, e) != part {
		t.Fatalf("%s: %d of %d are named; Named: %d", e.Kind, part, total, detect.Named(set, e))
	}
}

// some are the secrets of the bits of n.
func some(n int) []uint64 {
	var l []uint64
	for i := range 5 {
		if n>>i&1 == 1 {
			l = append(l, uint64(i+1))
		}
	}
	return l
}

// TestWhoIsNamed goes through all who may sign both blocks.
func TestWhoIsNamed(t *testing.T) { // P17.2, P17.3
	sets := [][]api.Validator{crowd(3), crowd(4), crowd(5), setOf(3, 2, 1), setOf(1, 2, 3, 4, 5), setOf(1<<48, 1<<48, 1<<48, 1<<48)}
	right := map[string]int{}
	for _, set := range sets {
		for _, begin := range []world{equivocal(6), equivocal(9), forgetful(9), mad(6), mad(9)} {
			w := begin
			w.common.next, w.conflicting.set, w.other.set = set, set, set
			common := w.common.light()
			for a := range 1 << 5 {
				w.conflicting.secrets = some(a)
				conflicting := w.conflicting.light()
				for b := range 1 << 5 {
					w.other.secrets = some(b)
					other := w.other.light()
					e, _ := detect.Classify(common, conflicting, other)
					want := verify.Sound("a", conflicting)
					if want == api.OK {
						want = verify.Sound("a", other)
					}
					if got := detect.Judge(common, other, e, w.o); got != want {
						t.Fatalf("%v, and %v of %v: %d, not %d", w.conflicting.secrets, w.other.secrets, set, got, want)
					}
					if want == api.OK {
						right[e.Kind]++
						blames(t, common, e)
					}
				}
			}
		}
	}
	for _, kind := range []string{"lunatic", "equivocation", "amnesia"} {
		if right[kind] < 100 {
			t.Errorf("%s was right %d times", kind, right[kind])
		}
	}
}

// TestLunaticsOfOtherSets goes through all who may sign, from any set that was trusted.
func TestLunaticsOfOtherSets(t *testing.T) { // P17.2, P17.3
	sets := [][]api.Validator{crowd(3), setOf(0, 1, 1, 1, 1), setOf(3, 2, 1), setOf(0, 0, 1, 5, 3), setOf(1, 1, 0, 1, 1), setOf(0, 0, 0, 0, 1)}
	seen := map[api.Errno]int{}
	for _, next := range sets {
		for _, set := range sets {
			for a := range 1 << 5 {
				for _, height := range []int{6, 9} {
					w := mad(height)
					w.common.next, w.conflicting.set, w.conflicting.secrets = next, set, some(a)
					common, conflicting, other := w.lights()
					e, _ := detect.Classify(common, conflicting, other)
					got := detect.Judge(common, other, e, w.o)
					if want := plainJudge(common, other, e, w.o); got != want {
						t.Fatalf("%v of %v, from %v: %d, not %d", w.conflicting.secrets, set, next, got, want)
					}
					seen[got]++
					if got == api.OK {
						blames(t, common, e)
					}
				}
			}
		}
	}
	for _, e := range []api.Errno{api.OK, api.ErrCommit, api.ErrSetHash, api.ErrTrust} {
		if seen[e] < 20 {
			t.Errorf("the answer %d was seen %d times", e, seen[e])
		}
	}
}
