package merkle

import (
	"fmt"
	"math"
	"math/rand/v2"
	"reflect"
	"slices"
	"strings"
	"testing"

	"nuncio/api"
	"nuncio/blake"
)

func random() *rand.Rand { return rand.New(rand.NewPCG(5, 6)) }

// some are n entries whose keys leave gaps everywhere.
func some(n int) []api.Entry {
	var l []api.Entry
	for i := range n {
		l = append(l, api.Entry{Key: fmt.Sprintf("k%04d", i), Value: fmt.Sprintf("v%d", i*i)})
	}
	return l
}

// pairs has an entry for each key with its value.
func pairs(texts ...string) []api.Entry {
	var l []api.Entry
	for i := 0; i < len(texts); i += 2 {
		l = append(l, api.Entry{Key: texts[i], Value: texts[i+1]})
	}
	return l
}

func keyed(keys ...string) []api.Entry {
	var l []api.Entry
	for _, k := range keys {
		l = append(l, api.Entry{Key: k})
	}
	return l
}

func plainLeaf(e api.Entry) api.Hash {
	b := []byte{0, byte(len(e.Key) / 256), byte(len(e.Key) % 256)}
	return blake.Sum([]byte(string(b) + e.Key + e.Value))
}

func plainNode(a, b api.Hash) api.Hash {
	return blake.Sum(slices.Concat([]byte{1}, a[:], b[:]))
}

func plainLeaves(l []api.Entry) []api.Hash {
	var hs []api.Hash
	for _, e := range l {
		hs = append(hs, plainLeaf(e))
	}
	return hs
}

// plainRoot joins whole trees of like size as they come, as a counter carries: no tree is parted.
func plainRoot(l []api.Entry) api.Hash {
	if len(l) == 0 {
		return blake.Sum(nil)
	}
	var stack []api.Hash
	join := func() {
		n := len(stack)
		stack = append(stack[:n-2], plainNode(stack[n-2], stack[n-1]))
	}
	for i, e := range l {
		stack = append(stack, plainLeaf(e))
		for n := i + 1; n%2 == 0; n /= 2 {
			join()
		}
	}
	for len(stack) > 1 {
		join()
	}
	return stack[0]
}

// plainWay is the document's sentence on the way of the i-th of some leaves.
func plainWay(i int, l []api.Entry) []api.Hash {
	n := len(l)
	if n == 1 {
		return nil
	}
	k := 1
	for k*2 < n {
		k *= 2
	}
	if i < k {
		return append(plainWay(i, l[:k]), plainRoot(l[k:]))
	}
	return append(plainWay(i-k, l[k:]), plainRoot(l[:k]))
}

func plainPart(i int, l []api.Entry) api.Part {
	return api.Part{Index: i, Entry: l[i], Path: plainWay(i, l)}
}

// plainProof looks at all entries.
func plainProof(l []api.Entry, key string) api.Proof {
	p := api.Proof{Size: len(l)}
	last, next := -1, -1
	for i, e := range l {
		switch {
		case e.Key == key:
			p.Parts = []api.Part{plainPart(i, l)}
			return p
		case e.Key < key:
			last = i
		case next < 0:
			next = i
		}
	}
	for _, i := range []int{last, next} {
		if i >= 0 {
			p.Parts = append(p.Parts, plainPart(i, l))
		}
	}
	return p
}

// alike tells whether two proofs say the same; lists without elements may be nil.
func alike(a, b api.Proof) bool {
	samePart := func(x, y api.Part) bool {
		return x.Index == y.Index && x.Entry == y.Entry && slices.Equal(x.Path, y.Path)
	}
	return a.Size == b.Size && slices.EqualFunc(a.Parts, b.Parts, samePart)
}

func copied(p api.Proof) api.Proof {
	p.Parts = slices.Clone(p.Parts)
	for i := range p.Parts {
		p.Parts[i].Path = slices.Clone(p.Parts[i].Path)
	}
	return p
}

// asked are keys at, between and around entries.
func asked(l []api.Entry) []string {
	keys := []string{"", "\x00", "zzz", "\xff\xff", strings.Repeat("k", api.MaxText+1)}
	for _, e := range l {
		keys = append(keys, e.Key, e.Key+"\x00", e.Key+"~")
		if n := len(e.Key); n > 0 {
			keys = append(keys, e.Key[:n-1], e.Key[:n-1]+string([]byte{e.Key[n-1] - 1, 0xff}))
		}
	}
	return keys
}

func valueOf(l []api.Entry, key string) (string, bool) {
	for _, e := range l {
		if e.Key == key {
			return e.Value, true
		}
	}
	return "", false
}

func rooted(t *testing.T, l []api.Entry) api.Hash {
	t.Helper()
	r, e := Root(l)
	if e != api.OK {
		t.Fatalf("Root of %d entries: %v", len(l), e)
	}
	return r
}

func proved(t *testing.T, l []api.Entry, key string) api.Proof {
	t.Helper()
	p, e := Prove(l, key)
	if e != api.OK {
		t.Fatalf("Prove of %d entries, %q: %v", len(l), key, e)
	}
	return p
}

// refused wants that a proof is none, and that nothing is told of the key.
func refused(t *testing.T, what string, root api.Hash, key string, p api.Proof) {
	t.Helper()
	if v, is, ok := Check(root, key, p); v != "" || is || ok {
		t.Errorf("%s: Check answered %q, %v, %v", what, v, is, ok)
	}
}

// accepted wants that a proof tells what the entries have.
func accepted(t *testing.T, what string, l []api.Entry, key string, p api.Proof) {
	t.Helper()
	wantValue, wantIs := valueOf(l, key)
	if v, is, ok := Check(plainRoot(l), key, p); v != wantValue || is != wantIs || !ok {
		t.Errorf("%s: Check answered %q, %v, %v; want %q, %v, true", what, v, is, ok, wantValue, wantIs)
	}
}

// TestRight: P5.1 (M1): what entries may be, and the same said by the errors of Root and Prove.
func TestRight(t *testing.T) {
	long := strings.Repeat("x", api.MaxText)
	for _, c := range []struct {
		what string
		l    []api.Entry
		want bool
	}{
		{"nil", nil, true},
		{"none", []api.Entry{}, true},
		{"an empty key and value", keyed(""), true},
		{"two", keyed("a", "b"), true},
		{"one begins with the other", keyed("a", "aa"), true},
		{"the longer one ahead", keyed("aa", "a"), false},
		{"an empty key behind", keyed("a", ""), false},
		{"falling", keyed("b", "a"), false},
		{"falling at the end", keyed("a", "b", "d", "c"), false},
		{"falling in the middle", keyed("a", "c", "b", "d"), false},
		{"twice", keyed("a", "a"), false},
		{"twice, unlike values", pairs("a", "1", "a", "2"), false},
		{"twice the empty key", keyed("", ""), false},
		{"not one above the other, but behind two", keyed("a", "c", "a"), false},
		{"values fall", pairs("a", "2", "b", "1"), true},
		{"a letter that is small behind a great one", keyed("Z", "a"), true},
		{"a great one behind a small one", keyed("a", "Z"), false},
		{"bytes, not signed", keyed("\x7f", "\x80", "\xff"), true},
		{"bytes that are no UTF-8", keyed("\xff", "\xff\x00", "\xff\xfe"), true},
		{"bytes, not runes", keyed("\uffff", "\U00010000"), true},
		{"a long key", keyed(long), true},
		{"a key too long", keyed(long + "x"), false},
		{"a long value", pairs("a", long), true},
		{"a value too long", pairs("a", long+"x"), false},
		{"a value too long, last", pairs("a", "", "b", long+"x"), false},
		{"a key too long, last", keyed("a", long+"x"), false},
		{"key and value long", pairs(long, long), true},
		{"length is of bytes", keyed(strings.Repeat("é", api.MaxText/2) + "x"), false},
		{"most", some(api.MaxEntries), true},
		{"one too many", some(api.MaxEntries + 1), false},
	} {
		wantErr := api.OK
		if !c.want {
			wantErr = api.ErrEntries
		}
		if got := Right(c.l); got != c.want {
			t.Errorf("%s: Right answered %v", c.what, got)
		}
		if h, e := Root(c.l); e != wantErr || e != api.OK && h != (api.Hash{}) {
			t.Errorf("%s: Root answered %v, %v", c.what, h, e)
		}
		if p, e := Prove(c.l, "a"); e != wantErr || e != api.OK && !alike(p, api.Proof{}) {
			t.Errorf("%s: Prove answered %v, %v", c.what, p, e)
		}
	}
}

// TestRootKnown: P5.1 (M1): roots that another implementation reckoned, with another library's digests.
func TestRootKnown(t *testing.T) {
	for _, c := range []struct {
		n    int
		want string
	}{
		{0, "69217a3079908094e11121d042354a7c1f55b6482ca1a51e1b250dfd1ed0eef9"},
		{1, "0dc610281d7b8fdca10ab152cd44566376acb2816b1ac0466f3709877c9da8ce"},
		{2, "a104da56b5bd1bb989dd864ae088e93e17bd0eb14dd58bda5945686050e3181d"},
		{3, "c19d09a2c9f25d0b8e42cf341088d821dc39ef52437b3d35541b90ef3d8af583"},
		{4, "7a71810ed1495f52cc6e988a6347bbbca5ec46aba0e3bd6462242ef574584bdc"},
		{5, "8d7eb3658e7b4dfe2016f64404f13b52467adb01b1f8fe369257690ca0ec501b"},
		{7, "453f42a57608206c3f62e719502131c29eec75491c5ed2a54a4b75ca0e0aebba"},
		{8, "8b58ec7fa57d4be7ff7a342789a2079b6709cef3446dd3bad93e1cd0e33d02a3"},
		{9, "427a729f7136d66a45b74e7a8e14981734208dfc02c88e15c9f241101cd1f948"},
		{64, "9aeec9368b705fa431c03a94542320e69c6668a827c1bd59fc06f58cec364303"},
		{65, "16f3504fa30abd1d0c01fcc21689b609ed10464ce25b7bb802660a4e55173a82"},
		{4095, "f7da83c694424fd13693b3d7610de2c34232aa8055907ee6715284ecc66676ef"},
		{4096, "4780b5b849d6714bfb1db16b27e68d350f49bf45d9d6044dbd29e51cb91293a1"},
	} {
		if got := blake.Text(rooted(t, some(c.n))); got != c.want {
			t.Errorf("%d: %s; want %s", c.n, got, c.want)
		}
	}
	long := pairs("", "", strings.Repeat("x", 300), strings.Repeat("y", 4096), strings.Repeat("x", 4096), "\xff")
	if got := blake.Text(rooted(t, long)); got != "1db87da4bf193697c2c5597ffb7e91ed2ee5e6c9713848bba53047e555d16c27" {
		t.Errorf("long texts: %s", got)
	}
}

// TestRoot: P5.1 (M1): the root is that of the trees joined from below, at all small sizes and around powers of two.
func TestRoot(t *testing.T) {
	sizes := []int{127, 128, 129, 1023, 1024, 1025, 2047, 2048, 2049, 3000, 4095, 4096}
	for n := range 70 {
		sizes = append(sizes, n)
	}
	for _, n := range sizes {
		if l := some(n); rooted(t, l) != plainRoot(l) {
			t.Errorf("%d entries: another root", n)
		}
	}
}

// TestRootTellsEntriesApart: P5.1 (M1): where a key ends and its value begins counts, as does each entry.
func TestRootTellsEntriesApart(t *testing.T) {
	a, b := plainLeaf(api.Entry{Key: "a"}), plainLeaf(api.Entry{Key: "b"})
	lists := [][]api.Entry{
		nil, keyed(""), keyed("a"), keyed("b"), keyed("ab"), pairs("a", "b"), pairs("", "ab"), keyed("a", "b"), keyed("a", "b", "c"),
		pairs("a", "b", "c", ""), pairs("a", "", "c", "b"), pairs("", string(a[:])+string(b[:])), pairs(string(a[:]), string(b[:])),
	}
	seen := map[api.Hash]int{}
	for i, l := range lists {
		r := rooted(t, l)
		if j, is := seen[r]; is {
			t.Errorf("%v and %v have one root", lists[j], l)
		}
		seen[r] = i
	}
}

// TestProveKnown: P5.1 (M2): a way that another implementation reckoned.
func TestProveKnown(t *testing.T) {
	p := proved(t, some(7), "k0004")
	if p.Size != 7 || len(p.Parts) != 1 || p.Parts[0].Index != 4 || p.Parts[0].Entry != (api.Entry{Key: "k0004", Value: "v16"}) {
		t.Fatalf("%v", p)
	}
	var way []string
	for _, h := range p.Parts[0].Path {
		way = append(way, blake.Text(h))
	}
	if want := []string{
		"07a24443adaa13b4f4fd14a7abbf4decd44d09e2427d7675311a092b0c373424",
		"15ac15e17c8dcb0e2f27afc82cb7e1b0c5cf26ff9e1c2ce67abe1502f76a38d7",
		"7a71810ed1495f52cc6e988a6347bbbca5ec46aba0e3bd6462242ef574584bdc",
	}; !slices.Equal(way, want) {
		t.Errorf("%v", way)
	}
}

// TestProve: P5.1 (M2) and P5.2: at all small sizes, for each key that is there and around it: the parts that the document names, and Check says of them what the entries have.
func TestProve(t *testing.T) {
	for n := range 34 {
		l := some(n)
		r := rooted(t, l)
		for _, key := range asked(l) {
			p := proved(t, l, key)
			if want := plainProof(l, key); !alike(p, want) {
				t.Errorf("%d entries, %q: %v; want %v", n, key, p, want)
			}
			wantValue, wantIs := valueOf(l, key)
			if v, is, ok := Check(r, key, p); v != wantValue || is != wantIs || !ok {
				t.Errorf("%d entries, %q: Check answered %q, %v, %v", n, key, v, is, ok)
			}
		}
	}
}

// TestProveGreat: P5.1 (M2) and P5.2 at the greatest size and the one below it.
func TestProveGreat(t *testing.T) {
	for _, n := range []int{api.MaxEntries - 1, api.MaxEntries} {
		l := some(n)
		for _, key := range []string{"", "k0000", "k0000x", "k2047", "k2047x", "k2048", "k4094", "k4094x", "k4095", "k4095x"} {
			p := proved(t, l, key)
			if !alike(p, plainProof(l, key)) {
				t.Errorf("%d entries, %q: another proof", n, key)
			}
			accepted(t, fmt.Sprintf("%d entries, %q", n, key), l, key, p)
		}
	}
}

// TestProveOddTexts: P5.2 with empty, long and broken texts, by chance.
func TestProveOddTexts(t *testing.T) {
	r := random()
	for range 200 {
		var keys []string
		for range r.IntN(20) {
			key := make([]byte, r.IntN(4))
			for i := range key {
				key[i] = byte([]int{0, 1, 0x7f, 0x80, 0xff}[r.IntN(5)])
			}
			keys = append(keys, string(key))
		}
		slices.Sort(keys)
		var l []api.Entry
		for _, key := range slices.Compact(keys) {
			l = append(l, api.Entry{Key: key, Value: strings.Repeat(key, r.IntN(100))})
		}
		for _, key := range asked(l) {
			p := proved(t, l, key)
			if !alike(p, plainProof(l, key)) {
				t.Fatalf("%v, %q: %v", l, key, p)
			}
			accepted(t, "odd texts", l, key, p)
		}
	}
}

// TestCheckEmptyTree: P5.1 (M3): of no leaves there is nothing to show.
func TestCheckEmptyTree(t *testing.T) {
	none := blake.Sum(nil)
	for _, key := range []string{"", "a", strings.Repeat("a", api.MaxText+1)} {
		accepted(t, "nothing", nil, key, api.Proof{})
		accepted(t, "nothing, a list of none", nil, key, api.Proof{Parts: []api.Part{}})
	}
	refused(t, "another root", api.Hash{}, "a", api.Proof{})
	refused(t, "the root of a leaf", plainRoot(keyed("a")), "b", api.Proof{})
	refused(t, "a size without parts", none, "a", api.Proof{Size: 1})
	refused(t, "a part without a size", none, "a", api.Proof{Parts: []api.Part{{}}})
	refused(t, "a leaf without a size", plainRoot(keyed("a")), "a", api.Proof{Parts: []api.Part{{Entry: api.Entry{Key: "a"}}}})
}

// TestCheckSizes: P5.1 (M3): the bounds of Size and of an Index.
func TestCheckSizes(t *testing.T) {
	l := some(6)
	r := plainRoot(l)
	for _, size := range []int{math.MinInt, -1, 0, 5, api.MaxEntries + 1, math.MaxInt} {
		p := plainProof(l, "k0005")
		p.Size = size
		refused(t, fmt.Sprintf("size %d", size), r, "k0005", p)
	}
	for _, index := range []int{math.MinInt, -6, -1, 0, 4, 6, 11, math.MaxInt} {
		p := plainProof(l, "k0005")
		p.Parts[0].Index = index
		refused(t, fmt.Sprintf("index %d", index), r, "k0005", p)
	}
	for _, size := range []int{math.MinInt, -1, 1, api.MaxEntries + 1, math.MaxInt} {
		refused(t, fmt.Sprintf("size %d of nothing", size), blake.Sum(nil), "a", api.Proof{Size: size})
	}
	big := some(api.MaxEntries + 1)
	for _, key := range []string{"", "k0000", "k4095", "k4095x", "k4096", "k4096x"} {
		refused(t, "a tree beyond the limit, "+key, plainRoot(big), key, plainProof(big, key))
	}
	alone := keyed("a")
	for _, index := range []int{-1, 1} {
		refused(t, "index of one leaf", plainRoot(alone), "a", api.Proof{Size: 1, Parts: []api.Part{{Index: index, Entry: alone[0]}}})
	}
}

// TestCheckLongTexts: P5.1 (M3): the texts of a part have their limit, though its way is right.
func TestCheckLongTexts(t *testing.T) {
	long := strings.Repeat("m", api.MaxText)
	for _, c := range []struct {
		what string
		e    api.Entry
		want bool
	}{
		{"a long key", api.Entry{Key: long}, true},
		{"a key too long", api.Entry{Key: long + "m"}, false},
		{"a long value", api.Entry{Key: "m", Value: long}, true},
		{"a value too long", api.Entry{Key: "m", Value: long + "m"}, false},
	} {
		l := []api.Entry{{Key: "a"}, c.e, {Key: "z"}}
		for _, key := range []string{c.e.Key, "c", "y"} {
			p := plainProof(l, key)
			if c.want {
				accepted(t, c.what, l, key, p)
			} else {
				refused(t, c.what, plainRoot(l), key, p)
			}
		}
		accepted(t, c.what+" is no neighbour", l, "", plainProof(l, ""))
	}
}

// TestCheckWays: P5.1 (M3): a way uses all its hashes, in their order and on their sides, and comes to the root.
func TestCheckWays(t *testing.T) {
	for n := 1; n < 20; n++ {
		l := some(n)
		r := plainRoot(l)
		for _, key := range asked(l) {
			right := plainProof(l, key)
			for i := range right.Parts {
				change := func(what string, f func(part *api.Part)) {
					t.Helper()
					p := copied(right)
					f(&p.Parts[i])
					refused(t, fmt.Sprintf("%d entries, %q, part %d: %s", n, key, i, what), r, key, p)
				}
				changeWay(change, len(right.Parts[i].Path))
				change("another key", func(part *api.Part) { part.Entry.Key += "!" })
				change("another value", func(part *api.Part) { part.Entry.Value += "!" })
				change("no value", func(part *api.Part) { part.Entry.Value = "" })
				change("the value on the key's side", func(part *api.Part) {
					part.Entry = api.Entry{Key: part.Entry.Key + part.Entry.Value}
				})
			}
			other := r
			other[31] ^= 1
			refused(t, "another root", other, key, right)
			refused(t, "no root", api.Hash{}, key, right)
		}
	}
}

func changeWay(change func(what string, f func(part *api.Part)), steps int) {
	change("a hash more at the root", func(part *api.Part) { part.Path = append(part.Path, api.Hash{}) })
	change("a hash more at the leaf", func(part *api.Part) { part.Path = slices.Insert(part.Path, 0, api.Hash{}) })
	change("the root as a hash more", func(part *api.Part) { part.Path = append(part.Path, blake.Sum(nil)) })
	if steps == 0 {
		return
	}
	change("no way", func(part *api.Part) { part.Path = nil })
	change("a hash less at the root", func(part *api.Part) { part.Path = part.Path[:steps-1] })
	change("a hash less at the leaf", func(part *api.Part) { part.Path = part.Path[1:] })
	for i := range steps {
		change("another bit", func(part *api.Part) { part.Path[i][i] ^= 0x80 })
	}
	if steps > 1 {
		change("turned round", func(part *api.Part) { slices.Reverse(part.Path) })
	}
}

// TestCheckIndexes: P5.1 (M3): an Index is of its leaf, and of no other one of the Size.
func TestCheckIndexes(t *testing.T) {
	for n := 1; n < 20; n++ {
		l := some(n)
		r := plainRoot(l)
		for i := range l {
			for j := -1; j <= n; j++ {
				p := api.Proof{Size: n, Parts: []api.Part{plainPart(i, l)}}
				p.Parts[0].Index = j
				if j != i {
					refused(t, fmt.Sprintf("%d of %d told as %d", i, n, j), r, l[i].Key, p)
				} else {
					accepted(t, fmt.Sprintf("%d of %d", i, n), l, l[i].Key, p)
				}
			}
		}
	}
}

// TestCheckWhatParts: P5.1 (M3): which parts, each with a right way, say something of a key: of all lists of up to three.
func TestCheckWhatParts(t *testing.T) {
	for n := range 6 {
		l := some(n)
		var lists [][]int
		lists = append(lists, nil)
		for i := range n {
			lists = append(lists, []int{i})
			for j := range n {
				lists = append(lists, []int{i, j})
				for k := range n {
					lists = append(lists, []int{i, j, k})
				}
			}
		}
		for _, list := range lists {
			p := api.Proof{Size: n}
			for _, i := range list {
				p.Parts = append(p.Parts, plainPart(i, l))
			}
			for _, key := range asked(l) {
				what := fmt.Sprintf("%d entries, %q, parts %v", n, key, list)
				if says(l, list, key) {
					accepted(t, what, l, key, p)
				} else {
					refused(t, what, plainRoot(l), key, p)
				}
			}
		}
	}
}

// says tells whether parts of these indexes are a proof of a key, by where the key would stand.
func says(l []api.Entry, list []int, key string) bool {
	if len(list) == 1 && l[list[0]].Key == key {
		return true
	}
	if _, is := valueOf(l, key); is {
		return false
	}
	place := 0
	for place < len(l) && l[place].Key < key {
		place++
	}
	var want []int
	for i := place - 1; i <= place; i++ {
		if i >= 0 && i < len(l) {
			want = append(want, i)
		}
	}
	return slices.Equal(list, want)
}

// TestCheckNeighbours: P5.1 (M3): two leaves that do not follow one another prove no gap, nor do entries out of order one that is none.
func TestCheckNeighbours(t *testing.T) {
	l := keyed("b", "d", "f", "h")
	r := plainRoot(l)
	two := func(i, j int) api.Proof {
		return api.Proof{Size: 4, Parts: []api.Part{plainPart(i, l), plainPart(j, l)}}
	}
	accepted(t, "neighbours", l, "e", two(1, 2))
	refused(t, "one between", r, "e", two(0, 2))
	refused(t, "one between, which is the key's", r, "d", two(0, 2))
	refused(t, "the greater one ahead", r, "e", two(2, 1))
	refused(t, "twice the same", r, "e", two(1, 1))
	refused(t, "below both", r, "c", two(1, 2))
	refused(t, "above both", r, "g", two(1, 2))
	refused(t, "the key is the first one's", r, "d", two(1, 2))
	refused(t, "the key is the second one's", r, "f", two(1, 2))
	refused(t, "the first and the last", r, "e", two(0, 3))
	refused(t, "the last and the first", r, "e", two(3, 0))
	refused(t, "no part", r, "e", api.Proof{Size: 4})

	wild := keyed("h", "d", "f", "b") // no tree that Root makes, but one that somebody may show
	q := func(key string, list ...int) api.Proof {
		p := api.Proof{Size: 4}
		for _, i := range list {
			p.Parts = append(p.Parts, plainPart(i, wild))
		}
		return p
	}
	r = plainRoot(wild)
	refused(t, "follow one another, but fall", r, "e", q("e", 0, 1))
	refused(t, "fall, the key above", r, "i", q("i", 0, 1))
	refused(t, "fall, the key below", r, "a", q("a", 0, 1))
}

// TestCheckForged: P5.3: of small trees, every single part that can be laid from what the tree has, with every Size, Index and way of up to three hashes, and all pairs of those that lead to the root: what is accepted is what the entries have.
func TestCheckForged(t *testing.T) {
	for n := 1; n <= 4; n++ {
		l := some(n)
		r := plainRoot(l)
		for size := range 7 {
			leading := leadingParts(l, r, size)
			for _, key := range asked(l) {
				forge(t, l, r, key, api.Proof{Size: size})
				for _, a := range leading {
					forge(t, l, r, key, api.Proof{Size: size, Parts: []api.Part{a}})
					for _, b := range leading {
						forge(t, l, r, key, api.Proof{Size: size, Parts: []api.Part{a, b}})
					}
				}
			}
		}
	}
}

// leadingParts are all that Check accepts alone, for the entry's own key.
func leadingParts(l []api.Entry, r api.Hash, size int) []api.Part {
	var parts []api.Part
	entries := slices.Clone(l)
	for i := range l[1:] { // a node's text can't be an entry's
		a, b := plainLeaf(l[i]), plainLeaf(l[i+1])
		entries = append(entries, api.Entry{Key: string(a[:]), Value: string(b[:])})
	}
	ways := allWays(l)
	for _, e := range entries {
		for index := -1; index <= size; index++ {
			for _, way := range ways {
				part := api.Part{Index: index, Entry: e, Path: way}
				if _, _, ok := Check(r, e.Key, api.Proof{Size: size, Parts: []api.Part{part}}); ok {
					parts = append(parts, part)
				}
			}
		}
	}
	return parts
}

// allWays are all of up to three of a tree's hashes.
func allWays(l []api.Entry) [][]api.Hash {
	hashes := []api.Hash{blake.Sum(nil)}
	for i := range l {
		for j := i + 1; j <= len(l); j++ {
			hashes = append(hashes, plainRoot(l[i:j]))
		}
	}
	ways := [][]api.Hash{nil}
	for from, steps := 0, 0; steps < 3; steps++ {
		end := len(ways)
		for _, way := range ways[from:end] {
			for _, h := range hashes {
				ways = append(ways, append(slices.Clone(way), h))
			}
		}
		from = end
	}
	return ways
}

func forge(t *testing.T, l []api.Entry, r api.Hash, key string, p api.Proof) {
	t.Helper()
	v, is, ok := Check(r, key, p)
	wantValue, wantIs := valueOf(l, key)
	if ok && (v != wantValue || is != wantIs) {
		t.Errorf("%d entries, %q: %v was accepted, and says %q, %v", len(l), key, p, v, is)
	}
	if !ok && (v != "" || is) {
		t.Errorf("%d entries, %q: no proof, but it says %q, %v", len(l), key, v, is)
	}
}

// TestCheckMixed: P5.3: proofs of bigger trees with numbers and hashes changed by chance never say what the entries have not.
func TestCheckMixed(t *testing.T) {
	r := random()
	l := some(37)
	root := plainRoot(l)
	keys := asked(l)
	for range 8000 {
		key := keys[r.IntN(len(keys))]
		p := copied(plainProof(l, keys[r.IntN(len(keys))]))
		for range r.IntN(3) {
			mix(r, l, &p)
		}
		forge(t, l, root, key, p)
	}
}

func mix(r *rand.Rand, l []api.Entry, p *api.Proof) {
	part := &p.Parts[r.IntN(len(p.Parts))]
	switch r.IntN(6) {
	case 0:
		p.Size = r.IntN(80) - 1
	case 1:
		part.Index += r.IntN(5) - 2
	case 2:
		part.Entry = l[r.IntN(len(l))]
	case 3:
		part.Path = plainWay(r.IntN(len(l)), l)
	case 4:
		p.Parts = append(p.Parts, plainPart(r.IntN(len(l)), l))
	case 5:
		slices.Reverse(p.Parts)
	}
}

// TestCheckOtherSize: P5.3: a root does not tell how many leaves it has; another Size may be accepted, but what it says is so.
func TestCheckOtherSize(t *testing.T) {
	l := some(3)
	p := plainProof(l, "k0002x")
	p.Size, p.Parts[0].Index = 2, 1 // the last leaf goes up by one step at 2 as at 3
	accepted(t, "the last one of three as of two", l, "k0002x", p)
	p = plainProof(l, "k0002")
	p.Size, p.Parts[0].Index = 2, 1
	accepted(t, "the last one of three as of two, its key", l, "k0002", p)
}

// TestHandedIn: rule 4: entries and proofs are neither written nor kept, nor what lies behind them, and no two ways of an answer share memory.
func TestHandedIn(t *testing.T) {
	whole := some(12)
	before := slices.Clone(whole)
	l := whole[:9]
	r := rooted(t, l)
	p := proved(t, l, "k0004x")
	want := copied(p)
	Right(l)
	Check(r, "k0004x", p)
	if !slices.Equal(whole, before) {
		t.Error("the entries were written")
	}
	if !reflect.DeepEqual(p, want) {
		t.Error("the proof was written")
	}
	l[4], l[5] = api.Entry{}, api.Entry{}
	if !alike(p, want) {
		t.Error("the entries were kept")
	}
	for i := range p.Parts {
		other := 1 - i
		held := slices.Clone(p.Parts[other].Path)
		_ = append(p.Parts[i].Path, api.Hash{1})
		clear(p.Parts[i].Path[:cap(p.Parts[i].Path)])
		if !slices.Equal(p.Parts[other].Path, held) {
			t.Error("two ways share memory")
		}
		p = copied(want)
	}
}

// TestCheckBehindWay: rule 4: what lies behind the end of a way or of the parts is not read.
func TestCheckBehindWay(t *testing.T) {
	l := some(6)
	p := plainProof(l, "k0001")
	p.Parts[0].Path = p.Parts[0].Path[:2]
	refused(t, "a hash lies behind the way's end", plainRoot(l), "k0001", p)
	p = plainProof(l, "k0001x")
	p.Parts = p.Parts[:1]
	refused(t, "a part lies behind the parts' end", plainRoot(l), "k0001x", p)
}

// TestAnswersAgain: P2: the same arguments have the same answers, whatever was asked between, and whatever became of the answers.
func TestAnswersAgain(t *testing.T) {
	l := some(21)
	r := rooted(t, l)
	for _, key := range asked(l) {
		first := proved(t, l, key)
		want := copied(first)
		for i := range first.Parts {
			clear(first.Parts[i].Path)
		}
		clear(first.Parts)
		rooted(t, some(5))
		if again := proved(t, l, key); !reflect.DeepEqual(again, want) || rooted(t, l) != r {
			t.Errorf("%q: another answer", key)
		}
		v, is, ok := Check(r, key, want)
		Check(api.Hash{}, key, first)
		if v2, is2, ok2 := Check(r, key, want); v != v2 || is != is2 || ok != ok2 {
			t.Errorf("%q: Check answers otherwise at the second time", key)
		}
	}
}

// TestCheckEnds: P1: long lists and ways end, and none panics.
func TestCheckEnds(t *testing.T) {
	l := some(4)
	r := plainRoot(l)
	p := plainProof(l, "k0001")
	p.Parts[0].Path = make([]api.Hash, 1<<16)
	refused(t, "a long way", r, "k0001", p)
	refused(t, "many parts", r, "k0001", api.Proof{Size: 4, Parts: make([]api.Part, 1<<16)})
	many := api.Proof{Size: 4, Parts: slices.Repeat([]api.Part{plainPart(1, l)}, 1<<10)}
	refused(t, "many right parts", r, "k0001", many)
}
