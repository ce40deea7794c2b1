package client_test

import (
	"math/rand/v2"
	"reflect"
	"slices"
	"strings"
	"testing"

	"nuncio/api"
	"nuncio/client"
	"nuncio/merkle"
)

// over is a client whose front, of height 1, has just these entries.
func over(t *testing.T, l []api.Entry) *client.Client {
	t.Helper()
	root := bent(block(1, api.Hash{}, always(0), always(0)), always, func(h *api.Header) { h.App = rootOf(l) })
	return begun(t, root, late, half())
}

// says: of a proof at a height Member and Absent tell just that.
func says(t *testing.T, name string, c *client.Client, height int, key, value string, p api.Proof, member, absent api.Errno) {
	t.Helper()
	if e := c.Member(height, key, value, p); e != member {
		t.Errorf("%s: Member of %q, %q at %d: %d, not %d", name, key, value, height, e, member)
	}
	if e := c.Absent(height, key, p); e != absent {
		t.Errorf("%s: Absent of %q at %d: %d, not %d", name, key, height, e, absent)
	}
}

func TestMember(t *testing.T) { // P19.1 (L3), T4
	l := []api.Entry{{Key: "", Value: "none"}, {Key: "b", Value: ""}, {Key: "d", Value: "1"}, {Key: "dd", Value: "d"}, {Key: "f\x00", Value: "\xff"}}
	for n := range len(l) + 1 {
		c := over(t, l[:n])
		for _, x := range l[:n] {
			p := proofOf(l[:n], x.Key)
			says(t, "its own", c, 1, x.Key, x.Value, p, api.OK, api.ErrProof)
			for _, value := range []string{x.Value + "1", "x" + x.Value, "1x", strings.Repeat("y", 1<<20)} {
				says(t, "another value", c, 1, x.Key, value, p, api.ErrProof, api.ErrProof)
			}
			if x.Value != "" {
				says(t, "no value", c, 1, x.Key, "", p, api.ErrProof, api.ErrProof)
			}
			says(t, "no proof", c, 1, x.Key, x.Value, api.Proof{}, api.ErrProof, api.ErrProof)
			for _, key := range []string{"a", "c", "de", "z", x.Key + "x"} {
				p, member := proofOf(l[:n], key), api.ErrProof
				// Beyond an end there is one neighbour: that proof is its own too.
				if len(p.Parts) == 1 && p.Parts[0].Entry.Key == x.Key {
					member = api.OK
				}
				says(t, "another one's neighbours", c, 1, x.Key, x.Value, p, member, api.ErrProof)
			}
		}
	}
}

func TestAbsent(t *testing.T) { // P19.1 (L3), T4
	l := []api.Entry{{Key: "b", Value: "0"}, {Key: "d", Value: ""}, {Key: "f", Value: "2"}, {Key: "h", Value: "3"}}
	for n := range len(l) + 1 {
		c := over(t, l[:n])
		for _, key := range []string{"", "a", "az", "c", "cc", "e", "g", "i", "\xff", strings.Repeat("z", 1<<20)} {
			p := proofOf(l[:n], key)
			for _, value := range []string{"", "0", "2"} {
				says(t, "its neighbours", c, 1, key, value, p, api.ErrProof, api.OK)
			}
			if n == 0 {
				continue
			}
			says(t, "no proof", c, 1, key, "", api.Proof{}, api.ErrProof, api.ErrProof)
			says(t, "another one's", c, 1, key, l[0].Value, proofOf(l[:n], "b"), api.ErrProof, absentBeside(key, n))
			if n >= 3 {
				p = api.Proof{Size: n, Parts: []api.Part{proofOf(l[:n], "b").Parts[0], proofOf(l[:n], "f").Parts[0]}}
				says(t, "neighbours that are none", c, 1, key, "", p, api.ErrProof, api.ErrProof)
			}
		}
	}
}

// absentBeside: the first of n entries, which has the key b, proves by itself that no key ahead of it is there; and if it is the only one, that none behind it is.
func absentBeside(key string, n int) api.Errno {
	if key < "b" || n == 1 && key > "b" {
		return api.OK
	}
	return api.ErrProof
}

// TestProofHeights: a proof holds at the heights that have its root, and at those alone.
func TestProofHeights(t *testing.T) { // P19.1 (L3), P19.2
	chain := chainOf(20, sliding)
	at := []int{3, 5, 6, 7, 9, 10}
	c := grown(t, chain, at...)
	for _, h := range askedHeights() {
		for of := range chain {
			for _, key := range []string{"k0", "k1", "k2", "k3", "k4", ""} {
				p := proofOf(state(of), key)
				value, is := has(state(of), key)
				member, absent := api.ErrRoot, api.ErrRoot
				if slices.Contains(at, h) {
					member, absent = api.ErrProof, api.ErrProof
					// The fifth and the tenth height have the same entries: none.
					if same := rootOf(state(h)) == rootOf(state(of)); same && is {
						member = api.OK
					} else if same {
						absent = api.OK
					}
				}
				says(t, "a height", c, h, key, value, p, member, absent)
			}
		}
	}
}

// TestProofErrors: that there is no root is told ahead of what is wrong with the proof.
func TestProofErrors(t *testing.T) { // P19.1 (L3), rule 1
	chain := chainOf(6, always)
	c := grown(t, chain, 1, 4)
	for _, p := range []api.Proof{{}, {Size: -1}, {Size: 1, Parts: make([]api.Part, 3)}, {Size: api.MaxEntries + 1}, proofOf(state(4), "k0")} {
		for _, h := range []int{-1, 0, 2, 3, 5, 6} {
			says(t, "no root", c, h, "k0", "4", p, api.ErrRoot, api.ErrRoot)
		}
	}
	for _, p := range []api.Proof{{}, {Size: -1}, {Size: 1, Parts: make([]api.Part, 3)}, {Size: api.MaxEntries + 1}} {
		says(t, "no proof", c, 4, "k0", "4", p, api.ErrProof, api.ErrProof)
		says(t, "no proof, no value", c, 4, "", "", p, api.ErrProof, api.ErrProof)
	}
	says(t, "a proof", c, 4, "k0", "4", proofOf(state(4), "k0"), api.OK, api.ErrProof)
}

// TestForgedState: entries of a block that was refused prove nothing.
func TestForgedState(t *testing.T) { // P19.2, T4
	chain := chainOf(6, always)
	c := grown(t, chain, 1, 4)
	forged := []api.Entry{{Key: "k0", Value: "all of it"}}
	lie := func(l api.Light, secrets ...uint64) api.Light {
		l.Header.App = rootOf(forged)
		l.Commit = commitOf(l.Header, 0, secrets...)
		return l
	}
	update(t, c, lie(chain[5], 1, 2), late, api.ErrCommit)
	update(t, c, lie(chain[6], 7, 8, 9), late, api.ErrCommit)
	update(t, c, lie(block(6, api.Hash{}, []uint64{7, 8}, always(0)), 7, 8), late, api.ErrTrust)
	update(t, c, lie(chain[4], 1, 2, 3, 4), late, api.ErrOrder)
	update(t, c, lie(chain[3], 1, 2, 3, 4), late, api.ErrOrder)
	blame(t, c, lie(chain[4], 1, 2), api.ErrMatch)
	for _, h := range askedHeights() {
		if e := c.Member(h, "k0", "all of it", proofOf(forged, "k0")); e == api.OK {
			t.Errorf("proved at %d", h)
		}
		if e := c.Absent(h, "k1", proofOf(forged, "k1")); e == api.OK {
			t.Errorf("proved to be absent at %d", h)
		}
	}
	shows(t, c, chain, 1, 4)
}

// TestAskingChanges: nothing, however often proofs and roots are asked for.
func TestAskingChanges(t *testing.T) { // P2, rule 3
	chain := chainOf(9, sliding)
	c := grown(t, chain, 1, 3)
	unchanged(t, c, "asking", func() {
		for range 3 {
			says(t, "again", c, 3, "k0", "3", proofOf(state(3), "k0"), api.OK, api.ErrProof)
			says(t, "again", c, 3, "x", "", proofOf(state(3), "x"), api.ErrProof, api.OK)
			says(t, "again", c, 2, "k0", "2", proofOf(state(2), "k0"), api.ErrRoot, api.ErrRoot)
			shows(t, c, chain, 1, 3)
		}
	})
	update(t, c, chain[2], late, api.ErrOrder)
	update(t, c, chain[5], late, api.OK)
}

// has is what entries have of a key.
func has(l []api.Entry, key string) (string, bool) {
	for _, e := range l {
		if e.Key == key {
			return e.Value, true
		}
	}
	return "", false
}

// anyEntries are some by rising keys.
func anyEntries(r *rand.Rand) []api.Entry {
	var l []api.Entry
	for _, key := range []string{"", "a", "aa", "b", "c", "e", "f", "ff"} {
		if r.IntN(2) == 0 {
			l = append(l, api.Entry{Key: key, Value: pick(r, "", "1", "2", "ok")})
		}
	}
	return l
}

// anyProof is one of these entries, or something like it.
func anyProof(r *rand.Rand, l []api.Entry, key string) api.Proof {
	p := proofOf(l, pick(r, key, key, key, "a", "f"))
	for i := range p.Parts {
		p.Parts[i].Path = slices.Clone(p.Parts[i].Path)
	}
	if r.IntN(3) > 0 {
		return p
	}
	switch n := len(p.Parts); {
	case r.IntN(4) == 0:
		p.Size += r.IntN(3) - 1
	case n == 0:
		p = proofOf([]api.Entry{{Key: key, Value: "1"}}, key)
	case r.IntN(2) == 0:
		p.Parts = pick(r, p.Parts[:n-1], p.Parts[1:], append(p.Parts, p.Parts[0]))
	default:
		part := &p.Parts[r.IntN(n)]
		part.Index += r.IntN(3) - 1
		part.Entry = api.Entry{Key: pick(r, part.Entry.Key, key), Value: pick(r, part.Entry.Value, "1")}
		if len(part.Path) > 0 && r.IntN(3) == 0 {
			part.Path[0][r.IntN(32)] ^= 1
		}
	}
	return p
}

// TestAnyProofs: what is told of any proof is what merkle says of it, and what the entries have; and the proof stays as it was.
func TestAnyProofs(t *testing.T) { // P19.1 (L3), T4, rule 4
	r := random()
	seen := map[[2]api.Errno]int{}
	for range 300 {
		l := anyEntries(r)
		c := over(t, l)
		for range 60 {
			key, value := pick(r, "", "a", "aa", "b", "bb", "c", "e", "f", "ff", "g"), pick(r, "", "1", "2", "ok")
			p := anyProof(r, l, key)
			before := copied(p)
			told, is, ok := merkle.Check(rootOf(l), key, p)
			member, absent := api.ErrProof, api.ErrProof
			if ok && is && told == value {
				member = api.OK
			}
			if ok && !is {
				absent = api.OK
			}
			says(t, "any", c, 1, key, value, p, member, absent)
			says(t, "any, where is no root", c, 2, key, value, p, api.ErrRoot, api.ErrRoot)
			really, there := has(l, key)
			if member == api.OK && (!there || really != value) || absent == api.OK && there {
				t.Fatalf("%v: told of %q that it has %q (%d) or nothing (%d)", l, key, value, member, absent)
			}
			if !reflect.DeepEqual(p, before) {
				t.Fatal("a proof was written into")
			}
			seen[[2]api.Errno{member, absent}]++
		}
	}
	for _, x := range [][2]api.Errno{{api.OK, api.ErrProof}, {api.ErrProof, api.OK}, {api.ErrProof, api.ErrProof}} {
		if seen[x] < 500 {
			t.Errorf("%v was told %d times", x, seen[x])
		}
	}
}

func copied(p api.Proof) api.Proof {
	p.Parts = slices.Clone(p.Parts)
	for i := range p.Parts {
		p.Parts[i].Path = slices.Clone(p.Parts[i].Path)
	}
	return p
}
