package forms_test

import (
	"bytes"
	"encoding/hex"
	"math"
	"math/rand/v2"
	"strings"
	"testing"

	"nuncio/api"
	"nuncio/blake"
	"nuncio/forms"
)

// form is one of the seven things: its two calls, its bytes as the document has them, and one that is right.
type form[T any] struct {
	what   string
	encode func(T) ([]byte, api.Errno)
	decode func([]byte) (T, api.Errno)
	bytes  func(T) []byte
	one    func() T
}

func votes() form[api.Vote] {
	return form[api.Vote]{"a vote", forms.EncodeVote, forms.DecodeVote, plainVote, aVote}
}

func headers() form[api.Header] {
	return form[api.Header]{"a header", forms.EncodeHeader, forms.DecodeHeader, plainHeader, aHeader}
}

func sets() form[[]api.Validator] {
	return form[[]api.Validator]{"validators", forms.EncodeSet, forms.DecodeSet, plainSet, func() []api.Validator { return someSet(3) }}
}

func commits() form[api.Commit] {
	return form[api.Commit]{"a commit", forms.EncodeCommit, forms.DecodeCommit, plainCommit, aCommit}
}

func lights() form[api.Light] {
	return form[api.Light]{"a light block", forms.EncodeLight, forms.DecodeLight, plainLight, aLight}
}

func packets() form[api.Packet] {
	return form[api.Packet]{"a packet", forms.EncodePacket, forms.DecodePacket, plainPacket, aPacket}
}

func proofs() form[api.Proof] {
	return form[api.Proof]{"a proof", forms.EncodeProof, forms.DecodeProof, plainProof, aProof}
}

// short is the start of bytes, for telling.
func short(b []byte) string {
	if len(b) > 150 {
		return hex.EncodeToString(b[:150]) + ".."
	}
	return hex.EncodeToString(b)
}

// holds: b is the bytes of x, both ways. Where the plain bytes of two things are one, they are one (but for lists that are nil or without elements).
func (f form[T]) holds(t *testing.T, x T, b []byte) {
	t.Helper()
	if got, e := f.encode(x); !bytes.Equal(got, b) || e != api.OK {
		t.Errorf("%s encoded: %s, %d; not %s", f.what, short(got), e, short(b))
	}
	back, e := f.decode(b)
	if e != api.OK || !bytes.Equal(f.bytes(back), f.bytes(x)) {
		t.Errorf("%s decoded of %s: %d, %s", f.what, short(b), e, short(f.bytes(back)))
	}
}

// refuses: b is the bytes of nothing that is right.
func (f form[T]) refuses(t *testing.T, b []byte) {
	t.Helper()
	var nothing T
	if back, e := f.decode(b); e != api.ErrForm || !bytes.Equal(f.bytes(back), f.bytes(nothing)) {
		t.Errorf("%s decoded of %s: %d, %s", f.what, short(b), e, short(f.bytes(back)))
	}
}

func (f form[T]) allHold(t *testing.T, l []T) {
	t.Helper()
	for _, x := range append(l, f.one()) {
		f.holds(t, x, f.bytes(x))
	}
}

func (f form[T]) allRefused(t *testing.T, l []T) {
	t.Helper()
	for _, x := range l {
		if b, e := f.encode(x); len(b) != 0 || e != api.ErrForm {
			t.Errorf("%s encoded that is not right: %d bytes, %d; plainly %s", f.what, len(b), e, short(f.bytes(x)))
		}
		f.refuses(t, f.bytes(x))
	}
}

func joined(l ...string) []byte {
	b, err := hex.DecodeString(strings.Join(l, ""))
	if err != nil {
		panic(err)
	}
	return b
}

func filled(n byte) api.Hash { return api.Hash(bytes.Repeat([]byte{n}, 32)) }

func ofBytes(two string) string { return strings.Repeat(two, 32) }

// TestBytesWrittenOut has the bytes as figures, without the program and without the plain writer.
func TestBytesWrittenOut(t *testing.T) { // P6.1 (F1)
	header := api.Header{Chain: "abc", Height: 7, Time: 1000, Last: filled(0x11), Set: filled(0x22), Next: filled(0x33), Data: filled(0x44), App: filled(0x55)}
	headerBytes := "0000000000000002" + "0003616263" + "0000000000000007" + "00000000000003e8" + ofBytes("11") + ofBytes("22") + ofBytes("33") + ofBytes("44") + ofBytes("55")
	set := []api.Validator{{Key: 5, Power: 10}, {Key: math.MaxUint64, Power: -3}}
	setBytes := "0000000000000003" + "0000000000000002" + "0000000000000005" + "000000000000000a" + "ffffffffffffffff" + "fffffffffffffffd"
	commit := api.Commit{Height: 8, Round: 2, Block: filled(0x66), Seals: []api.Seal{{Key: 1, Sig: api.Sig{R: 2, S: 3}}}}
	commitBytes := "0000000000000004" + "0000000000000008" + "0000000000000002" + ofBytes("66") + "0000000000000001" + "0000000000000001" + "0000000000000002" + "0000000000000003"

	vote := api.Vote{Chain: "xy", Height: 258, Round: 3, Type: api.Precommit, Block: filled(0xab), Key: 0x0102030405060708, Sig: api.Sig{R: 0x0a, S: 0x0b}}
	votes().holds(t, vote, joined("0000000000000001", "00027879", "0000000000000102", "0000000000000003", "0000000000000002", ofBytes("ab"), "0102030405060708", "000000000000000a", "000000000000000b"))
	headers().holds(t, header, joined(headerBytes))
	sets().holds(t, set, joined(setBytes))
	sets().holds(t, nil, joined("0000000000000003", "0000000000000000"))
	commits().holds(t, commit, joined(commitBytes))
	lights().holds(t, api.Light{Header: header, Commit: commit, Set: set}, joined("0000000000000005", headerBytes, commitBytes, setBytes, "0000000000000003", "0000000000000000"))
	lights().holds(t, api.Light{Header: header, Commit: commit, Next: set}, joined("0000000000000005", headerBytes, commitBytes, "0000000000000003", "0000000000000000", setBytes))
	packets().holds(t, api.Packet{Seq: 4, From: "pq", Data: "\x00\xff", Timeout: 5}, joined("0000000000000006", "0000000000000004", "00027071", "000200ff", "0000000000000005"))
	proofs().holds(t, api.Proof{Size: 3, Parts: []api.Part{{Index: 1, Entry: api.Entry{Key: "k", Value: "vw"}, Path: []api.Hash{filled(0x77), filled(0x88)}}, {Index: 2}}},
		joined("0000000000000007", "0000000000000003", "0000000000000002", "0000000000000001", "00016b", "00027677", "0000000000000002", ofBytes("77"), ofBytes("88"),
			"0000000000000002", "0000", "0000", "0000000000000000"))
}

func TestRightOnes(t *testing.T) { // P6.1 (F1), P6.2
	votes().allHold(t, rightVotes())
	headers().allHold(t, rightHeaders())
	sets().allHold(t, rightSets())
	commits().allHold(t, rightCommits())
	lights().allHold(t, rightLights())
	packets().allHold(t, rightPackets())
	proofs().allHold(t, rightProofs())
}

func TestWrongOnes(t *testing.T) { // P6.1 (F1)
	votes().allRefused(t, wrongVotes())
	headers().allRefused(t, wrongHeaders())
	sets().allRefused(t, wrongSets())
	commits().allRefused(t, wrongCommits())
	lights().allRefused(t, wrongLights())
	packets().allRefused(t, wrongPackets())
	proofs().allRefused(t, wrongProofs())
}

// partly: bytes that are missing, bytes that are too many, and other numbers ahead are nothing.
func (f form[T]) partly(t *testing.T) {
	t.Helper()
	b := f.bytes(f.one())
	for n := range b {
		f.refuses(t, b[:n])
		f.refuses(t, b[n+1:])
	}
	for _, more := range [][]byte{{0}, {0xff}, make([]byte, 8), make([]byte, 5000), b} {
		f.refuses(t, append(bytes.Clone(b), more...))
		f.refuses(t, append(bytes.Clone(more), b...))
	}
	f.refuses(t, nil)
	f.refuses(t, []byte{})
	own := int(b[7])
	for _, n := range []int{-1, 0, 1, 2, 3, 4, 5, 6, 7, 8, 9, own + 256, own + 1<<32, own + 1<<56, -own, math.MaxInt, math.MinInt} {
		if n != own {
			f.refuses(t, append(plain{}.number(n), b[8:]...))
		}
	}
}

func TestPartly(t *testing.T) { // P6.1 (F1), P6.2
	votes().partly(t)
	headers().partly(t)
	sets().partly(t)
	commits().partly(t)
	lights().partly(t)
	packets().partly(t)
	proofs().partly(t)
}

// others: the bytes of other things are nothing, even where their fields are alike.
func (f form[T]) others(t *testing.T, all [][]byte) {
	t.Helper()
	own := f.bytes(f.one())
	for _, b := range all {
		if b[7] != own[7] {
			f.refuses(t, b)
		}
	}
}

func TestOtherThings(t *testing.T) { // P6.1 (F1)
	all := [][]byte{plainVote(aVote()), plainHeader(aHeader()), plainSet(nil), plainSet(someSet(3)), plainCommit(aCommit()), plainLight(aLight()), plainPacket(aPacket()), plainProof(aProof()), plainProof(api.Proof{})}
	votes().others(t, all)
	headers().others(t, all)
	sets().others(t, all)
	commits().others(t, all)
	lights().others(t, all)
	packets().others(t, all)
	proofs().others(t, all)
}

// TestLightParts: each part of a light block has its own number, and only that.
func TestLightParts(t *testing.T) { // P6.1 (F1)
	header, commit, set, next := plainHeader(aHeader()), plainCommit(aCommit()), plainSet(someSet(3)), plainSet(someSet(2))
	all := func(l ...[]byte) []byte { return append(plain{}.number(5), bytes.Join(l, nil)...) }
	lights().holds(t, aLight(), all(header, commit, set, next))
	for at, part := range [][]byte{header, commit, set, next} {
		for n := -1; n < 9; n++ {
			if n == int(part[7]) {
				continue
			}
			l := [][]byte{header, commit, set, next}
			l[at] = append(plain{}.number(n), part[8:]...)
			lights().refuses(t, all(l...))
			l[at] = part[8:]
			lights().refuses(t, all(l...))
		}
	}
	lights().refuses(t, all(header, commit, set))
	lights().refuses(t, all(header, commit, set, next, next))
	lights().refuses(t, all(header, set, commit, next))
	lights().refuses(t, all(commit, header, set, next))
}

// lies are counts that are not how many elements there are.
func lies(there int) []int {
	return []int{-1, -there, there - 1, there + 1, math.MinInt, math.MaxInt, 17, 65, api.MaxValidators + there, 256 + there, 1<<32 + there, 1<<40 + there}
}

func TestCountsThatLie(t *testing.T) { // P6.1 (F1)
	set, commit, proof := plainSet(someSet(3)), plainCommit(aCommit()), plainProof(aProof())
	light := plain{}.number(5)
	light = append(append(light, plainHeader(aHeader())...), commit...)
	recount := func(b []byte, at, n int) []byte {
		return append(plain(bytes.Clone(b[:at])).number(n), b[at+8:]...)
	}
	for _, n := range lies(3) {
		sets().refuses(t, recount(set, 8, n))
		lights().refuses(t, append(append(bytes.Clone(light), recount(set, 8, n)...), set...))
		lights().refuses(t, append(append(bytes.Clone(light), set...), recount(set, 8, n)...))
	}
	sets().refuses(t, recount(set, 8, 0))
	for _, n := range append(lies(2), 0) {
		commits().refuses(t, recount(commit, 3*8+32, n))
		proofs().refuses(t, recount(proof, 2*8, n))
	}
	pathAt := 4*8 + 2*3 // behind Size, how many parts, Index, and two texts of a byte
	for _, n := range append(lies(1), 2) {
		proofs().refuses(t, recount(proof, pathAt, n))
	}
	proofs().holds(t, aProof(), recount(proof, pathAt, 1))
	commits().holds(t, aCommit(), recount(commit, 3*8+32, 2))
}

func TestLengthsThatLie(t *testing.T) { // P6.1 (F1)
	p := aPacket()
	for _, n := range []int{0, 3, 5, 6, 257, api.MaxText, api.MaxText + 1, 1<<16 - 1} {
		b := append(plain{}.number(6, p.Seq).text(p.From), byte(n>>8), byte(n))
		packets().refuses(t, append(b, plain(p.Data).number(p.Timeout)...))
	}
}

// changed: whatever bytes are decoded are those of what they are decoded as.
func (f form[T]) changed(t *testing.T) {
	t.Helper()
	b := f.bytes(f.one())
	for i := range b {
		for bit := range 8 {
			c := bytes.Clone(b)
			c[i] ^= 1 << bit
			f.oneWay(t, c)
		}
	}
}

// oneWay tells whether b is decoded: then as what has these bytes; else there is nothing.
func (f form[T]) oneWay(t *testing.T, b []byte) bool {
	t.Helper()
	x, e := f.decode(b)
	if e != api.OK {
		f.refuses(t, b)
		return false
	}
	f.holds(t, x, b)
	return true
}

func TestChangedBytes(t *testing.T) { // P6.2
	votes().changed(t)
	headers().changed(t)
	sets().changed(t)
	commits().changed(t)
	lights().changed(t)
	packets().changed(t)
	proofs().changed(t)
}

// chance makes things that are right.
type chance struct{ *rand.Rand }

func (r chance) name() string { return strings.Repeat(string(rune('a'+r.IntN(26))), 1+r.IntN(16)) }

func (r chance) word() uint64 { return r.Uint64() >> r.IntN(64) }

func (r chance) text(most int) string {
	b := make([]byte, r.IntN(most+1)>>r.IntN(12))
	for i := range b {
		b[i] = byte(r.Uint32())
	}
	return string(b)
}

func (r chance) hash() (h api.Hash) {
	for i := range h {
		h[i] = byte(r.Uint32())
	}
	return h
}

func (r chance) sig() api.Sig { return api.Sig{R: r.word(), S: r.word()} }

func (r chance) height() int { return 1 + r.IntN(api.MaxHeight>>r.IntN(40)) }

func (r chance) round() int { return r.IntN(api.MaxRound + 1) }

func some[T any](r chance, most int, one func() T) []T {
	l := make([]T, r.IntN(most+1))
	for i := range l {
		l[i] = one()
	}
	return l
}

func (r chance) vote() api.Vote {
	return api.Vote{Chain: r.name(), Height: r.height(), Round: r.round(), Type: api.VoteType(1 + r.IntN(2)), Block: r.hash(), Key: r.word(), Sig: r.sig()}
}

func (r chance) header() api.Header {
	return api.Header{Chain: r.name(), Height: r.height(), Time: r.height() - 1, Last: r.hash(), Set: r.hash(), Next: r.hash(), Data: r.hash(), App: r.hash()}
}

func (r chance) set() []api.Validator {
	return some(r, api.MaxValidators, func() api.Validator { return api.Validator{Key: r.word(), Power: int(r.Uint64()) >> r.IntN(64)} })
}

func (r chance) commit() api.Commit {
	return api.Commit{Height: r.height(), Round: r.round(), Block: r.hash(), Seals: some(r, api.MaxValidators, func() api.Seal { return api.Seal{Key: r.word(), Sig: r.sig()} })}
}

func (r chance) light() api.Light {
	return api.Light{Header: r.header(), Commit: r.commit(), Set: r.set(), Next: r.set()}
}

func (r chance) packet() api.Packet {
	return api.Packet{Seq: r.height(), From: r.name(), Data: r.text(api.MaxData), Timeout: r.height()}
}

func (r chance) part() api.Part {
	return api.Part{Index: r.IntN(api.MaxEntries + 1), Entry: api.Entry{Key: r.text(api.MaxText), Value: r.text(api.MaxText)}, Path: some(r, 16, r.hash)}
}

func (r chance) proof() api.Proof {
	return api.Proof{Size: r.IntN(api.MaxEntries + 1), Parts: some(r, 2, r.part)}
}

func TestThereAndBackByChance(t *testing.T) { // P6.2
	r := chance{random()}
	for range 300 {
		for _, f := range []func(){
			func() { x := r.vote(); votes().holds(t, x, plainVote(x)) },
			func() { x := r.header(); headers().holds(t, x, plainHeader(x)) },
			func() { x := r.set(); sets().holds(t, x, plainSet(x)) },
			func() { x := r.commit(); commits().holds(t, x, plainCommit(x)) },
			func() { x := r.light(); lights().holds(t, x, plainLight(x)) },
			func() { x := r.packet(); packets().holds(t, x, plainPacket(x)) },
			func() { x := r.proof(); proofs().holds(t, x, plainProof(x)) },
		} {
			f()
		}
	}
}

// TestAnyBytes holds P1 and P2 too: no call panics, and what is answered is the same again.
func TestAnyBytes(t *testing.T) { // P6.2
	r := chance{random()}
	decoded := 0
	for range 3000 {
		b := append(plain{}.number(1+r.IntN(7)), r.text(300)...)
		if r.IntN(2) == 0 {
			all := [][]byte{plainVote(r.vote()), plainHeader(r.header()), plainSet(r.set()), plainCommit(r.commit()), plainLight(r.light()), plainPacket(r.packet()), plainProof(r.proof())}
			b = all[r.IntN(len(all))]
			b[r.IntN(len(b))] = byte(r.Uint32())
		}
		for _, is := range []bool{
			votes().oneWay(t, b), headers().oneWay(t, b), sets().oneWay(t, b), commits().oneWay(t, b), lights().oneWay(t, b), packets().oneWay(t, b), proofs().oneWay(t, b),
		} {
			if is {
				decoded++
			}
		}
	}
	if decoded < 300 {
		t.Errorf("only %d were decoded", decoded)
	}
}

func TestSignBytes(t *testing.T) { // P6.1 (F2)
	v := api.Vote{Chain: "xy", Height: 258, Round: 3, Type: api.Precommit, Block: filled(0xab), Key: 9, Sig: api.Sig{R: 10, S: 11}}
	want := joined("0000000000000001", "00027879", "0000000000000102", "0000000000000003", "0000000000000002", ofBytes("ab"), "0000000000000000", "0000000000000000", "0000000000000000")
	if b, e := forms.SignBytes(v); !bytes.Equal(b, want) || e != api.OK {
		t.Errorf("SignBytes: %s, %d", short(b), e)
	}
	for _, v := range rightVotes() {
		b, e := forms.SignBytes(v)
		v.Key, v.Sig = 0, api.Sig{}
		if !bytes.Equal(b, plainVote(v)) || e != api.OK {
			t.Errorf("SignBytes of %+v: %s, %d", v, short(b), e)
		}
	}
	for _, v := range wrongVotes() {
		for _, sig := range []api.Sig{v.Sig, {}} {
			v.Sig = sig
			if b, e := forms.SignBytes(v); len(b) != 0 || e != api.ErrForm {
				t.Errorf("SignBytes of a vote that is not right: %d bytes, %d; plainly %s", len(b), e, short(plainVote(v)))
			}
		}
	}
}

// few makes votes of which many are alike.
func (r chance) few() api.Vote {
	v := aVote()
	v.Chain = []string{"a", "aa", "b"}[r.IntN(3)]
	v.Height, v.Round, v.Type = 1+r.IntN(2), r.IntN(2), api.VoteType(1+r.IntN(2))
	v.Block = []api.Hash{{}, {31: 1}}[r.IntN(2)]
	v.Key, v.Sig = r.Uint64N(3), api.Sig{R: r.Uint64N(2), S: r.Uint64N(2)}
	return v
}

func TestWhatIsSigned(t *testing.T) { // P6.3
	r := chance{random()}
	l := rightVotes()
	for range 300 {
		l = append(l, r.few())
	}
	signed := make([][]byte, len(l))
	for i, v := range l {
		b, e := forms.SignBytes(v)
		if e != api.OK {
			t.Fatalf("SignBytes of %+v: %d", v, e)
		}
		signed[i] = b
	}
	plainly := func(v api.Vote) api.Vote {
		v.Key, v.Sig = 0, api.Sig{}
		return v
	}
	for i := range l {
		for j := range l {
			if bytes.Equal(signed[i], signed[j]) != (plainly(l[i]) == plainly(l[j])) {
				t.Errorf("SignBytes of %+v and of %+v: %s, %s", l[i], l[j], short(signed[i]), short(signed[j]))
			}
		}
	}
}

// TestHashesKnown has digests that another implementation made.
func TestHashesKnown(t *testing.T) { // P6.1 (F2)
	for want, h := range map[string]api.Header{
		"002cc65b3e1f8aca7c5d73516b4903988e8387f8e93e24af4fcc0f5a42880e72": {Chain: "abc", Height: 7, Time: 1000, Last: filled(0x11), Set: filled(0x22), Next: filled(0x33), Data: filled(0x44), App: filled(0x55)},
		"ecb592b084a6940ca59eb038ad738bdb76931658306e1b537e02d09d9bc43746": {Chain: "z", Height: 1},
	} {
		if got, e := forms.HeaderHash(h); blake.Text(got) != want || e != api.OK {
			t.Errorf("HeaderHash of %+v: %s, %d", h, blake.Text(got), e)
		}
	}
	for want, l := range map[string][]api.Validator{
		"1c111100bbb8b18ea7c37baf8199dc622a91ae2ac83075931fd46593f0df24a5": {{Key: 5, Power: 10}, {Key: math.MaxUint64, Power: -3}},
		"de20f05887a530106a3e7f1c426985f9ef0e6a064233b6276456dabfb9781481": nil,
	} {
		if got, e := forms.SetHash(l); blake.Text(got) != want || e != api.OK {
			t.Errorf("SetHash of %v: %s, %d", l, blake.Text(got), e)
		}
	}
}

func TestHashes(t *testing.T) { // P6.1 (F2)
	for _, h := range rightHeaders() {
		if got, e := forms.HeaderHash(h); got != blake.Join(2, plainHeader(h)) || e != api.OK {
			t.Errorf("HeaderHash of %+v: %s, %d", h, blake.Text(got), e)
		}
	}
	for _, h := range wrongHeaders() {
		if got, e := forms.HeaderHash(h); got != (api.Hash{}) || e != api.ErrForm {
			t.Errorf("HeaderHash of a header that is not right: %s, %d; plainly %s", blake.Text(got), e, short(plainHeader(h)))
		}
	}
	for _, l := range rightSets() {
		if got, e := forms.SetHash(l); got != blake.Join(3, plainSet(l)) || e != api.OK {
			t.Errorf("SetHash of %v: %s, %d", l, blake.Text(got), e)
		}
	}
	for _, l := range wrongSets() {
		if got, e := forms.SetHash(l); got != (api.Hash{}) || e != api.ErrForm {
			t.Errorf("SetHash of %d validators: %s, %d", len(l), blake.Text(got), e)
		}
	}
}

// spoil writes into all of a list's memory, behind its length too.
func spoil[T any](l []T, with T) {
	l = l[:cap(l)]
	for i := range l {
		l[i] = with
	}
}

// apart: no answer shares memory with what was handed in, or with another answer.
func (f form[T]) apart(t *testing.T, spoilIt func(T)) {
	t.Helper()
	want := f.bytes(f.one())
	b := bytes.Clone(want)
	one, _ := f.decode(b)
	spoil(b, 0xee)
	if !bytes.Equal(f.bytes(one), want) {
		t.Errorf("%s shares memory with the bytes that it came from", f.what)
	}
	b = append(make([]byte, 0, len(want)+9), want...)
	two, _ := f.decode(b)
	spoilIt(one)
	if !bytes.Equal(f.bytes(two), want) {
		t.Errorf("%s shares memory with another answer", f.what)
	}
	if !bytes.Equal(b, want) || !bytes.Equal(b[len(b):cap(b)], make([]byte, cap(b)-len(b))) {
		t.Errorf("%s: what was decoded is written into", f.what)
	}
	x := f.one()
	first, _ := f.encode(x)
	second, _ := f.encode(x)
	spoil(first, 0xee)
	if !bytes.Equal(second, want) || !bytes.Equal(f.bytes(x), want) {
		t.Errorf("%s: bytes share memory", f.what)
	}
}

func TestAnswersAreNew(t *testing.T) { // rule 4
	seal, validator := api.Seal{Key: 0xee}, api.Validator{Key: 0xee}
	votes().apart(t, func(api.Vote) {})
	headers().apart(t, func(api.Header) {})
	packets().apart(t, func(api.Packet) {})
	sets().apart(t, func(l []api.Validator) { spoil(l, validator) })
	commits().apart(t, func(c api.Commit) { spoil(c.Seals, seal) })
	lights().apart(t, func(l api.Light) {
		next := plainSet(l.Next)
		spoil(l.Set, validator)
		if !bytes.Equal(plainSet(l.Next), next) {
			t.Error("a light block's Set and Next share memory")
		}
		spoil(l.Next, validator)
		spoil(l.Commit.Seals, seal)
	})
	proofs().apart(t, func(p api.Proof) {
		path := bytes.Clone(plain{}.hash(p.Parts[1].Path...))
		spoil(p.Parts[0].Path, filled(0xee))
		if !bytes.Equal(plain{}.hash(p.Parts[1].Path...), path) {
			t.Error("two parts' paths share memory")
		}
		spoil(p.Parts[1].Path, filled(0xee))
		spoil(p.Parts, api.Part{})
	})
}

// room is a list with some more behind its length.
func room[T any](l []T, behind T) []T {
	return append(l[:len(l):len(l)], behind, behind, behind)[:len(l)]
}

func stays[T comparable](t *testing.T, what string, l []T, want []T, behind T) {
	t.Helper()
	for i, x := range l[:len(l)+3] {
		if i < len(want) && x != want[i] || i >= len(want) && x != behind {
			t.Errorf("%s: at %d stands %v", what, i, x)
		}
	}
}

func TestHandedInStays(t *testing.T) { // rule 4
	validator, seal := api.Validator{Key: 77, Power: 78}, api.Seal{Key: 79}
	for _, n := range []int{0, 3, api.MaxValidators, api.MaxValidators + 1} {
		set, next, seals := room(someSet(n), validator), room(someSet(n), validator), room(someSeals(n), seal)
		c := api.Commit{Height: 1, Seals: seals}
		forms.EncodeSet(set)
		forms.SetHash(set)
		forms.EncodeCommit(c)
		forms.EncodeLight(api.Light{Header: aHeader(), Commit: c, Set: set, Next: next})
		stays(t, "Set", set, someSet(n), validator)
		stays(t, "Next", next, someSet(n), validator)
		stays(t, "Seals", seals, someSeals(n), seal)
	}
	for _, n := range []int{0, 1, 16, 17} {
		path := room(somePath(n), filled(7))
		p := api.Proof{Size: 1, Parts: room([]api.Part{{Index: 1, Path: path}}, api.Part{Index: 1 << 20})}
		forms.EncodeProof(p)
		stays(t, "Path", path, somePath(n), filled(7))
		if part := p.Parts[:2][1]; part.Index != 1<<20 || p.Parts[0].Index != 1 || len(p.Parts[0].Path) != n {
			t.Errorf("Parts: %v", p.Parts)
		}
	}
}

// TestBehindTheLength: what lies behind a list's length counts for nothing.
func TestBehindTheLength(t *testing.T) { // rule 4
	sets().holds(t, room(someSet(2), api.Validator{Key: 1}), plainSet(someSet(2)))
	c := aCommit()
	c.Seals = room(c.Seals, api.Seal{Key: 1})
	commits().holds(t, c, plainCommit(aCommit()))
	p := aProof()
	p.Parts = room(p.Parts, api.Part{Index: -1})
	p.Parts[1].Path = room(p.Parts[1].Path, filled(3))
	proofs().holds(t, p, plainProof(aProof()))
	b := append(plainVote(aVote()), 0)
	votes().holds(t, aVote(), b[:len(b)-1])
}
