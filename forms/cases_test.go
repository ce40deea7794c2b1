package forms_test

import (
	"math"
	"math/rand/v2"
	"slices"
	"strings"

	"nuncio/api"
)

func random() *rand.Rand { return rand.New(rand.NewPCG(6, 7)) }

// rising is a hash whose bytes are all unlike, and none of them like those of another start near by.
func rising(start byte) api.Hash {
	var h api.Hash
	for i := range h {
		h[i] = start + byte(i)
	}
	return h
}

// varied are things that differ from one by a change each.
func varied[T any](one func() T, changes []func(*T)) []T {
	var l []T
	for _, change := range changes {
		x := one()
		change(&x)
		l = append(l, x)
	}
	return l
}

// each is a change for each of some values.
func each[T, V any](set func(*T, V), values []V) []func(*T) {
	var l []func(*T)
	for _, v := range values {
		l = append(l, func(x *T) { set(x, v) })
	}
	return l
}

var (
	names    = []string{"a", "z", "m", "az", "abcdefghijklmnop", "qrstuvwxyz", "zzzzzzzzzzzzzzzz", "aaaaaaaaaaaaaaa"}
	nameless = []string{
		"", "A", "Z", "aB", "`", "{", "a`", "{a", "@", "[", "0", "a1", "a-b", "a/b", "a b", " ", "a ", "\x00", "a\x00", "\x00a", "\xe9", "\u00e9", "a\u0301", "abcdefg\xffhijk",
		"abcdefghijklmnopq", "aaaaaaaaaaaaaaaaaaaaaaaaaaaaaaaa", strings.Repeat("a", 256), strings.Repeat("a", 257), strings.Repeat("a", api.MaxText), strings.Repeat("a", api.MaxText+1), strings.Repeat("a", 1<<16+1),
	}
	words = []uint64{0, 1, 2, 255, 256, 1<<61 - 1, 1 << 63, 1<<63 - 1, math.MaxUint64, 0x0102030405060708}
)

// within are numbers from least to most, at the edges; beyond are such as are not.
func within(least, most int) []int {
	return []int{least, least + 1, least + 255, least + (most-least)/2, most - 1, most}
}

func beyond(least, most int) []int {
	return []int{least - 1, least - 2, -1, -most, math.MinInt, math.MinInt + least, most + 1, most + 2, 2 * most, most + 1<<32, most + 1<<48, math.MaxInt}
}

func aVote() api.Vote {
	return api.Vote{Chain: "chain", Height: 300, Round: 7, Type: api.Prevote, Block: rising(1), Key: 0x1122334455667788, Sig: api.Sig{R: 17, S: 18}}
}

func voteHeight(v *api.Vote, n int)       { v.Height = n }
func voteRound(v *api.Vote, n int)        { v.Round = n }
func voteType(v *api.Vote, n int)         { v.Type = api.VoteType(n) }
func voteChain(v *api.Vote, s string)     { v.Chain = s }
func voteBlock(v *api.Vote, h api.Hash)   { v.Block = h }
func voteKey(v *api.Vote, n uint64)       { v.Key = n }
func voteR(v *api.Vote, n uint64)         { v.Sig.R = n }
func voteS(v *api.Vote, n uint64)         { v.Sig.S = n }
func headerChain(h *api.Header, s string) { h.Chain = s }
func headerHeight(h *api.Header, n int)   { h.Height = n }
func headerTime(h *api.Header, n int)     { h.Time = n }

func rightVotes() []api.Vote {
	return varied(aVote, slices.Concat(
		each(voteChain, names), each(voteHeight, within(1, api.MaxHeight)), each(voteRound, within(0, api.MaxRound)),
		each(voteType, []int{1, 2}), each(voteBlock, []api.Hash{{}, rising(200), {31: 1}, {0: 1}}), each(voteKey, words), each(voteR, words), each(voteS, words)))
}

func wrongVotes() []api.Vote {
	return append(varied(aVote, slices.Concat(
		each(voteChain, nameless), each(voteHeight, append(beyond(1, api.MaxHeight), 0)), each(voteRound, beyond(0, api.MaxRound)),
		each(voteType, append(beyond(1, 2), 0, 256+1, 1<<32+1, 1<<32+2)))), api.Vote{})
}

func aHeader() api.Header {
	return api.Header{Chain: "header", Height: 12, Time: 5000, Last: rising(1), Set: rising(41), Next: rising(81), Data: rising(121), App: rising(161)}
}

func headerHashes() []func(*api.Header) {
	var l []func(*api.Header)
	for _, h := range []api.Hash{{}, rising(210), {31: 1}} {
		l = append(l,
			func(x *api.Header) { x.Last = h }, func(x *api.Header) { x.Set = h }, func(x *api.Header) { x.Next = h },
			func(x *api.Header) { x.Data = h }, func(x *api.Header) { x.App = h })
	}
	return l
}

func rightHeaders() []api.Header {
	return append(varied(aHeader, slices.Concat(
		each(headerChain, names), each(headerHeight, within(1, api.MaxHeight)), each(headerTime, within(0, api.MaxHeight)), headerHashes())),
		api.Header{Chain: "z", Height: 1})
}

func wrongHeaders() []api.Header {
	return append(varied(aHeader, slices.Concat(
		each(headerChain, nameless), each(headerHeight, append(beyond(1, api.MaxHeight), 0)), each(headerTime, beyond(0, api.MaxHeight)))), api.Header{})
}

// someSet has n validators, of whom layer 7 would not take all.
func someSet(n int) []api.Validator {
	l := make([]api.Validator, n)
	for i := range l {
		l[i] = api.Validator{Key: uint64(1000 - i), Power: 5 - i}
	}
	return l
}

func rightSets() [][]api.Validator {
	l := [][]api.Validator{nil, {}, {{}}, {{}, {}}, {{Key: 1, Power: 2}, {Key: 1, Power: 3}}, someSet(3), someSet(api.MaxValidators - 1), someSet(api.MaxValidators)}
	for _, n := range words {
		l = append(l, []api.Validator{{Key: 3, Power: 1}, {Key: n, Power: 4}}, []api.Validator{{Key: 7, Power: int(n)}, {Key: 8, Power: -int(n)}})
	}
	return append(l, []api.Validator{{Power: math.MinInt}, {Power: math.MaxInt}, {Power: api.MaxPower + 1}, {Power: -1}})
}

func wrongSets() [][]api.Validator {
	return [][]api.Validator{someSet(api.MaxValidators + 1), someSet(api.MaxValidators + 2), someSet(2 * api.MaxValidators), someSet(256), someSet(257), someSet(1 << 16)}
}

func someSeals(n int) []api.Seal {
	l := make([]api.Seal, n)
	for i := range l {
		l[i] = api.Seal{Key: uint64(900 - i), Sig: api.Sig{R: uint64(i), S: uint64(1<<40 + i)}}
	}
	return l
}

func aCommit() api.Commit {
	return api.Commit{Height: 301, Round: 3, Block: rising(9), Seals: someSeals(2)}
}

func commitHeight(c *api.Commit, n int)         { c.Height = n }
func commitRound(c *api.Commit, n int)          { c.Round = n }
func commitBlock(c *api.Commit, h api.Hash)     { c.Block = h }
func commitSeals(c *api.Commit, l []api.Seal)   { c.Seals = l }
func packetSeq(p *api.Packet, n int)            { p.Seq = n }
func packetFrom(p *api.Packet, s string)        { p.From = s }
func packetData(p *api.Packet, s string)        { p.Data = s }
func packetTimeout(p *api.Packet, n int)        { p.Timeout = n }
func proofSize(p *api.Proof, n int)             { p.Size = n }
func proofIndex(p *api.Proof, n int)            { p.Parts[1].Index = n }
func proofKey(p *api.Proof, s string)           { p.Parts[1].Entry.Key = s }
func proofValue(p *api.Proof, s string)         { p.Parts[1].Entry.Value = s }
func proofPath(p *api.Proof, l []api.Hash)      { p.Parts[1].Path = l }
func proofFirst(p *api.Proof, first api.Part)   { p.Parts[0] = first }
func proofParts(p *api.Proof, parts []api.Part) { p.Parts = parts }

func rightCommits() []api.Commit {
	seals := [][]api.Seal{nil, {}, {{}}, {{Key: 5}, {Key: 5}}, someSeals(1), someSeals(api.MaxValidators - 1), someSeals(api.MaxValidators)}
	for _, n := range words {
		seals = append(seals, []api.Seal{{Key: n}, {Sig: api.Sig{R: n}}, {Sig: api.Sig{S: n}}})
	}
	return varied(aCommit, slices.Concat(
		each(commitHeight, within(1, api.MaxHeight)), each(commitRound, within(0, api.MaxRound)),
		each(commitBlock, []api.Hash{{}, rising(200)}), each(commitSeals, seals)))
}

func wrongCommits() []api.Commit {
	seals := [][]api.Seal{someSeals(api.MaxValidators + 1), someSeals(api.MaxValidators + 2), someSeals(256), someSeals(1 << 16)}
	return append(varied(aCommit, slices.Concat(
		each(commitHeight, append(beyond(1, api.MaxHeight), 0)), each(commitRound, beyond(0, api.MaxRound)), each(commitSeals, seals))), api.Commit{})
}

func aLight() api.Light {
	return api.Light{Header: aHeader(), Commit: aCommit(), Set: someSet(3), Next: someSet(2)}
}

func lightHeader(l *api.Light, h api.Header)      { l.Header = h }
func lightCommit(l *api.Light, c api.Commit)      { l.Commit = c }
func lightSet(l *api.Light, set []api.Validator)  { l.Set = set }
func lightNext(l *api.Light, set []api.Validator) { l.Next = set }

func rightLights() []api.Light {
	return varied(aLight, slices.Concat(
		each(lightHeader, rightHeaders()), each(lightCommit, rightCommits()), each(lightSet, rightSets()), each(lightNext, rightSets())))
}

func wrongLights() []api.Light {
	return append(varied(aLight, slices.Concat(
		each(lightHeader, wrongHeaders()), each(lightCommit, wrongCommits()), each(lightSet, wrongSets()), each(lightNext, wrongSets()))), api.Light{})
}

func aPacket() api.Packet {
	return api.Packet{Seq: 3, From: "sender", Data: "coin", Timeout: 20}
}

func rightPackets() []api.Packet {
	data := []string{"", "\x00", "\xff\xfe", "a\x00b", "\u00e9\u4e16", strings.Repeat("d", api.MaxData-1), strings.Repeat("d", api.MaxData)}
	return varied(aPacket, slices.Concat(
		each(packetSeq, within(1, api.MaxHeight)), each(packetFrom, names), each(packetData, data), each(packetTimeout, within(1, api.MaxHeight))))
}

func wrongPackets() []api.Packet {
	data := []string{strings.Repeat("d", api.MaxData+1), strings.Repeat("d", 2*api.MaxData), strings.Repeat("d", api.MaxText), strings.Repeat("d", api.MaxText+1), strings.Repeat("d", 1<<16)}
	return append(varied(aPacket, slices.Concat(
		each(packetSeq, append(beyond(1, api.MaxHeight), 0)), each(packetFrom, nameless), each(packetData, data), each(packetTimeout, append(beyond(1, api.MaxHeight), 0)))), api.Packet{})
}

func somePath(n int) []api.Hash {
	l := make([]api.Hash, n)
	for i := range l {
		l[i] = rising(byte(7 * i))
	}
	return l
}

func aPart() api.Part {
	return api.Part{Index: 4, Entry: api.Entry{Key: "key", Value: "value"}, Path: somePath(2)}
}

func aProof() api.Proof {
	return api.Proof{Size: 9, Parts: []api.Part{{Index: 5, Entry: api.Entry{Key: "k", Value: "v"}, Path: somePath(1)}, aPart()}}
}

func rightProofs() []api.Proof {
	texts := []string{"", "\x00", "\xff", "a/b", strings.Repeat("t", api.MaxText-1), strings.Repeat("t", api.MaxText)}
	paths := [][]api.Hash{nil, {}, {{}}, somePath(15), somePath(16)}
	parts := [][]api.Part{nil, {}, {{}}, {aPart()}, {{}, {}}, {aPart(), aPart()}}
	return append(varied(aProof, slices.Concat(
		each(proofSize, within(0, api.MaxEntries)), each(proofIndex, within(0, api.MaxEntries)), each(proofKey, texts), each(proofValue, texts),
		each(proofPath, paths), each(proofParts, parts))), api.Proof{}, api.Proof{Size: api.MaxEntries})
}

func wrongProofs() []api.Proof {
	texts := []string{strings.Repeat("t", api.MaxText+1), strings.Repeat("t", 2*api.MaxText), strings.Repeat("t", 1<<16-1), strings.Repeat("t", 1<<16), strings.Repeat("t", 1<<16+5)}
	paths := [][]api.Hash{somePath(17), somePath(18), somePath(32), somePath(256 + 2)}
	parts := [][]api.Part{{{}, {}, {}}, {aPart(), aPart(), aPart()}, make([]api.Part, 256), make([]api.Part, 1<<16+1)}
	firsts := varied(aPart, slices.Concat(
		each(func(p *api.Part, n int) { p.Index = n }, beyond(0, api.MaxEntries)), each(func(p *api.Part, s string) { p.Entry.Key = s }, texts),
		each(func(p *api.Part, s string) { p.Entry.Value = s }, texts), each(func(p *api.Part, l []api.Hash) { p.Path = l }, paths)))
	return varied(aProof, slices.Concat(
		each(proofSize, beyond(0, api.MaxEntries)), each(proofIndex, beyond(0, api.MaxEntries)), each(proofKey, texts), each(proofValue, texts),
		each(proofPath, paths), each(proofParts, parts), each(proofFirst, firsts)))
}
