package blake

import (
	"bytes"
	"encoding/hex"
	"math/big"
	"math/rand/v2"
	"strings"
	"testing"

	"nuncio/api"
)

func random() *rand.Rand { return rand.New(rand.NewPCG(5, 6)) }

// pattern are n bytes without a period of a block or less.
func pattern(n int) []byte {
	b := make([]byte, n)
	for i := range b {
		b[i] = byte(7*i + 13*(i>>8) + 3)
	}
	return b
}

func randomBytes(r *rand.Rand, n int) []byte {
	b := make([]byte, n)
	for i := range b {
		b[i] = byte(r.Uint32())
	}
	return b
}

// plainRoots are reckoned: a square root times 2^32, without its whole part.
func plainRoots() []uint32 {
	var l []uint32
	for _, prime := range []int64{2, 3, 5, 7, 11, 13, 17, 19} {
		n := new(big.Int).Lsh(big.NewInt(prime), 64)
		l = append(l, uint32(n.Sqrt(n).Uint64()))
	}
	return l
}

var plainOrders = strings.Fields("0123456789abcdef ea489fd61c02b753 b8c052fdae367194 7931dcbe265a40f8 905724afe1bc683d 2c6a0b834d75fe19 c51fed4a0763928b db7ec13950f4862a 6fe9b308c2d714a5 a2847615fb9e3cd0")

var plainPlaces = [][4]int{{0, 4, 8, 12}, {1, 5, 9, 13}, {2, 6, 10, 14}, {3, 7, 11, 15}, {0, 5, 10, 15}, {1, 6, 11, 12}, {2, 7, 8, 13}, {3, 4, 9, 14}}

func plainTurn(w uint32, by int) uint32 { return w>>by | w<<(32-by) }

// plainBlock is B1 of one block, word by word.
func plainBlock(h []uint32, block []byte, taken uint64, last bool) {
	v := append(append([]uint32{}, h...), plainRoots()...)
	v[12] ^= uint32(taken % (1 << 32))
	v[13] ^= uint32(taken / (1 << 32))
	if last {
		v[14] = ^v[14]
	}
	for _, order := range plainOrders {
		for i, p := range plainPlaces {
			for half, by := range [][2]int{{16, 12}, {8, 7}} {
				at := 4 * strings.IndexByte("0123456789abcdef", order[2*i+half])
				word := uint32(block[at]) + uint32(block[at+1])*256 + uint32(block[at+2])*65536 + uint32(block[at+3])*16777216
				v[p[0]] += v[p[1]] + word
				v[p[3]] = plainTurn(v[p[3]]^v[p[0]], by[0])
				v[p[2]] += v[p[3]]
				v[p[1]] = plainTurn(v[p[1]]^v[p[2]], by[1])
			}
		}
	}
	for i := range h {
		h[i] ^= v[i] ^ v[i+8]
	}
}

// plain is B1, written out beside the program; ahead are bytes that are taken as counted already.
func plain(b []byte, ahead uint64) api.Hash {
	h := plainRoots()
	h[0] ^= 0x01010020
	at := 0
	for ; len(b)-at > 64; at += 64 {
		plainBlock(h, b[at:at+64], ahead+uint64(at)+64, false)
	}
	block := make([]byte, 64)
	copy(block, b[at:])
	plainBlock(h, block, ahead+uint64(len(b)), true)
	var d api.Hash
	for i := range d {
		d[i] = byte(h[i/4] >> (8 * (i % 4)))
	}
	return d
}

// inPieces is the digest of b, written in pieces of the lengths that size answers.
func inPieces(b []byte, size func() int) api.Hash {
	s := New()
	for len(b) > 0 {
		n := min(size(), len(b))
		s.Write(b[:n])
		b = b[n:]
	}
	return s.Sum()
}

func TestKnownDigests(t *testing.T) { // P3.1 (B1)
	for _, c := range []struct {
		b    []byte
		want string
	}{
		{nil, "69217a3079908094e11121d042354a7c1f55b6482ca1a51e1b250dfd1ed0eef9"},
		{[]byte{}, "69217a3079908094e11121d042354a7c1f55b6482ca1a51e1b250dfd1ed0eef9"},
		{[]byte("abc"), "508c5e8c327c14e2e1a72ba34eeb452f37458b209ed63a294d999b4c86675982"},
		{[]byte("The quick brown fox jumps over the lazy dog"), "606beeec743ccbeff6cbcdf5d5302aa855c256c29b88c8ed331ea1a6bf3c8812"},
		{bytes.Repeat([]byte("a"), 1000000), "bec0c0e6cde5b67acb73b81f79a67a4079ae1c60dac9d2661af18e9f8b50dfa5"},
		{pattern(1), "a28ac19d6bcbe2cd1d7de183485768d598e996b07889b9b11f418cb1b4a4fb0d"},
		{pattern(2), "7003138ee5c7d153bfd79e9ce6c76f5bfa17c23abe2ae017f24e4d7854f80939"},
		{pattern(3), "ca943acca89a34cf4040cf8ea24147dd94ea62a49de8ef9a88af5272339927b3"},
		{pattern(4), "939e42fdbf9188e4782dbe91677ce6654f74f9e561975332838c211683811e5a"},
		{pattern(55), "691697264a9ff7f6f5605335fc509f137845246ce7169d30fbf71574102ffb63"},
		{pattern(63), "de27df0e375d83c49f1af9ca8270f9f2fe7b70bf800fc01672db0e9746021ebf"},
		{pattern(64), "5377e4ff957bda4d4535f4879876b71a61056c4cec31e78397c66ec47a86a130"},
		{pattern(65), "19b1b26fba093f4a670d8913e1b71cbb2916dfa701018cc6b05785c966593374"},
		{pattern(127), "6846f99493436241d0a6f289c9a911b1d0f4860db8f2b5df5295ffd37d03a3c4"},
		{pattern(128), "83470c75afa23d90cd7659906e4b47daa278131fbb225241dd37a40fd5355ac7"},
		{pattern(129), "26fd8892ab0a5f12d4acbff1efd7dcd92b99e2d377f888f07e3cb81b232b11cf"},
		{pattern(256), "080c6da49f3ef891dfbf1abdfe224490e30afbad3a24e4e689fd13e4a13de241"},
		{pattern(4096), "f0b31e26402677db478bd5c9adb456ef53f39b09358a12f2427fb7bed6116b23"},
		{pattern(65536), "75aa183cbceec9f9d19cd38a7fe7a59e86e6a455c1cca6f48430753e7345fd2e"},
		{make([]byte, 1), "e34d74dbaf4ff4c6abd871cc220451d2ea2648846c7757fbaac82fe51ad64bea"},
		{make([]byte, 63), "d962856f3fcfaac80a84722012c38da68cce6b924a397d5a3db009babefdee61"},
		{make([]byte, 64), "ae09db7cd54f42b490ef09b6bc541af688e4959bb8c53f359a6f56e38ab454a3"},
		{make([]byte, 65), "857328bf990b00922782d3e81c6054c25d3375d386c7424abe3e01d79041046c"},
		{bytes.Repeat([]byte{255}, 64), "ee92d9d765aac654bc062ea8e24456bb1a73c86643bdac7ec4ff2efd81721063"},
		{bytes.Repeat([]byte{255}, 65), "2cdc288f2a3d1a134cfcf796f235c13931f9b01b43074e052f98d5012a603ad6"},
	} {
		h := Sum(c.b)
		if got := hex.EncodeToString(h[:]); got != c.want {
			t.Errorf("Sum of %d bytes: %s", len(c.b), got)
		}
		if got := Text(h); got != c.want {
			t.Errorf("Text of %d bytes' Sum: %s", len(c.b), got)
		}
	}
}

// TestDigestOfDigests: all lengths up to sixteen blocks, in one known digest.
func TestDigestOfDigests(t *testing.T) { // P3.1 (B1, B2)
	all := New()
	for n := range 1025 {
		h := Sum(pattern(n))
		all.Write(h[:])
	}
	if got := Text(all.Sum()); got != "5548c1ac52d0e63ed11cf3e6f8e41cce80758854107b3a703a05186aa1d1a0be" {
		t.Errorf("the digest of all: %s", got)
	}
}

func TestSumIsWrittenOut(t *testing.T) { // P3.1 (B1)
	r := random()
	for n := range 300 {
		b := randomBytes(r, n)
		if got := Sum(b); got != plain(b, 0) {
			t.Errorf("Sum of %x: %s", b, Text(got))
		}
	}
}

// TestCountHasTwoWords: so many bytes that a word does not hold their number are not written here: the state is told of them.
func TestCountHasTwoWords(t *testing.T) { // P3.1 (B1)
	r := random()
	for _, ahead := range []uint64{64, 1<<31 - 64, 1<<31 - 1, 1 << 31, 1<<32 - 128, 1<<32 - 64, 1<<32 - 1, 1 << 32, 1<<32 + 64, 0x0102030405060708, 1<<63 - 64, 1 << 63} {
		for _, n := range []int{0, 1, 63, 64, 65, 127, 128, 129, 200} {
			b := randomBytes(r, n)
			s := New()
			s.taken = ahead
			s.Write(b)
			if got := s.Sum(); got != plain(b, ahead) {
				t.Errorf("%d bytes behind %d: %s", n, ahead, Text(got))
			}
		}
	}
}

// TestNoughtsCount: what fills the last block up is not what was written.
func TestNoughtsCount(t *testing.T) { // P3.1 (B1)
	seen := map[api.Hash]int{}
	for n := range 260 {
		h := Sum(make([]byte, n))
		if other, is := seen[h]; is {
			t.Errorf("%d noughts and %d have one digest", other, n)
		}
		seen[h] = n
	}
}

func TestEachBitCounts(t *testing.T) { // P3.1 (B1)
	for _, n := range []int{1, 64, 130} {
		b := pattern(n)
		seen := map[api.Hash]bool{Sum(b): true}
		for i := range b {
			for bit := range 8 {
				b[i] ^= 1 << bit
				h := Sum(b)
				if seen[h] {
					t.Errorf("of %d bytes, bit %d of byte %d counts for nothing", n, bit, i)
				}
				seen[h] = true
				b[i] ^= 1 << bit
			}
		}
	}
}

func TestNewHasNoBytes(t *testing.T) { // P3.1 (B2)
	s := New()
	s.Write(pattern(100))
	for range 2 {
		if New().Sum() != Sum(nil) {
			t.Errorf("Sum of New: %s", Text(New().Sum()))
		}
	}
	for _, none := range [][]byte{nil, {}, []byte("more")[:0]} {
		s := New()
		s.Write(none)
		s.Write(none)
		if got := s.Sum(); got != Sum(nil) {
			t.Errorf("Sum of no bytes, written: %s", Text(got))
		}
	}
}

func TestTwoPieces(t *testing.T) { // P3.2
	for _, n := range []int{1, 2, 63, 64, 65, 127, 128, 129, 192, 200, 256} {
		b := pattern(n)
		want := Sum(b)
		for cut := range n + 1 {
			s := New()
			s.Write(b[:cut])
			s.Write(b[cut:])
			if got := s.Sum(); got != want {
				t.Errorf("%d bytes, cut at %d: %s", n, cut, Text(got))
			}
		}
	}
}

func TestEvenPieces(t *testing.T) { // P3.2
	for _, n := range []int{1, 63, 64, 65, 128, 129, 640, 1000} {
		b := pattern(n)
		want := Sum(b)
		for size := 1; size <= n; size++ {
			if got := inPieces(b, func() int { return size }); got != want {
				t.Errorf("%d bytes in pieces of %d: %s", n, size, Text(got))
			}
		}
	}
}

func TestAnyPieces(t *testing.T) { // P3.2
	r := random()
	for range 500 {
		b := randomBytes(r, r.IntN(1500))
		most := 1 + r.IntN(300)
		if got := inPieces(b, func() int { return r.IntN(most + 1) }); got != plain(b, 0) {
			t.Fatalf("%d bytes in pieces of at most %d: %s", len(b), most, Text(got))
		}
	}
}

// TestSumLeavesTheState: asked at every byte, more than once, the state goes on as if it had not been.
func TestSumLeavesTheState(t *testing.T) { // P3.1 (B2)
	b := pattern(300)
	s := New()
	for n := range len(b) {
		for range 2 {
			if got := s.Sum(); got != Sum(b[:n]) {
				t.Fatalf("Sum so far, of %d bytes: %s", n, Text(got))
			}
		}
		s.Write(b[n : n+1])
	}
	if got := s.Sum(); got != Sum(b) {
		t.Errorf("Sum: %s", Text(got))
	}
}

// TestOldBytesAreGone: a block that is filled anew has nothing left of the one ahead where it is not full.
func TestOldBytesAreGone(t *testing.T) { // P3.1 (B1, B2)
	for n := 65; n < 128; n++ {
		b := bytes.Repeat([]byte{255}, n)
		s := New()
		s.Write(b)
		if got := s.Sum(); got != plain(b, 0) {
			t.Errorf("%d bytes: %s", n, Text(got))
		}
		s.Write(b)
		if got := s.Sum(); got != plain(append(b, b...), 0) {
			t.Errorf("twice %d bytes: %s", n, Text(got))
		}
	}
}

func TestStatesAreApart(t *testing.T) { // P2
	one, two := New(), New()
	for i := range 200 {
		one.Write([]byte{byte(i)})
		two.Write([]byte{byte(2 * i), 9})
	}
	var a, b []byte
	for i := range 200 {
		a, b = append(a, byte(i)), append(b, byte(2*i), 9)
	}
	if one.Sum() != Sum(a) || two.Sum() != Sum(b) {
		t.Errorf("two states by turns: %s, %s", Text(one.Sum()), Text(two.Sum()))
	}
}

func TestNilState(t *testing.T) { // P3.1 (B2)
	var s *State
	for range 2 {
		if h := s.Sum(); h != (api.Hash{}) {
			t.Errorf("Sum: %s", Text(h))
		}
		s.Write(nil)
		s.Write(pattern(200))
	}
	if New().Sum() != Sum(nil) {
		t.Error("what a nil state was written is New's")
	}
}

func TestBytesAreNotKept(t *testing.T) { // rule 4
	for _, n := range []int{1, 63, 64, 65, 200} {
		b := pattern(n)
		s := New()
		s.Write(b)
		if !bytes.Equal(b, pattern(n)) {
			t.Errorf("what was handed in was written into: %x", b)
		}
		clear(b)
		s.Sum()
		if !bytes.Equal(b, make([]byte, n)) {
			t.Errorf("what was handed in was written into: %x", b)
		}
		if got := s.Sum(); got != Sum(pattern(n)) {
			t.Errorf("%d bytes, changed behind Write: %s", n, Text(got))
		}
	}
}

func TestBeyondTheLength(t *testing.T) { // rule 4
	for n := range 130 {
		memory := pattern(400)
		h := plain(pattern(n), 0)
		if Sum(memory[:n]) != h {
			t.Errorf("Sum of %d bytes hangs on what lies behind them", n)
		}
		s := New()
		s.Write(memory[:n])
		if s.Sum() != h {
			t.Errorf("Write of %d bytes takes what lies behind them", n)
		}
		if Join(1, memory[:n]) != plain(append([]byte{1}, pattern(n)...), 0) {
			t.Errorf("Join of %d bytes takes what lies behind them", n)
		}
		if !bytes.Equal(memory, pattern(400)) {
			t.Fatalf("what was handed in was written into, at %d bytes", n)
		}
	}
}

func TestJoin(t *testing.T) { // P3.1 (B3)
	for tag := range 256 {
		for _, parts := range [][]string{nil, {""}, {"", ""}, {"a"}, {"a", "bc"}, {"ab", "c"}, {"", "abc", ""}, {"b", "a"}, {strings.Repeat("x", 63)}, {strings.Repeat("x", 64), "y"}, {strings.Repeat("x", 127), strings.Repeat("y", 300), "z"}} {
			var l [][]byte
			for _, p := range parts {
				l = append(l, []byte(p))
			}
			whole := []byte(string([]byte{byte(tag)}) + strings.Join(parts, ""))
			if got := Join(byte(tag), l...); got != Sum(whole) {
				t.Errorf("Join of %d and %q: %s", tag, parts, Text(got))
			}
		}
	}
	for want, got := range map[string]api.Hash{
		"e34d74dbaf4ff4c6abd871cc220451d2ea2648846c7757fbaac82fe51ad64bea": Join(0),
		"fc87f4f1d721942d282aa61989c069b290d1447d20d4b811430f47ea0edf9991": Join(1, nil),
		"2ca4b2f5cb29b023b371d3d6ef0161262b6dd2f20b57b09b44938bc654c789fc": Join(2, nil, []byte{}),
		"8a1ef126b4e286703744a80b2f414be700cc93023e7bfc8688b79b54931abd27": Join(255, [][]byte{}...),
	} {
		if Text(got) != want {
			t.Errorf("Join of a tag alone: %s", Text(got))
		}
	}
}

func TestJoinLeavesItsParts(t *testing.T) { // P3.1 (B3); rule 4
	same := pattern(70)
	parts := [][]byte{same, nil, same[3:9], same}
	whole := append(append(append([]byte{7}, same...), same[3:9]...), same...)
	for range 2 {
		if got := Join(7, parts...); got != Sum(whole) {
			t.Errorf("Join of parts that share memory: %s", Text(got))
		}
	}
	if !bytes.Equal(same, pattern(70)) || len(parts) != 4 || parts[1] != nil || len(parts[2]) != 6 {
		t.Error("what was handed in was written into")
	}
}

func TestText(t *testing.T) { // P3.1 (B3)
	if got := Text(api.Hash{}); got != strings.Repeat("0", 64) {
		t.Errorf("Text of noughts: %s", got)
	}
	var up api.Hash
	for i := range up {
		up[i] = byte(i)
	}
	if got := Text(up); got != "000102030405060708090a0b0c0d0e0f101112131415161718191a1b1c1d1e1f" {
		t.Errorf("Text: %s", got)
	}
	for n := range 256 {
		for at := range len(api.Hash{}) {
			var h api.Hash
			h[at] = byte(n)
			want := strings.Repeat("00", at) + hex.EncodeToString([]byte{byte(n)}) + strings.Repeat("00", 31-at)
			if got := Text(h); got != want {
				t.Errorf("Text with %d at %d: %s", n, at, got)
			}
		}
	}
}

// TestAnswersAgain holds P1 and P2: no call panics, and what each answers is the same again.
func TestAnswersAgain(t *testing.T) {
	r := random()
	for range 300 {
		a, b := randomBytes(r, r.IntN(400)), randomBytes(r, r.IntN(400))
		var one, two [4]api.Hash
		for _, l := range []*[4]api.Hash{&one, &two} {
			s := New()
			s.Write(a)
			l[0], l[1], l[2] = Sum(a), Join(byte(len(b)), a, b), s.Sum()
			s.Write(b)
			l[3] = s.Sum()
		}
		if one != two {
			t.Fatalf("%x, %x: %v, and again %v", a, b, one, two)
		}
		if one[0] != one[2] || Text(one[3]) != Text(Sum(append(a, b...))) {
			t.Fatalf("%x, %x: %v", a, b, one)
		}
	}
}
