package tape_test

import (
	"bytes"
	"math"
	"math/big"
	"math/rand/v2"
	"slices"
	"testing"

	"nuncio/api"
	"nuncio/tape"
)

func random() *rand.Rand { return rand.New(rand.NewPCG(10, 11)) }

// is tells whether a tape has just these bytes, so many of them safe, and so many calls.
func is(t *testing.T, name string, x *tape.Tape, want string, safe, calls int) {
	t.Helper()
	if x == nil {
		t.Fatalf("%s: nil", name)
	}
	if string(x.Read()) != want || x.Safe() != safe || x.Calls() != calls {
		t.Errorf("%s: %q, %d safe, %d calls; want %q, %d, %d", name, x.Read(), x.Safe(), x.Calls(), want, safe, calls)
	}
}

func ok(t *testing.T, name string, e api.Errno) {
	t.Helper()
	if e != api.OK {
		t.Fatalf("%s: %d", name, e)
	}
}

// P10.1, E1: each call, one behind the other.
func TestCalls(t *testing.T) {
	x := tape.New()
	is(t, "New", x, "", 0, 0)
	ok(t, "Append", x.Append([]byte("ab")))
	is(t, "Append", x, "ab", 0, 1)
	ok(t, "Append", x.Append([]byte("c")))
	is(t, "Append", x, "abc", 0, 2)
	ok(t, "Sync", x.Sync())
	is(t, "Sync", x, "abc", 3, 3)
	ok(t, "Append", x.Append([]byte("def")))
	is(t, "what is appended is not safe", x, "abcdef", 3, 4)
	ok(t, "Trim", x.Trim(5))
	is(t, "Trim makes the rest safe", x, "abcde", 5, 5)
	ok(t, "Trim", x.Trim(2))
	is(t, "Trim takes safe ones too", x, "ab", 2, 6)
	ok(t, "Append", x.Append([]byte("xyz")))
	is(t, "Append behind Trim", x, "abxyz", 2, 7)
	ok(t, "Sync", x.Sync())
	ok(t, "Sync", x.Sync())
	is(t, "Sync twice", x, "abxyz", 5, 9)
	ok(t, "Trim", x.Trim(0))
	is(t, "Trim to nothing", x, "", 0, 10)
	ok(t, "Sync", x.Sync())
	is(t, "Sync of nothing", x, "", 0, 11)
}

// P10.1, E1: calls that change no byte count as the others do.
func TestCallsThatChangeNothing(t *testing.T) {
	x := tape.New()
	ok(t, "Append of nil", x.Append(nil))
	ok(t, "Append of none", x.Append([]byte{}))
	ok(t, "Trim", x.Trim(0))
	ok(t, "Sync", x.Sync())
	is(t, "nothing", x, "", 0, 4)
	ok(t, "Append", x.Append([]byte("ab")))
	ok(t, "Trim to all there are", x.Trim(2))
	is(t, "Trim to all there are makes them safe", x, "ab", 2, 6)
}

// P10.1, E1, and rule 3: what may not be trimmed.
func TestTrimBounds(t *testing.T) {
	x := tape.New()
	for _, n := range []int{-1, 1, math.MinInt, math.MaxInt} {
		if e := x.Trim(n); e != api.ErrArg {
			t.Errorf("Trim(%d) of none: %d", n, e)
		}
	}
	is(t, "Trim of none", x, "", 0, 0)
	ok(t, "Append", x.Append([]byte("abcd")))
	ok(t, "Trim", x.Trim(3))
	ok(t, "Append", x.Append([]byte("e")))
	for _, n := range []int{-1, 5, 6, math.MinInt, math.MaxInt} {
		if e := x.Trim(n); e != api.ErrArg {
			t.Errorf("Trim(%d) of 4: %d", n, e)
		}
	}
	is(t, "Trim of 4", x, "abce", 3, 3)
	is(t, "what is left of 4", x.Cut(3, 1), "abce", 4, 0)
	is(t, "only three calls count", x.Cut(4, 0), "", 0, 0)
}

// P10.1, E1, and rule 3: a tape has MaxTape bytes at most.
func TestFull(t *testing.T) {
	x := tape.New()
	if e := x.Append(make([]byte, api.MaxTape+1)); e != api.ErrTapeFull {
		t.Errorf("one too many at once: %d", e)
	}
	is(t, "one too many at once", x, "", 0, 0)
	ok(t, "all but one", x.Append(bytes.Repeat([]byte("a"), api.MaxTape-1)))
	ok(t, "Sync", x.Sync())
	if e := x.Append([]byte("xy")); e != api.ErrTapeFull {
		t.Errorf("two behind all but one: %d", e)
	}
	ok(t, "the last one", x.Append([]byte("b")))
	if e := x.Append([]byte("x")); e != api.ErrTapeFull {
		t.Errorf("one behind all: %d", e)
	}
	ok(t, "none behind all", x.Append(nil))
	all := string(bytes.Repeat([]byte("a"), api.MaxTape-1)) + "b"
	is(t, "full", x, all, api.MaxTape-1, 4)
	is(t, "full, cut", x.Cut(4, 1), all, api.MaxTape, 0)
	if e := x.Cut(4, 1).Append([]byte("x")); e != api.ErrTapeFull {
		t.Errorf("one behind what is left of all: %d", e)
	}
	ok(t, "Trim", x.Trim(api.MaxTape-3))
	ok(t, "as many as were taken", x.Append([]byte("xyz")))
	if e := x.Append([]byte("x")); e != api.ErrTapeFull {
		t.Errorf("one behind all again: %d", e)
	}
	is(t, "full again", x, all[:api.MaxTape-3]+"xyz", api.MaxTape-3, 6)
}

// sample has 7 calls: "ab", safe; "cd", "e"; trimmed to "abc"; "xy".
func sample(t *testing.T) *tape.Tape {
	t.Helper()
	x := tape.New()
	ok(t, "Append", x.Append([]byte("ab")))
	ok(t, "Sync", x.Sync())
	ok(t, "Append", x.Append([]byte("cd")))
	ok(t, "Append", x.Append([]byte("e")))
	ok(t, "Trim", x.Trim(3))
	ok(t, "Append", x.Append([]byte("xy")))
	ok(t, "Append", x.Append([]byte("z")))
	return x
}

// P10.1, E2: what is left behind each call, by hand.
func TestCut(t *testing.T) {
	x := sample(t)
	for _, c := range []struct {
		at, torn int
		want     string
	}{
		{0, 0, ""}, {0, 1, ""}, {0, 7, ""},
		{1, 0, ""}, {1, 1, "a"}, {1, 2, "ab"}, {1, 3, ""}, {1, 4, "a"},
		{2, 0, "ab"}, {2, 1, "ab"}, {2, 2, "ab"},
		{3, 0, "ab"}, {3, 1, "abc"}, {3, 2, "abcd"}, {3, 3, "ab"},
		{4, 0, "ab"}, {4, 2, "abcd"}, {4, 3, "abcde"}, {4, 4, "ab"}, {4, 7, "abcde"},
		{5, 0, "abc"}, {5, 1, "abc"},
		{6, 0, "abc"}, {6, 1, "abcx"}, {6, 2, "abcxy"}, {6, 3, "abc"},
		{7, 0, "abc"}, {7, 2, "abcxy"}, {7, 3, "abcxyz"}, {7, 4, "abc"},
		{8, 3, ""}, {9, 1, "a"}, {15, 3, "abcxyz"}, {16, 3, ""},
	} {
		is(t, "Cut", x.Cut(c.at, c.torn), c.want, len(c.want), 0)
		is(t, "t stays", x, "abcxyz", 3, 7)
	}
}

// P10.1, E2: numbers below 0 are counted from -1 on, which is 0.
func TestCutBelowNought(t *testing.T) {
	x := sample(t)
	for _, c := range []struct {
		at, torn int
		want     string
	}{
		{-1, 0, ""}, {-2, -1, ""}, {-2, -2, "a"}, {-2, -3, "ab"}, {-2, -4, ""},
		{-5, -3, "abcd"}, {-5, -4, "abcde"}, {-5, -5, "ab"}, {-8, -4, "abcxyz"}, {-9, 3, ""}, {7, -2, "abcx"}, {-7, 1, "abcx"},
		// 2^63 - 1 is 7 modulo 8, and 3 modulo 4; 2^63 - 2 is 6, and 2
		{math.MaxInt, math.MaxInt, "abcxyz"}, {math.MinInt, math.MinInt, "abcxyz"}, {math.MinInt, 1, "abcx"},
		{math.MaxInt, math.MaxInt - 1, "abcxy"}, {math.MinInt, math.MinInt + 1, "abcxy"}, {math.MaxInt - 1, 1, "abcx"}, {math.MinInt + 1, 2, "abcxy"},
	} {
		is(t, "Cut", x.Cut(c.at, c.torn), c.want, len(c.want), 0)
	}
}

// P10.1, E2: a tape that a loss of power left is one as any other.
func TestCutGoesOn(t *testing.T) {
	x := sample(t)
	y := x.Cut(6, 1)
	ok(t, "Append", y.Append([]byte("12")))
	is(t, "the cut one", y, "abcx12", 4, 1)
	is(t, "a cut of the cut one", y.Cut(1, 1), "abcx1", 5, 0)
	is(t, "ahead of its calls all is safe", y.Cut(0, 1), "abcx", 4, 0)
	ok(t, "Trim", y.Trim(1))
	ok(t, "Append", y.Append([]byte("3")))
	ok(t, "Sync", y.Sync())
	is(t, "the cut one", y, "a3", 2, 4)
	is(t, "the cut one, of earlier", y.Cut(1, 2), "abcx12", 6, 0)
	is(t, "t stays", x, "abcxyz", 3, 7)
	is(t, "t stays, of earlier", x.Cut(4, 3), "abcde", 5, 0)
	ok(t, "Append", x.Append([]byte("more")))
	is(t, "the cut one stays too", y, "a3", 2, 4)
}

// P10.1: New gives a tape of its own each time.
func TestNew(t *testing.T) {
	x, y := tape.New(), tape.New()
	ok(t, "Append", x.Append([]byte("a")))
	is(t, "x", x, "a", 0, 1)
	is(t, "y", y, "", 0, 0)
}

// What was stays as it was: bytes that are appended behind a Trim do not touch what it took away.
func TestTrimKeepsThePast(t *testing.T) {
	for n := 0; n <= 40; n++ {
		x := tape.New()
		var was string
		for i := range 40 {
			ok(t, "Append", x.Append([]byte{byte(i)}))
			was += string([]byte{byte(i)})
		}
		ok(t, "Trim", x.Trim(n))
		ok(t, "Append", x.Append(bytes.Repeat([]byte("x"), 60)))
		is(t, "ahead of Trim", x.Cut(40, 40), was, 40, 0)
		is(t, "behind Trim", x.Cut(41, 1), was[:n], n, 0)
	}
}

// plain is a tape that writes down its calls, and goes through them whenever it is asked.
type plain struct {
	first string // what a loss of power left: all safe
	calls []call
}

// call is one of Append (kind 0), Sync (1) and Trim (2).
type call struct {
	kind, n int
	b       string
}

func (p *plain) after(calls int) (string, int) {
	b, safe := p.first, len(p.first)
	for _, c := range p.calls[:calls] {
		switch c.kind {
		case 0:
			b += c.b
		case 1:
			safe = len(b)
		case 2:
			b, safe = b[:c.n], c.n
		}
	}
	return b, safe
}

func (p *plain) do(c call) api.Errno {
	b, _ := p.after(len(p.calls))
	if c.kind == 0 && len(b)+len(c.b) > api.MaxTape {
		return api.ErrTapeFull
	}
	if c.kind == 2 && (c.n < 0 || c.n > len(b)) {
		return api.ErrArg
	}
	p.calls = append(p.calls, c)
	return api.OK
}

// modulo counts as the document says, in big numbers.
func modulo(n, most int) int {
	x := big.NewInt(int64(n))
	if n < 0 {
		x.Add(x, big.NewInt(1)).Neg(x)
	}
	return int(x.Mod(x, big.NewInt(int64(most)+1)).Int64())
}

func (p *plain) cut(at, torn int) string {
	b, safe := p.after(modulo(at, len(p.calls)))
	return b[:safe+modulo(torn, len(b)-safe)]
}

func randomText(r *rand.Rand, most int) string {
	b := make([]byte, r.IntN(most+1))
	for i := range b {
		b[i] = byte(r.Uint32())
	}
	return string(b)
}

func randomCall(r *rand.Rand, size int) call {
	switch r.IntN(8) {
	case 0, 1:
		return call{kind: 1}
	case 2:
		return call{kind: 2, n: r.IntN(size+3) - 1}
	case 3:
		return call{kind: 2, n: size - r.IntN(4)}
	}
	return call{kind: 0, b: randomText(r, 9)}
}

func do(x *tape.Tape, c call) api.Errno {
	switch c.kind {
	case 0:
		return x.Append([]byte(c.b))
	case 1:
		return x.Sync()
	}
	return x.Trim(c.n)
}

func randomNumber(r *rand.Rand) int {
	if r.IntN(4) == 0 {
		return int(r.Uint64())
	}
	return r.IntN(120) - 60
}

// P10.1 against plain: any calls, and a cut behind each, of which the next calls may go on.
func TestAgainstPlain(t *testing.T) {
	r := random()
	for range 300 {
		x, p := tape.New(), &plain{}
		for range 60 {
			b, _ := p.after(len(p.calls))
			c := randomCall(r, len(b))
			if got, want := do(x, c), p.do(c); got != want {
				t.Fatalf("%+v behind %+v: %d, want %d", c, p.calls, got, want)
			}
			b, safe := p.after(len(p.calls))
			is(t, "any", x, b, safe, len(p.calls))
			at, torn := randomNumber(r), randomNumber(r)
			y, left := x.Cut(at, torn), p.cut(at, torn)
			is(t, "any, cut", y, left, len(left), 0)
			if r.IntN(30) == 0 { // power goes indeed
				x, p = y, &plain{first: left}
			}
			if t.Failed() {
				t.Fatalf("behind %+v", p.calls)
			}
		}
		everyCut(t, x, p)
	}
}

// everyCut cuts behind each call, with each number of torn bytes.
func everyCut(t *testing.T, x *tape.Tape, p *plain) {
	t.Helper()
	for at := range len(p.calls) + 1 {
		b, safe := p.after(at)
		for torn := range len(b) - safe + 1 {
			is(t, "every cut", x.Cut(at, torn), b[:safe+torn], safe+torn, 0)
		}
	}
}

// P10.2: what is safe is kept, at its place, and nothing else is there but what was appended behind.
func TestSafeIsKept(t *testing.T) {
	r := random()
	for range 300 {
		x := tape.New()
		bytesThen, safeThen := [][]byte{nil}, []int{0}
		for range 40 {
			if do(x, randomCall(r, len(x.Read()))) == api.OK {
				bytesThen, safeThen = append(bytesThen, x.Read()), append(safeThen, x.Safe())
			}
		}
		for range 200 {
			at := r.IntN(len(bytesThen))
			left := x.Cut(at, r.Int()).Read()
			if !bytes.HasPrefix(left, bytesThen[at][:safeThen[at]]) {
				t.Fatalf("%q is not kept: %q", bytesThen[at][:safeThen[at]], left)
			}
			if !bytes.HasPrefix(bytesThen[at], left) {
				t.Fatalf("%q was never there: %q", left, bytesThen[at])
			}
		}
	}
}

// P10.2: each number of torn bytes is left by some loss of power, from none to all.
func TestEveryTear(t *testing.T) {
	x := tape.New()
	ok(t, "Append", x.Append([]byte("safe")))
	ok(t, "Sync", x.Sync())
	ok(t, "Append", x.Append([]byte("torn")))
	var got []string
	for torn := range 5 {
		got = append(got, string(x.Cut(3, torn).Read()))
	}
	if want := []string{"safe", "safet", "safeto", "safetor", "safetorn"}; !slices.Equal(got, want) {
		t.Errorf("%q, want %q", got, want)
	}
}

// Rule 4: what is handed in is neither written nor kept, and what is answered is new memory.
func TestNothingIsShared(t *testing.T) {
	whole := []byte("abcdef")
	b := whole[:3]
	x := tape.New()
	ok(t, "Append", x.Append(b))
	ok(t, "Append", x.Append([]byte("x")))
	if string(whole) != "abcdef" {
		t.Errorf("handed in, now %q", whole)
	}
	clear(whole)
	is(t, "nothing handed in is kept", x, "abcx", 0, 2)
	y := x.Cut(2, 4)
	clear(x.Read())
	clear(append(x.Read(), "more"...))
	is(t, "nothing answered is kept", x, "abcx", 0, 2)
	clear(y.Read())
	is(t, "nothing answered is kept by a cut one", y, "abcx", 4, 0)
	is(t, "nor by what is left later", x.Cut(2, 4), "abcx", 4, 0)
	ok(t, "Append of its own bytes", x.Append(x.Read()))
	is(t, "its own bytes", x, "abcxabcx", 0, 3)
}

// Rule 8: a nil tape.
func TestNilTape(t *testing.T) {
	var x *tape.Tape
	for _, b := range [][]byte{nil, []byte("a"), make([]byte, api.MaxTape+1)} {
		if e := x.Append(b); e != api.ErrArg {
			t.Errorf("Append: %d", e)
		}
	}
	if e := x.Sync(); e != api.ErrArg {
		t.Errorf("Sync: %d", e)
	}
	for _, n := range []int{-1, 0, 1} {
		if e := x.Trim(n); e != api.ErrArg {
			t.Errorf("Trim: %d", e)
		}
	}
	if len(x.Read()) != 0 || x.Safe() != 0 || x.Calls() != 0 {
		t.Errorf("%q, %d, %d", x.Read(), x.Safe(), x.Calls())
	}
	for _, n := range []int{math.MinInt, -1, 0, 1, math.MaxInt} {
		if y := x.Cut(n, n); y != nil {
			t.Errorf("Cut: %v", y)
		}
	}
}

// P1: any numbers, on tapes of any size.
func TestAnything(t *testing.T) {
	numbers := []int{math.MinInt, math.MinInt + 1, -api.MaxTape, -2, -1, 0, 1, 2, 3, 4, 5, api.MaxTape, math.MaxInt - 1, math.MaxInt}
	for size := range 4 {
		x := tape.New()
		for i := range size {
			ok(t, "Append", x.Append([]byte{byte(i)}))
		}
		for _, at := range numbers {
			for _, torn := range numbers {
				if y := x.Cut(at, torn); y == nil || y.Safe() != len(y.Read()) || y.Safe() > size {
					t.Fatalf("Cut(%d, %d) of %d: %v", at, torn, size, y)
				}
			}
			x.Cut(at, at).Trim(at)
		}
	}
}

// P2: the same calls are answered alike, whatever other tapes do.
func TestSameCalls(t *testing.T) {
	r := random()
	x, y := tape.New(), tape.New()
	for range 300 {
		c := randomCall(r, len(x.Read()))
		if a, b := do(x, c), do(y, c); a != b {
			t.Fatalf("%+v: %d, %d", c, a, b)
		}
		at, torn := randomNumber(r), randomNumber(r)
		z := x.Cut(at, torn)
		left := string(z.Read())
		do(z, randomCall(r, len(left)))
		is(t, "the other one's cut", y.Cut(at, torn), left, len(left), 0)
		is(t, "the other one", y, string(x.Read()), x.Safe(), x.Calls())
	}
}

// Bytes that come one by one fill a tape, and each moment of it is found again.
func TestManyCalls(t *testing.T) {
	x := tape.New()
	for i := range 1 << 17 {
		ok(t, "Append", x.Append([]byte{byte(i)}))
	}
	all := x.Read()
	for _, at := range []int{0, 1, 255, 256, 1 << 16, 1<<17 - 1, 1 << 17} {
		if got := x.Cut(at, at).Read(); !bytes.Equal(got, all[:at]) {
			t.Errorf("Cut(%d): %d bytes", at, len(got))
		}
	}
}
