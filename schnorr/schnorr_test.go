package schnorr

import (
	"bytes"
	"encoding/binary"
	"math"
	"math/big"
	"math/rand/v2"
	"slices"
	"testing"

	"nuncio/api"
	"nuncio/blake"
)

const (
	p = 1<<61 - 1
	q = 1<<61 - 2
)

func random() *rand.Rand { return rand.New(rand.NewPCG(7, 8)) }

func number(n uint64) *big.Int { return new(big.Int).SetUint64(n) }

// plainPower is a power, reckoned by another library.
func plainPower(base, exponent uint64) uint64 {
	return new(big.Int).Exp(number(base), number(exponent), number(p)).Uint64()
}

func plainProduct(a, b, modulus uint64) uint64 {
	n := new(big.Int).Mul(number(a), number(b))
	return n.Mod(n, number(modulus)).Uint64()
}

// plainRead joins numbers and a message behind a tag, and reads the hash as a number.
func plainRead(tag byte, message []byte, numbers ...uint64) uint64 {
	b := []byte{tag}
	for _, n := range numbers {
		b = binary.BigEndian.AppendUint64(b, n)
	}
	h := blake.Sum(append(b, message...))
	return binary.BigEndian.Uint64(h[:8]) % q
}

// plainAnswer is the S that fits an R, which is G to k: of any form of R and key.
func plainAnswer(k, r, key, secret uint64, message []byte) uint64 {
	n := new(big.Int).Mul(number(plainRead(2, message, r, key)), number(secret))
	n.Add(n, number(k))
	return n.Mod(n, number(q)).Uint64()
}

// plainSign is G2, written out beside the program.
func plainSign(secret uint64, message []byte) api.Sig {
	k := plainRead(1, message, secret)
	r := plainPower(37, k)
	return api.Sig{R: r, S: plainAnswer(k, r, plainPower(37, secret), secret, message)}
}

func signed(t *testing.T, secret uint64, message []byte) (uint64, api.Sig) {
	t.Helper()
	key, e := Key(secret)
	if e != api.OK {
		t.Fatalf("Key(%d): %v", secret, e)
	}
	s, e := Sign(secret, message)
	if e != api.OK {
		t.Fatalf("Sign(%d): %v", secret, e)
	}
	return key, s
}

// upTo are the numbers from 0 to n - 1, as bytes.
func upTo(n int) []byte {
	b := make([]byte, n)
	for i := range b {
		b[i] = byte(i)
	}
	return b
}

func TestKeys(t *testing.T) { // P4.1 (G1)
	for _, c := range []struct{ secret, want uint64 }{
		{1, 37}, {2, 37 * 37}, {5, 69343957}, {11, 37 * 37 * 37 * 37 * 37 * 37 * 37 * 37 * 37 * 37 * 37}, {1234567, 1751715037103441745},
		{q / 2, p - 1}, {q - 1, 2181202846553494278}, {q - 2, 1990873949518324507}, {1 << 60, p - 37}, {1<<32 + 1, 2239833631552462200},
	} {
		if k, e := Key(c.secret); k != c.want%p || e != api.OK {
			t.Errorf("Key(%d): %d, %v", c.secret, k, e)
		}
	}
	r := random()
	for range 2000 {
		secret := 1 + r.Uint64N(q-1)
		if k, e := Key(secret); k != plainPower(37, secret) || e != api.OK {
			t.Fatalf("Key(%d): %d, %v", secret, k, e)
		}
	}
}

func TestNoSecrets(t *testing.T) { // P4.1 (G1, G2)
	for _, secret := range []uint64{0, q, p, p + 1, 2*q - 1, 2*q + 1, 1 << 61, 1 << 62, 1 << 63, 1<<63 + 5, math.MaxUint64} {
		if k, e := Key(secret); k != 0 || e != api.ErrSecret {
			t.Errorf("Key(%d): %d, %v", secret, k, e)
		}
		if s, e := Sign(secret, []byte("hi")); s != (api.Sig{}) || e != api.ErrSecret {
			t.Errorf("Sign(%d): %v, %v", secret, s, e)
		}
	}
}

func TestKnownSignatures(t *testing.T) { // P4.1 (G2)
	for _, c := range []struct {
		secret  uint64
		message []byte
		r, s    uint64
	}{
		{1, nil, 572524380605257724, 1287017545232436701},
		{1, []byte{}, 572524380605257724, 1287017545232436701},
		{1, []byte("hi"), 503125007508111027, 140712491549189674},
		{5, []byte("hi"), 424739894241628208, 593479503581399988},
		{2, []byte("abc"), 2126406965696967793, 1724530767781239112},
		{1234567, []byte("vote"), 1625940181503046348, 850423718137118237},
		{q - 1, nil, 2031919342542279894, 1789344473183841562},
		{q - 1, []byte("hi"), 45229688468139259, 1304334478445669434},
		{q - 2, bytes.Repeat([]byte("x"), 100), 104195740257041063, 2175529752154391145},
		{q / 2, []byte{0}, 2084581486361228027, 582215999134479274},
		{1 << 60, bytes.Repeat([]byte{255}, 64), 2303650154581905613, 1141051847231025577},
		{1 << 32, make([]byte, 47), 103621440547352665, 1046675763397775883},
		{1<<32 + 1, make([]byte, 48), 735098068824104040, 1570867875004477278},
		{0x0123456789abcdef, upTo(256), 1529216709698724275, 1288799872010768154},
	} {
		s, e := Sign(c.secret, c.message)
		if s != (api.Sig{R: c.r, S: c.s}) || e != api.OK {
			t.Errorf("Sign(%d, %d bytes): %v, %v", c.secret, len(c.message), s, e)
		}
	}
}

func TestSignLikeThePlainOne(t *testing.T) { // P4.1 (G2)
	r := random()
	for range 1000 {
		secret, message := 1+r.Uint64N(q-1), upTo(r.IntN(200))
		if s, e := Sign(secret, message); s != plainSign(secret, message) || e != api.OK {
			t.Fatalf("Sign(%d, %d bytes): %v, %v", secret, len(message), s, e)
		}
	}
}

// TestNonceOfNought: K is 1 where the hash is 0 as a number. No message is known that has such a hash.
func TestNonceOfNought(t *testing.T) { // P4.1 (G2)
	for _, c := range []struct{ high, want uint64 }{{0, 1}, {q, 1}, {2 * q, 1}, {8 * q, 1}, {1, 1}, {2, 2}, {q - 1, q - 1}, {q + 7, 7}, {math.MaxUint64, math.MaxUint64 % q}} {
		var h api.Hash
		binary.BigEndian.PutUint64(h[:], c.high)
		h[8], h[31] = 9, 9
		if n := nonce(h); n != c.want {
			t.Errorf("nonce(%d): %d", c.high, n)
		}
		if n := read(h); n != c.high%q {
			t.Errorf("read(%d): %d", c.high, n)
		}
	}
}

func TestWhatIsSignedIsRight(t *testing.T) { // P4.2
	r := random()
	for i := range 1000 {
		secret := 1 + r.Uint64N(q-1)
		switch i {
		case 0:
			secret = 1
		case 1:
			secret = q - 1
		case 2:
			secret = q / 2
		}
		message := upTo(i)
		key, s := signed(t, secret, message)
		if !Verify(key, message, s) {
			t.Fatalf("Verify of Sign(%d, %d bytes)", secret, i)
		}
	}
}

func TestVerifyRefusesWhatIsUnlike(t *testing.T) { // P4.1 (G3)
	r := random()
	for range 100 {
		message := upTo(1 + r.IntN(100))
		key, s := signed(t, 1+r.Uint64N(q-1), message)
		other := bytes.Clone(message)
		other[r.IntN(len(other))] ^= 1 << r.IntN(8)
		_, next := signed(t, 1+r.Uint64N(q-1), message)
		for bit := range 64 {
			if Verify(key^1<<bit, message, s) || Verify(key, message, api.Sig{R: s.R ^ 1<<bit, S: s.S}) || Verify(key, message, api.Sig{R: s.R, S: s.S ^ 1<<bit}) {
				t.Fatalf("bit %d", bit)
			}
		}
		if Verify(key, other, s) || Verify(key, message[1:], s) || Verify(key, append(other, 0), s) || Verify(key, nil, s) || Verify(key, message, next) || Verify(key, message, api.Sig{R: s.S, S: s.R}) {
			t.Fatal("another message or signature")
		}
	}
}

// TestVerifyRefusesOtherForms: numbers that are as good modulo P or Q, with the hash of just these.
func TestVerifyRefusesOtherForms(t *testing.T) { // P4.1 (G3)
	const secret = 12345
	message := []byte("hi")
	key := plainPower(37, secret)
	for k := uint64(1); k < 50; k++ {
		r := plainPower(37, k)
		right := func(r, key uint64) api.Sig { return api.Sig{R: r, S: plainAnswer(k, r, key, secret, message)} }
		if !Verify(key, message, right(r, key)) {
			t.Fatalf("K %d", k)
		}
		for times := uint64(1); times <= 7; times++ {
			if r+times*p > r && Verify(key, message, right(r+times*p, key)) {
				t.Errorf("K %d: R and P", k)
			}
			if key+times*p > key && Verify(key+times*p, message, right(r, key+times*p)) {
				t.Errorf("K %d: key and P", k)
			}
			s := right(r, key)
			s.S += times * q
			if s.S >= q && Verify(key, message, s) {
				t.Errorf("K %d: S and Q", k)
			}
		}
	}
}

// TestVerifyAtItsEdges: a key of 1 makes R alone count, as 1 to any power is 1.
func TestVerifyAtItsEdges(t *testing.T) { // P4.1 (G3)
	for _, c := range []struct {
		key, r, s uint64
		want      bool
	}{
		{1, 1, 0, true}, {1, 37, 1, true}, {1, 37 * 37, 2, true}, {1, p - 1, q / 2, true}, {1, plainPower(37, q-1), q - 1, true},
		{1, 1, q, false}, {1, 37, q + 1, false}, {1, 37, p + 1, false}, {1, p - 1, q/2 + q, false}, {1, 1, 1, false}, {1, 37, 0, false}, {1, 1, math.MaxUint64, false},
		{1, p + 1, 0, false}, {1, p, 0, false}, {1, 0, 0, false}, {1, 0, 1, false}, {1, math.MaxUint64, 0, false},
		{0, 1, 0, false}, {0, 0, 0, false}, {p, 1, 0, false}, {p + 1, 1, 0, false}, {p, p, 0, false}, {math.MaxUint64, 1, 0, false},
	} {
		for _, message := range [][]byte{nil, []byte("hi"), upTo(70)} {
			if got := Verify(c.key, message, api.Sig{R: c.r, S: c.s}); got != c.want {
				t.Errorf("Verify(%d, %d bytes, {%d, %d}): %v", c.key, len(message), c.r, c.s, got)
			}
		}
	}
}

// TestVerifyOfTheGreatestKey: P - 1 is -1, whose powers are 1 and -1 by turns.
func TestVerifyOfTheGreatestKey(t *testing.T) { // P4.1 (G3)
	var right [2]int
	for s := uint64(0); s < 40; s++ {
		message := []byte{byte(s)}
		for i, r := range []uint64{plainPower(37, s), p - plainPower(37, s)} {
			want := plainRead(2, message, r, p-1)%2 == uint64(i)
			if Verify(p-1, message, api.Sig{R: r, S: s}) != want {
				t.Errorf("S %d, R %d", s, r)
			}
			if want {
				right[i]++
			}
		}
	}
	if right[0] == 0 || right[1] == 0 {
		t.Errorf("seen: %v", right)
	}
}

var edges = []uint64{0, 1, 2, 3, 36, 37, 38, 61, 1<<31 - 1, 1 << 32, 1 << 60, q - 2, q - 1, q, p, p + 1, p + 37, 2*p - 1, 2 * p, 1 << 61, 1 << 62, 1<<63 - 1, 1 << 63, 8 * p, 8*p + 7, math.MaxUint64 - 1, math.MaxUint64}

func TestKnownPowers(t *testing.T) { // P4.1 (G1)
	for _, c := range []struct{ base, exponent, want uint64 }{
		{0, 0, 1}, {p, 0, 1}, {math.MaxUint64, 0, 1}, {5, 0, 1}, {0, 1, 0}, {0, 5, 0}, {p, 1, 0}, {2 * p, 3, 0}, {0, math.MaxUint64, 0},
		{2, 10, 1024}, {2, 60, 1 << 60}, {2, 61, 1}, {2, 64, 8}, {3, 4, 81}, {1, math.MaxUint64, 1}, {p - 1, 2, 1}, {p - 1, 3, p - 1}, {p - 1, math.MaxUint64, p - 1},
		{p + 2, 3, 8}, {math.MaxUint64, 1, 7}, {37, q, 1}, {37, q + 1, 37}, {37, q / 2, p - 1}, {37, q / 3, 1669582390241348315}, {6, q, 1},
	} {
		if got := Power(c.base, c.exponent); got != c.want {
			t.Errorf("Power(%d, %d): %d", c.base, c.exponent, got)
		}
	}
	r := random()
	for _, base := range edges {
		for _, exponent := range edges {
			if got := Power(base, exponent); got != plainPower(base, exponent) {
				t.Errorf("Power(%d, %d): %d", base, exponent, got)
			}
		}
	}
	for range 2000 {
		base, exponent := r.Uint64(), r.Uint64()
		if got := Power(base, exponent); got != plainPower(base, exponent) {
			t.Fatalf("Power(%d, %d): %d", base, exponent, got)
		}
	}
}

func TestPowersOfSums(t *testing.T) { // P4.3
	check := func(base, a, b uint64) {
		if a+b < a {
			return // no sum of numbers of 64 bits
		}
		if got := Power(base, a+b); got != plainProduct(Power(base, a), Power(base, b), p) {
			t.Errorf("Power(%d, %d + %d): %d", base, a, b, got)
		}
	}
	for _, base := range edges {
		for _, a := range edges {
			for _, b := range edges {
				check(base, a, b)
			}
		}
	}
	r := random()
	for range 1000 {
		check(r.Uint64(), r.Uint64()>>1, r.Uint64()>>1)
	}
}

func TestTimes(t *testing.T) { // P4.1, P4.3: the products behind them
	r := random()
	check := func(a, b uint64) {
		if got := times(a, b); got != plainProduct(a, b, p) {
			t.Errorf("times(%d, %d): %d", a, b, got)
		}
	}
	small := []uint64{0, 1, 2, 7, 8, 9, 1 << 30, 1<<31 - 1, 1 << 31, 1 << 60, p - 9, p - 8, p - 2, p - 1}
	for _, a := range small {
		for _, b := range small {
			check(a, b)
		}
	}
	for range 1000 {
		check(r.Uint64N(p), r.Uint64N(p))
	}
}

func TestMessagesStayAsTheyAre(t *testing.T) { // rule 4
	memory := upTo(100)
	before := slices.Clone(memory)
	key, s := signed(t, 77, memory[10:50])
	if !Verify(key, memory[10:50:50], s) || !bytes.Equal(memory, before) {
		t.Error("written into")
	}
	for i := range memory {
		if i < 10 || i >= 50 {
			memory[i] ^= 255
		}
	}
	if again, _ := Sign(77, memory[10:50]); again != s || !Verify(key, memory[10:50], s) {
		t.Error("what lies beside is read")
	}
}

func TestAnswersAgain(t *testing.T) { // P1, P2
	for range 2 {
		for _, a := range edges {
			for _, b := range edges {
				s := api.Sig{R: a, S: b}
				if Verify(37, nil, s) != Verify(37, nil, s) || Verify(a, []byte("x"), api.Sig{R: b, S: a}) != Verify(a, []byte("x"), api.Sig{R: b, S: a}) {
					t.Errorf("Verify: %d, %d", a, b)
				}
			}
			one, e := Sign(a, nil)
			two, f := Sign(a, []byte{})
			if one != two || e != f {
				t.Errorf("Sign(%d): %v, %v", a, one, two)
			}
		}
	}
}
