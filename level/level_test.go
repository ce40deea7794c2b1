package level

import (
	"cmp"
	"math"
	"math/big"
	"math/rand/v2"
	"testing"

	"nuncio/api"
)

// nans are some of the many: quiet and signalling ones, of both signs.
func nans() []float64 {
	var l []float64
	for _, b := range []uint64{0x7FF8000000000001, 0x7FF8000000000000, 0x7FF0000000000001, 0x7FFFFFFFFFFFFFFF, 0xFFF8000000000000, 0xFFF8000000000001, 0xFFF0000000000001, 0xFFFFFFFFFFFFFFFF} {
		l = append(l, math.Float64frombits(b))
	}
	return l
}

// line are numbers that rise strictly: all edges but NaNs.
func line() []float64 {
	up := []float64{
		math.SmallestNonzeroFloat64, 2 * math.SmallestNonzeroFloat64,
		math.Float64frombits(0x000FFFFFFFFFFFFF), math.Float64frombits(0x0010000000000000),
		1e-300, math.Nextafter(1.0/3, 0), 1.0 / 3, math.Nextafter(0.5, 0), 0.5, math.Nextafter(0.5, 1), 2.0 / 3,
		math.Nextafter(1, 0), 1, math.Nextafter(1, 2), 1.5, 2, 1<<52 + 0.5, 1 << 53, 1<<53 + 2,
		math.Nextafter(1<<63, 0), 1 << 63, math.Nextafter(1<<63, math.Inf(1)), 1e300, math.MaxFloat64, math.Inf(1),
	}
	var l []float64
	for i := len(up) - 1; i >= 0; i-- {
		l = append(l, -up[i])
	}
	return append(append(l, math.Copysign(0, -1), 0), up...)
}

func random() *rand.Rand { return rand.New(rand.NewPCG(1, 2)) }

func TestOrderIsTheLine(t *testing.T) { // P1.1 (L1)
	l := line()
	for i, a := range l {
		for k, b := range l {
			if got := Order(a, b); got != cmp.Compare(i, k) {
				t.Errorf("Order(%v, %v): %d", a, b, got)
			}
		}
	}
}

func TestNaNsAreOneAndLast(t *testing.T) { // P1.1 (L1)
	for _, a := range nans() {
		for _, b := range nans() {
			if got := Order(a, b); got != 0 {
				t.Errorf("Order(%x, %x): %d", math.Float64bits(a), math.Float64bits(b), got)
			}
		}
		for _, b := range line() {
			if Order(a, b) != 1 || Order(b, a) != -1 {
				t.Errorf("Order of the NaN %x and %v: %d, %d", math.Float64bits(a), b, Order(a, b), Order(b, a))
			}
		}
	}
}

func TestOneLine(t *testing.T) { // P1.2
	l := append(line(), nans()...)
	r := random()
	for range 60 {
		l = append(l, math.Float64frombits(r.Uint64()))
	}
	for _, a := range l {
		for _, b := range l {
			ab := Order(a, b)
			if Order(b, a) != -ab {
				t.Errorf("Order(%v, %v): %d, and back %d", a, b, ab, Order(b, a))
			}
			if (ab == 0) != (Bits(a) == Bits(b)) {
				t.Errorf("Order(%v, %v): %d, Bits %x, %x", a, b, ab, Bits(a), Bits(b))
			}
			for _, c := range l {
				if ab <= 0 && Order(b, c) <= 0 && Order(a, c) != min(ab, Order(b, c)) {
					t.Errorf("Order of %v, %v, %v: no line", a, b, c)
				}
			}
		}
	}
}

func TestAboveIsExact(t *testing.T) { // P1.1 (L1)
	whole := []int{math.MinInt, math.MinInt + 1, -1<<53 - 1, -1 << 53, -2, -1, 0, 1, 2, 1 << 52, 1<<53 - 1, 1 << 53, 1<<53 + 1, math.MaxInt - 1023, math.MaxInt - 1, math.MaxInt}
	fs := line()
	r := random()
	for _, n := range whole {
		f := float64(n)
		fs = append(fs, f, f+0.5, f-0.5, math.Nextafter(f, math.Inf(1)), math.Nextafter(f, math.Inf(-1)))
	}
	for range 1000 {
		whole = append(whole, int(r.Uint64())>>r.IntN(64))
	}
	for _, f := range fs {
		for _, n := range whole {
			// big.Float has infinities of its own.
			want := new(big.Float).SetFloat64(f).Cmp(new(big.Float).SetInt64(int64(n))) > 0
			if got := Above(f, n); got != want {
				t.Errorf("Above(%v, %d): %v", f, n, got)
			}
		}
	}
	for _, n := range whole {
		for _, f := range nans() {
			if Above(f, n) {
				t.Errorf("Above(NaN %x, %d)", math.Float64bits(f), n)
			}
		}
		if !Above(math.Inf(1), n) || Above(math.Inf(-1), n) {
			t.Errorf("Above(infinities, %d): %v, %v", n, Above(math.Inf(1), n), Above(math.Inf(-1), n))
		}
	}
}

func TestAboveAtItsEdges(t *testing.T) { // P1.1 (L1)
	for _, c := range []struct {
		f    float64
		n    int
		want bool
	}{
		{1.5, 1, true}, {1, 1, false}, {-0.5, -1, true}, {-0.5, 0, false}, {-1.5, -1, false}, {-1.5, -2, true},
		{math.Copysign(0, -1), 0, false}, {math.Copysign(0, -1), -1, true}, {math.SmallestNonzeroFloat64, 0, true}, {-math.SmallestNonzeroFloat64, 0, false},
		{1 << 53, 1<<53 + 1, false}, {1 << 53, 1<<53 - 1, true}, {1<<53 + 2, 1<<53 + 1, true},
		{1 << 63, math.MaxInt, true}, {math.Nextafter(1<<63, 0), math.MaxInt, false}, {-1 << 63, math.MinInt, false},
		{math.Nextafter(-1<<63, 0), math.MinInt, true}, {math.Nextafter(-1<<63, math.Inf(-1)), math.MinInt, false},
	} {
		if got := Above(c.f, c.n); got != c.want {
			t.Errorf("Above(%v, %d): %v", c.f, c.n, got)
		}
	}
}

func TestExceedsErrors(t *testing.T) { // P1.1 (L2)
	bad := append(nans(), 0, math.Copysign(0, -1), -math.SmallestNonzeroFloat64, -0.5, -1, math.Nextafter(1, 2), 1.5, math.MaxFloat64, math.Inf(1), math.Inf(-1))
	for _, f := range bad {
		for _, c := range [][2]int{{1, 2}, {-1, 2}, {1, -2}, {1, api.MaxPower + 1}} {
			if got, e := Exceeds(c[0], c[1], f); got || e != api.ErrLevel {
				t.Errorf("Exceeds(%d, %d, %v): %v, %d", c[0], c[1], f, got, e)
			}
		}
	}
	for _, c := range [][2]int{{-1, 2}, {math.MinInt, 2}, {1, -1}, {1, math.MinInt}, {-1, -1}, {1, api.MaxPower + 1}, {math.MaxInt, math.MaxInt}} {
		for _, f := range []float64{math.SmallestNonzeroFloat64, 1.0 / 3, 1} {
			if got, e := Exceeds(c[0], c[1], f); got || e != api.ErrArg {
				t.Errorf("Exceeds(%d, %d, %v): %v, %d", c[0], c[1], f, got, e)
			}
		}
	}
}

func TestExceedsAtItsEdges(t *testing.T) { // P1.1 (L2)
	const tiny, most = math.SmallestNonzeroFloat64, api.MaxPower
	for _, c := range []struct {
		part, total int
		level       float64
		want        bool
	}{
		{2, 3, 2.0 / 3, true}, {1, 2, 0.5, false}, {1, 3, 1.0 / 3, true}, {1, 2, math.Nextafter(0.5, 0), true}, {1, 2, math.Nextafter(0.5, 1), false},
		{0, 0, tiny, false}, {1, 0, 1, true}, {0, most, tiny, false}, {1, most, tiny, true},
		{3, 3, 1, false}, {4, 3, 1, true}, {3, 3, math.Nextafter(1, 0), true},
		{most, most, 1, false}, {most + 1, most, 1, true}, {most, most, math.Nextafter(1, 0), true}, {most - 1, most, math.Nextafter(1, 0), false},
		{math.MaxInt, most, 1, true}, {1, most, 1.0 / most, false}, {1, most, math.Nextafter(1.0/most, 0), true}, {1, most - 1, 1.0 / most, true},
	} {
		if got, e := Exceeds(c.part, c.total, c.level); got != c.want || e != api.OK {
			t.Errorf("Exceeds(%d, %d, %v): %v, %d", c.part, c.total, c.level, got, e)
		}
	}
}

// exceeds reckons with whole quotients of any length.
func exceeds(part, total int, level float64) bool {
	share := new(big.Rat).SetFloat64(level)
	share.Mul(share, new(big.Rat).SetInt64(int64(total)))
	return new(big.Rat).SetInt64(int64(part)).Cmp(share) > 0
}

// levelsAndTotals are right ones: of all sizes, the edges among them.
func levelsAndTotals() ([]float64, []int) {
	levels := []float64{math.SmallestNonzeroFloat64, math.Float64frombits(0x000FFFFFFFFFFFFF), math.Float64frombits(0x0010000000000000), math.Ldexp(1, -50), math.Ldexp(3, -52), 1.0 / 3, 0.5, 2.0 / 3, 1}
	for _, f := range levels[1:] {
		levels = append(levels, math.Nextafter(f, 0), min(math.Nextafter(f, 1), 1))
	}
	totals := []int{0, 1, 2, 3, 7, 64, 1<<49 + 1, api.MaxPower - 1, api.MaxPower}
	r := random()
	for range 200 {
		levels = append(levels, 1-r.Float64(), math.Ldexp(1-r.Float64(), -r.IntN(70)))
		totals = append(totals, r.IntN(api.MaxPower+1)>>r.IntN(50))
	}
	return levels, totals
}

func TestExceedsIsExact(t *testing.T) { // P1.1 (L2), P1.3
	levels, totals := levelsAndTotals()
	for _, f := range levels {
		for _, total := range totals {
			near := int(float64(total) * f)
			for part := max(near-2, 0); part <= near+2; part++ {
				want := exceeds(part, total, f)
				if got, e := Exceeds(part, total, f); got != want || e != api.OK {
					t.Fatalf("Exceeds(%d, %d, %v): %v, %d", part, total, f, got, e)
				}
			}
		}
	}
}

func TestWhatExceedsStaysSo(t *testing.T) { // P1.3
	levels, totals := levelsAndTotals()
	for _, f := range levels {
		for _, total := range totals {
			near := int(float64(total) * f)
			for part := max(near-2, 0); part <= near+2; part++ {
				if so, _ := Exceeds(part, total, f); !so {
					continue
				}
				if more, e := Exceeds(part+1, total, f); !more || e != api.OK {
					t.Fatalf("Exceeds(%d, %d, %v), with one more: %v, %d", part, total, f, more, e)
				}
				if total == 0 {
					continue
				}
				if less, e := Exceeds(part, total-1, f); !less || e != api.OK {
					t.Fatalf("Exceeds(%d, %d, %v), with one less: %v, %d", part, total, f, less, e)
				}
			}
		}
	}
}

func TestBitsAndOf(t *testing.T) { // P1.1 (L3)
	for _, f := range line() {
		b := Bits(f)
		if b != math.Float64bits(f) {
			t.Errorf("Bits(%v): %x", f, b)
		}
		if g, e := Of(b); math.Float64bits(g) != b || e != api.OK {
			t.Errorf("Of(%x): %v, %d", b, g, e)
		}
	}
	for _, f := range nans() {
		if b := Bits(f); b != 0x7FF8000000000001 {
			t.Errorf("Bits of the NaN %x: %x", math.Float64bits(f), b)
		}
	}
	if Bits(0) != 0 || Bits(math.Copysign(0, -1)) != 1<<63 || Bits(math.Inf(1)) != 0x7FF0000000000000 || Bits(math.Inf(-1)) != 0xFFF0000000000000 {
		t.Error("Bits of zeros or infinities")
	}
}

func TestOfNaNs(t *testing.T) { // P1.1 (L3)
	if f, e := Of(0x7FF8000000000001); !math.IsNaN(f) || math.Float64bits(f) != 0x7FF8000000000001 || e != api.OK {
		t.Errorf("Of the NaN: %v, %d", f, e)
	}
	for _, n := range nans() {
		b := math.Float64bits(n)
		if b == 0x7FF8000000000001 {
			continue
		}
		if f, e := Of(b); math.Float64bits(f) != 0 || e != api.ErrLevel {
			t.Errorf("Of(%x): %v, %d", b, f, e)
		}
	}
}

func TestOfTurnsBitsBack(t *testing.T) { // P1.1 (L3)
	r := random()
	for range 10000 {
		b := r.Uint64()
		if r.IntN(4) == 0 { // among the NaNs and the infinities
			b |= 0x7FF0000000000000
		}
		f, e := Of(b)
		if e == api.OK && Bits(f) != b || e != api.OK && !math.IsNaN(math.Float64frombits(b)) {
			t.Fatalf("Of(%x): %v, %d", b, f, e)
		}
	}
}

// TestAnswersAgain holds P1 and P2 for all calls: none panics, and what each answers is the same again.
func TestAnswersAgain(t *testing.T) {
	fs := append(line(), nans()...)
	whole := []int{math.MinInt, -1, 0, 1, api.MaxPower - 1, api.MaxPower, api.MaxPower + 1, math.MaxInt}
	for _, f := range fs {
		for _, g := range fs {
			if Order(f, g) != Order(f, g) {
				t.Errorf("Order(%v, %v)", f, g)
			}
		}
		if Bits(f) != Bits(f) {
			t.Errorf("Bits(%v)", f)
		}
		x, e := Of(math.Float64bits(f))
		if y, d := Of(math.Float64bits(f)); math.Float64bits(x) != math.Float64bits(y) || e != d {
			t.Errorf("Of(%x)", math.Float64bits(f))
		}
		for _, n := range whole {
			if Above(f, n) != Above(f, n) {
				t.Errorf("Above(%v, %d)", f, n)
			}
			for _, m := range whole {
				is, e := Exceeds(n, m, f)
				if again, d := Exceeds(n, m, f); is != again || e != d {
					t.Errorf("Exceeds(%d, %d, %v)", n, m, f)
				}
			}
		}
	}
}
