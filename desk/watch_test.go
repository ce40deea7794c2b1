package desk_test

import (
	"slices"
	"strconv"
	"strings"
	"testing"

	"nuncio/api"
	"nuncio/bisect"
	"nuncio/blake"
	"nuncio/desk"
	"nuncio/forms"
	"nuncio/relay"
)

// TestLevels: A parted by B, as floats: a third at least, one at most, and a number at all.
func TestLevels(t *testing.T) { // P24.1 (O1)
	d := world(t, "new 3 4")
	for _, level := range []string{"1 3", "1 2", "2 3", "1 1", "9 9", "999999999 999999999", "333333333 999999999", "333333334 999999999", "3 9", "999999998 999999999", "100000000 300000000", "5 6"} {
		for _, i := range []string{"0 ", "1 "} {
			play(t, d, "watch "+i+level+" 100 1", "ok", "trusted", "1")
		}
	}
	s := seed(func() *desk.Desk { return busy(t) })
	for _, level := range []string{"0 0", "1 0", "0 1", "999999999 0", "0 999999999", "1 4", "333333332 999999999", "3 2", "2 1", "999999999 999999998", "999999999 1", "99999999 300000000", "33 100"} {
		s.unchanged(t, func(d *desk.Desk) {
			play(t, d, "watch 0 "+level+" 100 1", refused(api.ErrOptions), "watch 1 "+level+" 999999999 999999999", refused(api.ErrOptions))
		})
	}
}

// TestLeaps: all sign, so a leap goes by any level but that of 1.
func TestLeaps(t *testing.T) { // P24.1 (O1)
	d := world(t, "new 3 4")
	blocks(t, d, 0, 8)
	for _, x := range []struct{ level, fetches, trusted string }{
		{"1 3", "1", "1 9"}, {"1 2", "1", "1 9"}, {"999999998 999999999", "1", "1 9"}, {"1 1", "8", "1 2 3 4 5 6 7 8 9"}, {"999999999 999999999", "8", "1 2 3 4 5 6 7 8 9"},
	} {
		play(t, d, "watch 0 "+x.level+" 100 1", "ok", "follow 9", x.fetches, "trusted", x.trusted)
	}
}

// TestOptions: a period above 0, a drift of any number, each in its place.
func TestOptions(t *testing.T) { // P24.1 (O1)
	d := world(t, "new 3 4")
	play(t, d,
		"watch 0 1 2 0 1", refused(api.ErrOptions), "watch 0 1 2 0 0", refused(api.ErrOptions), "trusted", refused(api.ErrFetch),
		"watch 0 1 2 1 0", "ok", "watch 0 1 2 1 999999999", "ok", "watch 0 1 2 999999999 0", "ok",
		"block 0 3", "", "follow 2", "1")
}

// TestPeriod: a root is too old for a new watch, and a watch for its next step, when the period is over.
func TestPeriod(t *testing.T) { // P24.1 (O1)
	for _, x := range []struct {
		age, period  int
		fresh, later string
	}{
		{1, 1, refused(api.ErrExpired), refused(api.ErrExpired)}, {1, 2, "ok", "1"}, {99, 100, "ok", "1"}, {100, 100, refused(api.ErrExpired), refused(api.ErrExpired)}, {101, 100, refused(api.ErrExpired), refused(api.ErrExpired)}, {1000, 1001, "ok", "1"}, {1000, 1000, refused(api.ErrExpired), refused(api.ErrExpired)},
	} {
		line := "watch 0 1 2 " + strconv.Itoa(x.period) + " 5"
		d := world(t, "new 3 4", line, "block 0 "+strconv.Itoa(x.age))
		play(t, d, "follow 2", x.later)
		if x.later != "1" {
			play(t, d, "trusted", "1", "follow 1", refused(api.ErrOrder), "follow 2", x.later)
		}
		play(t, world(t, "new 3 4", "block 0 "+strconv.Itoa(x.age)), line, x.fresh)
	}
	// The clock that counts is that of the time of following: what came later is new.
	d := world(t, "new 3 4", "watch 0 1 2 100 5", "block 0 60")
	play(t, d, "follow 2", "1", "block 0 60", "", "follow 3", "1", "block 1 99", "", "block 0 1", "", "follow 4", refused(api.ErrExpired), "trusted", "1 2 3", "watch 0 1 2 100 5", refused(api.ErrExpired), "trusted", "1 2 3")
}

// TestWatchGone: a new watch takes the place of the one there was; one that may not be does not.
func TestWatchGone(t *testing.T) { // P24.1 (O1), rule 3
	d := world(t, "new 3 4", "block 0 1", "block 0 1", "block 1 1", "watch 0 1 2 100 1")
	play(t, d, "follow 3", "1", "trusted", "1 3", "watch 1 1 2 0 1", refused(api.ErrOptions), "trusted", "1 3", "watch 1 1 2 2 1", refused(api.ErrExpired), "trusted", "1 3",
		"watch 1 1 2 100 1", "ok", "trusted", "1", "follow 3", refused(api.ErrBlock), "follow 2", "1", "trusted", "1 2",
		"watch 0 1 2 100 1", "ok", "trusted", "1", "follow 3", "1",
		"new 0 1", refused(api.ErrArg), "trusted", "1 3", "new 3 4", "ok", "trusted", refused(api.ErrFetch), "follow 2", refused(api.ErrFetch), "header 1", refused(api.ErrFetch))
}

// TestNoWatch: without a watch it is ErrFetch, whatever the height.
func TestNoWatch(t *testing.T) { // P24.1 (O1)
	d := world(t, "new 3 4", "block 0 1")
	for _, h := range []string{"0", "1", "2", "3", "999999999"} {
		play(t, d, "follow "+h, refused(api.ErrFetch), "header "+h, refused(api.ErrFetch))
	}
	play(t, d, "trusted", refused(api.ErrFetch), "watch 0 1 4 100 1", refused(api.ErrOptions), "trusted", refused(api.ErrFetch))
}

// TestFollow: the errors of Goal and of Light, and what stays then.
func TestFollow(t *testing.T) { // P24.1 (O1)
	d := world(t, "new 3 4", "block 0 1", "block 0 1", "block 0 1", "watch 0 1 1 100 1")
	play(t, d,
		"follow 0", refused(api.ErrOrder), "follow 1", refused(api.ErrOrder), "follow 5", refused(api.ErrBlock), "trusted", "1",
		"follow 2", "1", "follow 1", refused(api.ErrOrder), "follow 2", refused(api.ErrOrder), "follow 999999999", refused(api.ErrBlock), "trusted", "1 2",
		"follow 4", "2", "trusted", "1 2 3 4", "follow 4", refused(api.ErrOrder), "follow 5", refused(api.ErrBlock),
		"block 1 1", "", "follow 5", refused(api.ErrBlock), "block 0 1", "", "follow 5", "1", "trusted", "1 2 3 4 5")
}

// TestSteps: a goal takes 200 fetches and no more; what is trusted by then stays.
func TestSteps(t *testing.T) { // P24.1 (O1)
	start := func(n int) *desk.Desk {
		d := world(t, "new 1 1")
		blocks(t, d, 0, n)
		all(t, d, "watch 0 1 1 100000 1")
		return d
	}
	play(t, start(200), "follow 201", "200")
	d := start(230)
	play(t, d, "follow 202", refused(api.ErrSteps))
	// By hand: the wanted heights are 202, 101, 51, .., so all up to 201 are given; of these all are trusted but those that pend still.
	heights := strings.Fields(told(t, d, "trusted"))
	if len(heights) < 150 || len(heights) > 201 {
		t.Fatalf("%d are trusted", len(heights))
	}
	for i, h := range heights {
		if h != strconv.Itoa(i+1) {
			t.Fatalf("the trusted are %v", heights)
		}
	}
	play(t, d, "header "+strconv.Itoa(len(heights)+1), refused(api.ErrFetch), "follow 202", strconv.Itoa(202-len(heights)), "follow 231", "29")
}

// same are a world and a light client, asked beside a desk.
type same struct {
	w *relay.World
	c *bisect.Client
}

// TestAgainstClient: a watch trusts what a light client does that is given what it wants.
func TestAgainstClient(t *testing.T) { // P24.1 (O1), T2
	r := random()
	for range 60 {
		a, b, i := 1+r.IntN(8), 1+r.IntN(8), r.IntN(2)
		d := world(t, "new "+strconv.Itoa(a)+" "+strconv.Itoa(b))
		w, _ := relay.New(a, b)
		den := 1 + r.IntN(6)
		num := min(den, (den+2)/3+r.IntN(4)) // a third at least, and at most all
		period, drift := pick(r, 20, 60, 400), r.IntN(4)
		all(t, d, "watch "+strconv.Itoa(i)+" "+strconv.Itoa(num)+" "+strconv.Itoa(den)+" "+strconv.Itoa(period)+" "+strconv.Itoa(drift))
		root, _ := w.Chain(i).Light(1)
		c, e := bisect.New(root, 10, api.Options{Level: float64(num) / float64(den), Period: float64(period), Drift: float64(drift)})
		if e != api.OK {
			t.Fatalf("bisect.New: %d", e)
		}
		x := same{w, c}
		for range 60 {
			x.step(t, d, i, pick(r, i, i, i, 1-i), 1+r.IntN(3), r.IntN(5) == 0, w.Chain(i).Height()+r.IntN(9)-6)
		}
	}
}

// step makes a block, or follows to a height, at both.
func (x same) step(t *testing.T, d *desk.Desk, watched, i, wait int, follow bool, height int) {
	t.Helper()
	if !follow || height < 0 {
		all(t, d, "block "+strconv.Itoa(i)+" "+strconv.Itoa(wait))
		x.w.Block(i, wait)
		return
	}
	e := x.c.Goal(height)
	for e == api.OK && x.c.Want() != 0 {
		var l api.Light
		if l, e = x.w.Chain(watched).Light(x.c.Want()); e == api.OK {
			e = x.c.Give(l, float64(x.w.Clock()))
		}
	}
	want := strconv.Itoa(x.c.Fetches())
	if e != api.OK {
		want = refused(e)
	}
	play(t, d, "follow "+strconv.Itoa(height), want)
	var heights []string
	for _, l := range x.c.Store() {
		h, _ := forms.HeaderHash(l.Header)
		heights = append(heights, strconv.Itoa(l.Header.Height))
		play(t, d, "header "+strconv.Itoa(l.Header.Height), blake.Text(h))
	}
	play(t, d, "trusted", strings.Join(heights, " "))
	for h := range x.w.Chain(watched).Height() + 2 {
		if !slices.Contains(heights, strconv.Itoa(h)) {
			play(t, d, "header "+strconv.Itoa(h), refused(api.ErrFetch))
		}
	}
}

// TestHeaders: of each chain its own, as many figures as a hash has.
func TestHeaders(t *testing.T) { // P24.1 (O1)
	d, w := world(t, "new 2 3"), func() *relay.World { w, _ := relay.New(2, 3); return w }()
	for _, i := range []int{0, 1, 0, 1, 1, 0} {
		all(t, d, "block "+strconv.Itoa(i)+" 5")
		w.Block(i, 5)
	}
	seen := map[string]bool{}
	for i := range 2 {
		all(t, d, "watch "+strconv.Itoa(i)+" 1 1 100 1", "follow 4")
		for h := 1; h <= 4; h++ {
			l, _ := w.Chain(i).Light(h)
			hash, e := forms.HeaderHash(l.Header)
			if e != api.OK {
				t.Fatalf("HeaderHash: %d", e)
			}
			play(t, d, "header "+strconv.Itoa(h), blake.Text(hash))
			seen[blake.Text(hash)] = true
		}
		play(t, d, "header 0", refused(api.ErrFetch), "header 5", refused(api.ErrFetch), "header 999999999", refused(api.ErrFetch))
	}
	if len(seen) != 8 {
		t.Errorf("%d unlike headers, not 8", len(seen))
	}
}
