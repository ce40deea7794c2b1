package wal_test

import (
	"bytes"
	"encoding/hex"
	"math/rand/v2"
	"slices"
	"testing"

	"nuncio/api"
	"nuncio/blake"
	"nuncio/tape"
	"nuncio/wal"
)

func random() *rand.Rand { return rand.New(rand.NewPCG(11, 12)) }

func ok(t *testing.T, name string, e api.Errno) {
	t.Helper()
	if e != api.OK {
		t.Fatalf("%s: %d", name, e)
	}
}

// open is a log that must be there.
func open(t *testing.T, x *tape.Tape) *wal.Log {
	t.Helper()
	l, e := wal.Open(x)
	if e != api.OK || l == nil {
		t.Fatalf("Open: %v, %d", l, e)
	}
	return l
}

// tapeOf has bytes, none of them safe.
func tapeOf(t *testing.T, b []byte) *tape.Tape {
	t.Helper()
	x := tape.New()
	ok(t, "tape", x.Append(b))
	return x
}

// framed is a frame of any length, tag and record, by the document's words: the record may be none that a log takes.
func framed(tag byte, length int, record string) []byte {
	head := []byte{byte(length / 256), byte(length % 256)}
	digest := blake.Sum([]byte(string([]byte{tag}) + string(head) + record))
	return append(append(head, digest[:4]...), record...)
}

// frames are those of records, one behind the other.
func frames(records ...string) []byte {
	var b []byte
	for _, r := range records {
		b = append(b, framed(4, len(r), r)...)
	}
	return b
}

func texts(l [][]byte) []string {
	out := []string{}
	for _, b := range l {
		out = append(out, string(b))
	}
	return out
}

// has tells whether a log has just these records, so many of them synced.
func has(t *testing.T, name string, l *wal.Log, synced int, want ...string) {
	t.Helper()
	if got := texts(l.Records()); !slices.Equal(got, want) || l.Synced() != synced {
		t.Errorf("%s: %.80q, %d synced; want %.80q, %d", name, got, l.Synced(), want, synced)
	}
}

// scanned tells whether bytes have just these records at their beginning.
func scanned(t *testing.T, name string, b []byte, want ...string) {
	t.Helper()
	records, n := wal.Scan(b)
	if !slices.Equal(texts(records), want) || n != len(frames(want...)) {
		t.Errorf("%s: %.80q, %d; want %.80q, %d", name, texts(records), n, want, len(frames(want...)))
	}
}

// big is a record of so many bytes.
func big(n int) string { return string(bytes.Repeat([]byte("x"), n)) }

// counted has each byte once, from nought on.
func counted() string {
	b := make([]byte, 256)
	for i := range b {
		b[i] = byte(i)
	}
	return string(b)
}

// P11.1: frames' beginnings, of another implementation.
func TestFramesWrittenOut(t *testing.T) {
	for _, c := range []struct{ record, begins string }{
		{"a", "0001091c5a5061"},
		{"one", "000378881d9b6f6e65"},
		{"two", "0003e9fc87f974776f"},
		{"\x00", "000170475ea500"},
		{counted(), "0100847c6892000102030405"},
		{big(api.MaxText), "1000b85ef706787878787878"},
	} {
		x := tape.New()
		ok(t, "Append", open(t, x).Append([]byte(c.record)))
		b := x.Read()
		begins, err := hex.DecodeString(c.begins)
		if err != nil || len(b) != 6+len(c.record) || !bytes.HasPrefix(b, begins) || !bytes.HasSuffix(b, []byte(c.record)) {
			t.Errorf("%.9q: %x", c.record, b[:min(len(b), 12)])
		}
		if !bytes.Equal(b, frames(c.record)) {
			t.Errorf("%.9q: the test's own frame is another one", c.record)
		}
		scanned(t, "Scan", b, c.record)
	}
}

// P11.1, J1: records, one behind the other.
func TestScan(t *testing.T) {
	scanned(t, "nil", nil)
	scanned(t, "none", []byte{})
	scanned(t, "one", frames("a"), "a")
	scanned(t, "the same twice", frames("a", "a"), "a", "a")
	l := []string{"a", "", "bc", counted(), "\x00", big(api.MaxText), "\x00\x01", "z"}
	l[1] = big(255)
	scanned(t, "several", frames(l...), l...)
	scanned(t, "a frame in a record", frames(string(frames("a", "b")), "c"), string(frames("a", "b")), "c")
}

// P11.1, J1: bytes that are missing, from whichever place on.
func TestScanTorn(t *testing.T) {
	l := []string{"a", "two", big(9)}
	b := frames(l...)
	for n := range len(b) {
		whole := 0
		for whole < len(l) && len(frames(l[:whole+1]...)) <= n {
			whole++
		}
		scanned(t, "torn", b[:n], l[:whole]...)
		scanned(t, "torn, with nothing behind in memory", b[:n:n], l[:whole]...)
	}
}

// P11.1, J1: a frame with any bit turned is none, and nothing behind it is.
func TestScanBent(t *testing.T) {
	b := frames("one", "two", "more")
	for at := range 8 * 9 {
		bent := slices.Clone(b)
		bent[9+at/8] ^= 1 << (at % 8)
		scanned(t, "bent", bent, "one")
	}
	first := slices.Clone(b)
	first[0] ^= 1
	scanned(t, "bent at once", first)
}

// P11.1, J1: bytes that are almost a frame.
func TestScanAlmost(t *testing.T) {
	low := framed(4, 3, "one")
	low[0], low[1] = low[1], low[0]
	unsaid := slices.Concat([]byte{0, 3}, framed(4, 3, "")[2:6], []byte("one"))
	parts := blake.Sum([]byte("\x04one"))
	turned := framed(4, 3, "one")
	slices.Reverse(turned[2:6])
	digest := blake.Sum([]byte("\x04\x00\x03one"))
	for _, c := range []struct {
		name string
		b    []byte
	}{
		{"a record of no bytes", framed(4, 0, "")},
		{"a record of no bytes, and something behind", append(framed(4, 0, ""), "abc"...)},
		{"a record that is too long", framed(4, api.MaxText+1, big(api.MaxText+1))},
		{"the longest length", framed(4, 65535, big(65535))},
		{"a length that is too great", framed(4, 4, "one")},
		{"a length that is too small", framed(4, 2, "one")},
		{"the lower byte first", low},
		{"a check of the lower byte first", slices.Concat([]byte{0, 3}, framed(4, 768, "one")[2:])},
		{"another tag", framed(3, 3, "one")},
		{"tag 0", framed(0, 3, "one")},
		{"a check of the length alone", unsaid},
		{"a check of the record alone", slices.Concat([]byte{0, 3}, parts[:4], []byte("one"))},
		{"a check turned round", turned},
		{"the digest's end", slices.Concat([]byte{0, 3}, digest[28:], []byte("one"))},
		{"a check of five bytes", slices.Concat([]byte{0, 3}, digest[:5], []byte("one"))},
		{"a check of three bytes", slices.Concat([]byte{0, 3}, digest[:3], []byte("one"))},
		{"noughts", make([]byte, 64)},
		{"noughts ahead of a frame", append([]byte{0}, frames("one")...)},
	} {
		scanned(t, c.name, c.b)
		scanned(t, c.name+", behind records", slices.Concat(frames("a", "b"), c.b), "a", "b")
		scanned(t, c.name+", ahead of a record", slices.Concat(frames("a"), c.b, frames("c")), "a")
	}
}

// P11.1, J1: lengths at the limits.
func TestScanLengths(t *testing.T) {
	for _, n := range []int{1, 2, 255, 256, 257, 511, 512, api.MaxText - 1, api.MaxText} {
		scanned(t, "a length", frames("a", big(n), "b"), "a", big(n), "b")
	}
}

// P11.1, J2: a log on an empty tape.
func TestOpenEmpty(t *testing.T) {
	x := tape.New()
	l := open(t, x)
	has(t, "Open", l, 0)
	if len(x.Read()) != 0 || x.Calls() != 1 {
		t.Errorf("%d bytes, %d calls", len(x.Read()), x.Calls())
	}
}

// P11.1, J2: each call, one behind the other.
func TestCalls(t *testing.T) {
	x := tape.New()
	l := open(t, x)
	ok(t, "Append", l.Append([]byte("one")))
	has(t, "Append", l, 0, "one")
	if !bytes.Equal(x.Read(), frames("one")) || x.Safe() != 0 || x.Calls() != 2 {
		t.Errorf("Append: %x, %d safe, %d calls", x.Read(), x.Safe(), x.Calls())
	}
	ok(t, "Append", l.Append([]byte("two")))
	has(t, "Append", l, 0, "one", "two")
	ok(t, "Sync", l.Sync())
	has(t, "Sync", l, 2, "one", "two")
	if x.Safe() != 18 || x.Calls() != 4 {
		t.Errorf("Sync: %d safe, %d calls", x.Safe(), x.Calls())
	}
	ok(t, "Append", l.Append([]byte("one")))
	has(t, "the same one again", l, 2, "one", "two", "one")
	if !bytes.Equal(x.Read(), frames("one", "two", "one")) || x.Safe() != 18 || x.Calls() != 5 {
		t.Errorf("Append: %x, %d safe, %d calls", x.Read(), x.Safe(), x.Calls())
	}
	ok(t, "Sync", l.Sync())
	ok(t, "Sync", l.Sync())
	has(t, "Sync twice", l, 3, "one", "two", "one")
	if x.Safe() != 27 || x.Calls() != 7 {
		t.Errorf("Sync twice: %d safe, %d calls", x.Safe(), x.Calls())
	}
}

// P11.1, J2: what is there at first is synced, whether it was safe or not.
func TestOpenFound(t *testing.T) {
	x := tapeOf(t, frames("one", "two"))
	l := open(t, x)
	has(t, "Open", l, 2, "one", "two")
	if !bytes.Equal(x.Read(), frames("one", "two")) || x.Safe() != 18 || x.Calls() != 2 {
		t.Errorf("Open: %x, %d safe, %d calls", x.Read(), x.Safe(), x.Calls())
	}
	ok(t, "Append", l.Append([]byte("three")))
	has(t, "Append", l, 2, "one", "two", "three")
	has(t, "opened again", open(t, x), 3, "one", "two", "three")
	if x.Safe() != 29 || x.Calls() != 4 {
		t.Errorf("opened again: %d safe, %d calls", x.Safe(), x.Calls())
	}
}

// P11.1, J2, and P11.3: what is no record's is trimmed away, at once and for good.
func TestOpenTrims(t *testing.T) {
	for _, behind := range []string{"x", "\x00", big(50), string(frames("torn")[:9]), string(framed(4, 0, "")), string(framed(5, 1, "a")) + string(frames("a"))} {
		x := tapeOf(t, append(frames("one", "two"), behind...))
		l := open(t, x)
		has(t, "Open", l, 2, "one", "two")
		if !bytes.Equal(x.Read(), frames("one", "two")) || x.Safe() != 18 || x.Calls() != 2 {
			t.Errorf("Open: %x, %d safe, %d calls", x.Read(), x.Safe(), x.Calls())
		}
		ok(t, "Append", l.Append([]byte("three")))
		ok(t, "Sync", l.Sync())
		has(t, "opened again", open(t, x), 3, "one", "two", "three")
		y := tapeOf(t, []byte(behind))
		has(t, "nothing but what is no record's", open(t, y), 0)
		if len(y.Read()) != 0 || y.Safe() != 0 || y.Calls() != 2 {
			t.Errorf("Open: %x, %d safe, %d calls", y.Read(), y.Safe(), y.Calls())
		}
	}
}

// P11.1, J2: a log on no tape.
func TestOpenNil(t *testing.T) {
	if l, e := wal.Open(nil); l != nil || e != api.ErrArg {
		t.Errorf("%v, %d", l, e)
	}
}

// P11.1, J2, and rule 3: what is no record changes nothing.
func TestAppendBounds(t *testing.T) {
	x := tape.New()
	l := open(t, x)
	ok(t, "one byte", l.Append([]byte{0}))
	ok(t, "all that may be", l.Append([]byte(big(api.MaxText))))
	for _, b := range [][]byte{nil, {}, make([]byte, api.MaxText+1), make([]byte, 1<<16), make([]byte, 1<<16+1), make([]byte, api.MaxTape+1)} {
		if e := l.Append(b); e != api.ErrArg {
			t.Errorf("%d bytes: %d", len(b), e)
		}
	}
	has(t, "none of these", l, 0, "\x00", big(api.MaxText))
	if !bytes.Equal(x.Read(), frames("\x00", big(api.MaxText))) || x.Safe() != 0 || x.Calls() != 3 {
		t.Errorf("%d bytes, %d safe, %d calls", len(x.Read()), x.Safe(), x.Calls())
	}
}

// fill is a log whose tape has room for so many bytes still, and what it has.
func fill(t *testing.T, room int) (*tape.Tape, *wal.Log, []string) {
	t.Helper()
	x := tape.New()
	l := open(t, x)
	var records []string
	for left := api.MaxTape - room; left > 0; {
		n := min(left, 4000)
		if left > n && left < n+7 { // no frame has less than 7 bytes
			n -= 7
		}
		records = append(records, big(n-6))
		ok(t, "fill", l.Append([]byte(big(n-6))))
		left -= n
	}
	if len(x.Read()) != api.MaxTape-room {
		t.Fatalf("filled: %d bytes", len(x.Read()))
	}
	return x, l, records
}

// P11.1, J2, and rule 3: a frame that has no room on the tape.
func TestAppendFull(t *testing.T) {
	for _, room := range []int{0, 6, 7, 8, 9} {
		x, l, records := fill(t, room)
		ok(t, "Sync", l.Sync())
		calls := x.Calls()
		for _, n := range []int{max(room-5, 1), 100, api.MaxText} {
			if e := l.Append([]byte(big(n))); e != api.ErrTapeFull {
				t.Errorf("%d bytes into %d: %d", n, room, e)
			}
		}
		has(t, "full", l, len(records), records...)
		if len(x.Read()) != api.MaxTape-room || x.Calls() != calls {
			t.Errorf("full: %d bytes, %d calls", len(x.Read()), x.Calls())
		}
		if e := l.Append(nil); e != api.ErrArg {
			t.Errorf("none into %d: %d", room, e)
		}
		if e := l.Append(make([]byte, api.MaxText+1)); e != api.ErrArg {
			t.Errorf("too many into %d: %d", room, e)
		}
		if room >= 7 {
			ok(t, "what has room", l.Append([]byte(big(room-6))))
			records = append(records, big(room-6))
			has(t, "full", l, len(records)-1, records...)
		}
		has(t, "full, opened", open(t, x), len(records), records...)
	}
}

// P11.1, J2: Synced tells of the last Sync, not of later records.
func TestSynced(t *testing.T) {
	l := open(t, tapeOf(t, frames("one")))
	for i, want := range []int{1, 1, 3, 3, 3, 6, 6} {
		if i%3 == 2 {
			ok(t, "Sync", l.Sync())
		}
		if l.Synced() != want {
			t.Errorf("call %d: %d, want %d", i, l.Synced(), want)
		}
		ok(t, "Append", l.Append([]byte("x")))
	}
}

// Rule 8: a nil log.
func TestNilLog(t *testing.T) {
	var l *wal.Log
	for _, b := range [][]byte{nil, []byte("a"), make([]byte, api.MaxText+1)} {
		if e := l.Append(b); e != api.ErrArg {
			t.Errorf("Append: %d", e)
		}
	}
	if e := l.Sync(); e != api.ErrArg {
		t.Errorf("Sync: %d", e)
	}
	if len(l.Records()) != 0 || l.Synced() != 0 {
		t.Errorf("%q, %d", l.Records(), l.Synced())
	}
}

// P1: a log that no call gave does not panic either.
func TestNoLog(t *testing.T) {
	l := &wal.Log{}
	if a, b := l.Append([]byte("a")), l.Sync(); a != api.ErrArg || b != api.ErrArg {
		t.Errorf("%d, %d", a, b)
	}
	has(t, "no log", l, 0)
}

// Rule 4: what is handed in is neither written nor kept, and what is answered is new memory.
func TestNothingIsShared(t *testing.T) {
	whole := []byte("abcdef")
	x := tape.New()
	l := open(t, x)
	ok(t, "Append", l.Append(whole[:3]))
	ok(t, "Append", l.Append(whole[1:2]))
	if string(whole) != "abcdef" {
		t.Errorf("handed in, now %q", whole)
	}
	clear(whole)
	has(t, "nothing handed in is kept", l, 0, "abc", "b")
	spoil(l.Records())
	has(t, "nothing answered is kept", l, 0, "abc", "b")
	clear(x.Read())
	has(t, "nothing of the tape is kept", open(t, x), 2, "abc", "b")

	b := frames("abc", "b")
	records, _ := wal.Scan(b)
	if !bytes.Equal(b, frames("abc", "b")) {
		t.Errorf("scanned, now %x", b)
	}
	clear(b)
	if !slices.Equal(texts(records), []string{"abc", "b"}) {
		t.Errorf("%q hangs on the bytes", records)
	}
	for _, l := range [][][]byte{records, l.Records()} {
		_ = append(l[0], "more bytes than there were"...)
		clear(l[0][:cap(l[0])])
		if string(l[1]) != "b" {
			t.Errorf("%q hangs on its neighbour", l[1])
		}
	}
}

func spoil(l [][]byte) {
	for _, b := range l {
		clear(b[:cap(b)])
	}
	clear(l[:cap(l)])
}

// Rule 4: a log that was answered lists goes on, and these stay.
func TestAnswersStay(t *testing.T) {
	l := open(t, tape.New())
	var answers [][][]byte
	for i := range 40 {
		ok(t, "Append", l.Append([]byte{byte(i)}))
		answers = append(answers, l.Records())
		_ = append(l.Records(), []byte("x"))
	}
	for i, records := range answers {
		if len(records) != i+1 || records[i][0] != byte(i) {
			t.Errorf("answer %d: %q", i, records)
		}
	}
}

// moment is what a log had behind a call of its tape.
type moment struct{ all, synced int }

func randomRecord(r *rand.Rand) string {
	b := make([]byte, 1+r.IntN(12))
	for i := range b {
		b[i] = byte(r.Uint32())
		if r.IntN(3) == 0 {
			b[i] = 0
		}
	}
	return string(b)
}

// goOn does some calls on a log, writes down each moment, and answers the records.
func goOn(t *testing.T, r *rand.Rand, l *wal.Log, records []string, moments []moment) ([]string, []moment) {
	t.Helper()
	for range 1 + r.IntN(14) {
		if r.IntN(4) == 0 {
			ok(t, "Sync", l.Sync())
			moments = append(moments, moment{len(records), len(records)})
		} else {
			record := randomRecord(r)
			ok(t, "Append", l.Append([]byte(record)))
			records = append(records, record)
			moments = append(moments, moment{len(records), moments[len(moments)-1].synced})
		}
		now := moments[len(moments)-1]
		has(t, "calls", l, now.synced, records...)
	}
	return records, moments
}

// P11.2: behind each call, however many bytes are torn, the log that is opened has the first so many records, and all that were synced.
func TestPower(t *testing.T) {
	r := random()
	for range 60 {
		x := tape.New()
		records, moments := goOn(t, r, open(t, x), nil, []moment{{}, {}}) // New, Open
		if x.Calls() != len(moments)-1 {
			t.Fatalf("%d calls, %d moments", x.Calls(), len(moments))
		}
		for at, m := range moments {
			unsafe := len(frames(records[m.synced:m.all]...))
			for torn := range unsafe + 1 {
				y := x.Cut(at, torn)
				left := leftOf(records[m.synced:m.all], torn)
				has(t, "behind a loss of power", open(t, y), m.synced+left, records[:m.synced+left]...)
				if !bytes.Equal(y.Read(), frames(records[:m.synced+left]...)) || y.Safe() != len(y.Read()) {
					t.Fatalf("the tape has %x, %d safe", y.Read(), y.Safe())
				}
			}
		}
		if t.Failed() {
			t.Fatalf("%q", records)
		}
	}
}

// leftOf is how many records' frames are whole in so many bytes.
func leftOf(records []string, n int) int {
	for i, r := range records {
		if n -= 6 + len(r); n < 0 {
			return i
		}
	}
	return len(records)
}

// P11.2: power goes again and again, and the log goes on from what it left.
func TestPowerAgain(t *testing.T) {
	r := random()
	for range 60 {
		x := tape.New()
		l := open(t, x)
		var records []string
		for range 25 {
			var moments []moment
			records, moments = goOn(t, r, l, records, []moment{{len(records), len(records)}})
			m := moments[len(moments)-1]
			x = x.Cut(x.Calls(), int(r.Uint64()))
			l = open(t, x)
			n := len(l.Records())
			if n < m.synced || n > m.all {
				t.Fatalf("%d records of %d, %d synced", n, m.all, m.synced)
			}
			records = records[:n]
			has(t, "goes on", l, n, records...)
		}
		if t.Failed() {
			t.Fatalf("%q", records)
		}
	}
}

// P11.2: power that goes while a log is opened and trims takes nothing that was synced.
func TestPowerWhileOpened(t *testing.T) {
	x := tape.New()
	l := open(t, x)
	ok(t, "Append", l.Append([]byte("one")))
	ok(t, "Sync", l.Sync())
	ok(t, "Append", l.Append([]byte("two")))
	y := x.Cut(x.Calls(), 5)
	m := open(t, y)
	ok(t, "Append", m.Append([]byte("three")))
	has(t, "behind nothing", open(t, y.Cut(0, 0)), 1, "one")
	has(t, "behind Trim", open(t, y.Cut(1, 0)), 1, "one")
	has(t, "behind Append, torn", open(t, y.Cut(2, 10)), 1, "one")
	has(t, "behind Append", open(t, y.Cut(2, 11)), 2, "one", "three")
	has(t, "the log ahead of it all", l, 1, "one", "two")
}

// plainScan goes through bytes by the document's words, from the end of what is known to be frames.
func plainScan(b []byte) []string {
	records := []string{}
	for {
		known := len(frames(records...))
		found := ""
		for n := 1; n <= api.MaxText && known+6+n <= len(b); n++ {
			if record := string(b[known+6 : known+6+n]); int(b[known])*256+int(b[known+1]) == n && bytes.Equal(frames(record), b[known:known+6+n]) {
				found = record
			}
		}
		if found == "" {
			return records
		}
		records = append(records, found)
	}
}

// randomBytes are frames, whole, torn and bent ones, and any bytes.
func randomBytes(r *rand.Rand) []byte {
	var b []byte
	for range r.IntN(6) {
		f := frames(randomRecord(r))
		switch r.IntN(12) {
		case 0:
			f = f[:r.IntN(len(f))]
		case 1:
			f[r.IntN(len(f))] ^= 1 << r.IntN(8)
		case 2:
			f = []byte(randomRecord(r))
		case 3:
			f = framed(byte(r.IntN(9)), r.IntN(5), randomRecord(r))
		case 4:
			f = frames(big(1 + r.IntN(api.MaxText)))
		}
		b = append(b, f...)
	}
	return b
}

// P11.3, and P11.1 against plainScan: any bytes are a log's.
func TestAnyBytes(t *testing.T) {
	r := random()
	for range 2000 {
		b := randomBytes(r)
		want := plainScan(b)
		scanned(t, "any bytes", b, want...)
		x := tapeOf(t, b)
		if r.IntN(2) == 0 {
			ok(t, "Sync", x.Sync())
		}
		calls := x.Calls()
		l := open(t, x)
		has(t, "any bytes", l, len(want), want...)
		left := frames(want...)
		if !bytes.Equal(x.Read(), left) || x.Safe() != len(left) || x.Calls() != calls+1 {
			t.Fatalf("%x: left %x, %d safe, %d calls", b, x.Read(), x.Safe(), x.Calls()-calls)
		}
		ok(t, "Append", l.Append([]byte("more")))
		has(t, "any bytes, opened again", open(t, x), len(want)+1, append(want, "more")...)
		if t.Failed() {
			t.Fatalf("%x", b)
		}
	}
}

// P11.3: a full tape of the smallest records, and one without any.
func TestFullTapes(t *testing.T) {
	one := frames("a")
	n := api.MaxTape / len(one)
	x := tapeOf(t, append(bytes.Repeat(one, n), make([]byte, api.MaxTape%len(one))...))
	l := open(t, x)
	if len(l.Records()) != n || l.Synced() != n || len(x.Read()) != n*len(one) {
		t.Errorf("%d records, %d synced, %d bytes; want %d", len(l.Records()), l.Synced(), len(x.Read()), n)
	}
	for _, b := range []byte{0, 1, 255} {
		y := tapeOf(t, bytes.Repeat([]byte{b}, api.MaxTape))
		has(t, "a full tape of one byte", open(t, y), 0)
		if len(y.Read()) != 0 {
			t.Errorf("%d bytes are left", len(y.Read()))
		}
	}
}

// P1: any bytes, scanned at any place.
func TestScanAnywhere(t *testing.T) {
	b := append(frames("one", big(300), "two"), randomBytes(random())...)
	for at := range len(b) {
		records, n := wal.Scan(b[at:])
		if n > len(b)-at || n != len(frames(texts(records)...)) {
			t.Fatalf("from %d: %d, %q", at, n, records)
		}
	}
}

// P2: the same calls are answered alike, whatever other logs do.
func TestSameCalls(t *testing.T) {
	r := random()
	x, y := tape.New(), tape.New()
	l, m := open(t, x), open(t, y)
	for i := range 200 {
		if i%5 == 4 {
			ok(t, "Sync", l.Sync())
			ok(t, "Sync", m.Sync())
		}
		record := []byte(randomRecord(r))
		ok(t, "Append", l.Append(record))
		ok(t, "Append", open(t, x.Cut(i, i)).Append([]byte("other")))
		ok(t, "Append", m.Append(record))
		has(t, "the other one", m, l.Synced(), texts(l.Records())...)
		if !bytes.Equal(x.Read(), y.Read()) || x.Safe() != y.Safe() || x.Calls() != y.Calls() {
			t.Fatalf("unlike tapes behind %d", i)
		}
	}
}
