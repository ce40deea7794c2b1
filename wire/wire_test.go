package wire

import (
	"bytes"
	"math"
	"math/rand/v2"
	"slices"
	"strings"
	"testing"

	"nuncio/api"
)

func random() *rand.Rand { return rand.New(rand.NewPCG(3, 4)) }

// full is a hash without noughts.
func full() api.Hash {
	var h api.Hash
	for i := range h {
		h[i] = byte(i + 1)
	}
	return h
}

// field is one of the four kinds: what it is, and which bytes W1 asks for, written out beside the program.
type field struct {
	kind   string
	number int
	word   uint64
	hash   api.Hash
	text   string
	bytes  string
}

func eight(n uint64) string {
	return string([]byte{byte(n >> 56), byte(n >> 48), byte(n >> 40), byte(n >> 32), byte(n >> 24), byte(n >> 16), byte(n >> 8), byte(n)})
}

func numberField(n int) field { return field{kind: "number", number: n, bytes: eight(uint64(n))} }

func wordField(n uint64) field { return field{kind: "word", word: n, bytes: eight(n)} }

func hashField(h api.Hash) field { return field{kind: "hash", hash: h, bytes: string(h[:])} }

func textField(s string) field {
	return field{kind: "text", text: s, bytes: string([]byte{byte(len(s) / 256), byte(len(s) % 256)}) + s}
}

func (f field) write(w *Writer) {
	switch f.kind {
	case "number":
		w.Number(f.number)
	case "word":
		w.Word(f.word)
	case "hash":
		w.Hash(f.hash)
	case "text":
		w.Text(f.text)
	}
}

// read is the field of that kind that a reader has next, without its bytes.
func (f field) read(r *Reader) field {
	got := field{kind: f.kind}
	switch f.kind {
	case "number":
		got.number = r.Number()
	case "word":
		got.word = r.Word()
	case "hash":
		got.hash = r.Hash()
	case "text":
		got.text = r.Text()
	}
	return got
}

func (f field) plain() field {
	f.bytes = ""
	return f
}

// edges are fields of all kinds at their ends.
func edges() []field {
	l := []field{hashField(api.Hash{}), hashField(full())}
	for _, n := range []int{0, 1, -1, 2, -2, 127, 128, 255, 256, -255, -256, -257, 1 << 31, -1 << 31, math.MaxInt - 1, math.MaxInt, math.MinInt, math.MinInt + 1, 0x0102030405060708} {
		l = append(l, numberField(n))
	}
	for _, n := range []uint64{0, 1, 255, 256, 258, 1 << 63, 1<<63 - 1, math.MaxUint64, math.MaxUint64 - 1, 0x0807060504030201} {
		l = append(l, wordField(n))
	}
	for _, n := range []int{0, 1, 2, 255, 256, 257, api.MaxText - 1, api.MaxText} {
		l = append(l, textField(strings.Repeat("t", n)))
	}
	for _, s := range []string{"hi", "\x00", "\x00\x00", "\xff\xfe", "a\x00b", "\u00e9\u4e16", "\xe9"} {
		l = append(l, textField(s))
	}
	return l
}

func randomField(r *rand.Rand) field {
	switch r.IntN(5) {
	case 0:
		return numberField(int(r.Uint64()) >> r.IntN(64))
	case 1:
		return wordField(r.Uint64() >> r.IntN(64))
	case 2:
		var h api.Hash
		for i := range h {
			h[i] = byte(r.Uint32())
		}
		return hashField(h)
	case 3:
		return edges()[r.IntN(len(edges()))]
	}
	b := make([]byte, r.IntN(api.MaxText+1)>>r.IntN(13))
	for i := range b {
		b[i] = byte(r.Uint32())
	}
	return textField(string(b))
}

func written(fields ...field) ([]byte, api.Errno) {
	w := NewWriter()
	for _, f := range fields {
		f.write(w)
	}
	return w.Bytes()
}

// isBroken holds that every further answer of a reader is zero.
func isBroken(t *testing.T, what string, r *Reader) {
	t.Helper()
	for range 2 {
		n, w, h, s := r.Number(), r.Word(), r.Hash(), r.Text()
		if n != 0 || w != 0 || h != (api.Hash{}) || s != "" {
			t.Errorf("%s: a broken reader: %d, %d, %v, %q", what, n, w, h, s)
		}
		for _, most := range []int{math.MinInt, -1, 0, 1, math.MaxInt} {
			if n := r.Count(most); n != 0 {
				t.Errorf("%s: a broken reader's Count(%d): %d", what, most, n)
			}
		}
		if e := r.End(); e != api.ErrWire {
			t.Errorf("%s: a broken reader's End: %d", what, e)
		}
	}
}

func TestBytesOfAField(t *testing.T) { // P2.1 (W1)
	for _, f := range edges() {
		if b, e := written(f); string(b) != f.bytes || e != api.OK {
			t.Errorf("%+v: %v, %d", f.plain(), b, e)
		}
	}
	// These are written out whole.
	for _, c := range []struct {
		f    field
		want string
	}{
		{numberField(-2), "\xff\xff\xff\xff\xff\xff\xff\xfe"}, {numberField(258), "\x00\x00\x00\x00\x00\x00\x01\x02"},
		{numberField(math.MaxInt), "\x7f\xff\xff\xff\xff\xff\xff\xff"}, {numberField(math.MinInt), "\x80\x00\x00\x00\x00\x00\x00\x00"},
		{wordField(0x0102030405060708), "\x01\x02\x03\x04\x05\x06\x07\x08"}, {wordField(math.MaxUint64), "\xff\xff\xff\xff\xff\xff\xff\xff"},
		{hashField(full()), "\x01\x02\x03\x04\x05\x06\x07\x08\x09\x0a\x0b\x0c\x0d\x0e\x0f\x10\x11\x12\x13\x14\x15\x16\x17\x18\x19\x1a\x1b\x1c\x1d\x1e\x1f\x20"},
		{textField(""), "\x00\x00"}, {textField("hi"), "\x00\x02hi"}, {textField(strings.Repeat("a", 256)), "\x01\x00" + strings.Repeat("a", 256)},
		{textField(strings.Repeat("a", 4096)), "\x10\x00" + strings.Repeat("a", 4096)},
	} {
		if b, e := written(c.f); string(b) != c.want || e != api.OK {
			t.Errorf("%+v: %v, %d", c.f.plain(), b, e)
		}
	}
}

func TestNoFields(t *testing.T) { // P2.1 (W1)
	if b, e := NewWriter().Bytes(); len(b) != 0 || e != api.OK {
		t.Errorf("Bytes of no fields: %v, %d", b, e)
	}
}

func TestFieldsStandInOrder(t *testing.T) { // P2.1 (W1), P2.2
	r := random()
	for range 200 {
		w, want := NewWriter(), ""
		var fields []field
		for range r.IntN(20) {
			f := randomField(r)
			f.write(w)
			fields, want = append(fields, f), want+f.bytes
			if r.IntN(3) == 0 { // asked in the midst, a writer goes on
				if b, e := w.Bytes(); string(b) != want || e != api.OK {
					t.Fatalf("Bytes in the midst: %d of %d bytes, %d", len(b), len(want), e)
				}
			}
		}
		b, e := w.Bytes()
		if string(b) != want || e != api.OK {
			t.Fatalf("Bytes: %d of %d bytes, %d", len(b), len(want), e)
		}
		rd := NewReader(b)
		for _, f := range fields {
			if got := f.read(rd); got != f.plain() {
				t.Fatalf("written %+v, read %+v", f.plain(), got)
			}
		}
		if e := rd.End(); e != api.OK {
			t.Fatalf("End: %d", e)
		}
	}
}

func TestTextTooLong(t *testing.T) { // P2.1 (W1)
	// The lengths beyond two bytes would look like short ones.
	for _, n := range []int{api.MaxText + 1, 1<<16 - 1, 1 << 16, 1<<16 + 1, 1<<16 + api.MaxText, 1 << 20} {
		for _, ahead := range [][]field{nil, edges()} {
			w := NewWriter()
			for _, f := range ahead {
				f.write(w)
			}
			w.Text(strings.Repeat("x", n))
			for _, f := range append([]field{{}, textField("short"), textField("")}, edges()...) { // {} writes nothing
				f.write(w)
				if b, e := w.Bytes(); len(b) != 0 || e != api.ErrWire {
					t.Fatalf("a text of %d behind %d fields, then a %s: %d bytes, %d", n, len(ahead), f.kind, len(b), e)
				}
			}
			w.Text(strings.Repeat("x", n))
			if b, e := w.Bytes(); len(b) != 0 || e != api.ErrWire {
				t.Errorf("two texts of %d: %d bytes, %d", n, len(b), e)
			}
		}
	}
}

func TestBytesAreNew(t *testing.T) { // P2.1 (W1); rule 4
	w := NewWriter()
	w.Word(7)
	one, _ := w.Bytes()
	two, _ := w.Bytes()
	spare := one[:cap(one)]
	for i := range spare {
		spare[i] = 9
	}
	if string(two) != eight(7) {
		t.Errorf("two answers share memory: %v", two)
	}
	w.Word(8)
	three, e := w.Bytes()
	if string(three) != eight(7)+eight(8) || e != api.OK {
		t.Errorf("a writer and its answer share memory: %v, %d", three, e)
	}
	for _, b := range spare {
		if b != 9 {
			t.Errorf("what a writer answered was written into: %v", spare)
			break
		}
	}
}

func TestHashIsCopied(t *testing.T) { // P2.1 (W1); rule 4
	w, h := NewWriter(), full()
	w.Hash(h)
	h[0] = 99
	want := full()
	if b, _ := w.Bytes(); string(b) != string(want[:]) {
		t.Errorf("Bytes: %v", b)
	}
}

func TestWritersAndReadersAreApart(t *testing.T) { // P2
	v, w := NewWriter(), NewWriter()
	v.Word(1)
	w.Text(strings.Repeat("x", api.MaxText+1))
	b, e := v.Bytes()
	if string(b) != eight(1) || e != api.OK {
		t.Errorf("Bytes beside another writer: %v, %d", b, e)
	}
	q, r := NewReader(b), NewReader(b)
	q.Hash()
	if q.End() != api.ErrWire || r.Word() != 1 || r.End() != api.OK {
		t.Error("a reader beside a broken one")
	}
}

func TestReaderHasACopy(t *testing.T) { // P2.1 (W2); rule 4
	memory := []byte("\x00\x02hi" + eight(5) + "beyond")
	before := bytes.Clone(memory)
	r := NewReader(memory[:12])
	if s := r.Text(); s != "hi" {
		t.Errorf("Text: %q", s)
	}
	if !bytes.Equal(memory, before) {
		t.Errorf("what was handed in was written into: %q", memory)
	}
	clear(memory)
	if n := r.Number(); n != 5 {
		t.Errorf("Number: %d", n)
	}
	if e := r.End(); e != api.OK { // what lies behind the list is not read
		t.Errorf("End: %d", e)
	}
}

func TestReaderOfNothing(t *testing.T) { // P2.1 (W2)
	for _, b := range [][]byte{nil, {}, []byte("more")[:0]} {
		if e := NewReader(b).End(); e != api.OK {
			t.Errorf("End: %d", e)
		}
		for _, f := range []field{{kind: "number"}, {kind: "word"}, {kind: "hash"}, {kind: "text"}} {
			r := NewReader(b)
			if got := f.read(r); got != f {
				t.Errorf("a %s of nothing: %+v", f.kind, got)
			}
			isBroken(t, f.kind, r)
		}
		r := NewReader(b)
		if n := r.Count(math.MaxInt); n != 0 {
			t.Errorf("Count of nothing: %d", n)
		}
		isBroken(t, "Count", r)
	}
}

func TestBytesAreMissing(t *testing.T) { // P2.1 (W2)
	for _, f := range []field{numberField(-1), wordField(math.MaxUint64), hashField(full()), textField("\x01\x02\x03"), textField(strings.Repeat("\xff", 300)), textField(strings.Repeat("x", api.MaxText))} {
		for cut := range len(f.bytes) {
			r := NewReader([]byte(eight(6) + f.bytes[:cut]))
			if n := r.Word(); n != 6 {
				t.Fatalf("the field ahead: %d", n)
			}
			if got := f.read(r); got != (field{kind: f.kind}) {
				t.Fatalf("%d bytes of a %s: %+v", cut, f.kind, got)
			}
			isBroken(t, f.kind, r)
		}
	}
	for cut := range 8 {
		r := NewReader([]byte(eight(3)[8-cut:]))
		if n := r.Count(math.MaxInt); n != 0 {
			t.Errorf("%d bytes of a Count: %d", cut, n)
		}
		isBroken(t, "Count", r)
	}
}

// TestBrokenStaysSo: what a broken reader still has would be enough for other fields.
func TestBrokenStaysSo(t *testing.T) { // P2.1 (W2)
	r := NewReader([]byte(eight(1) + eight(2) + eight(3)))
	if h := r.Hash(); h != (api.Hash{}) {
		t.Errorf("Hash: %v", h)
	}
	isBroken(t, "a hash of 24 bytes", r)
	r = NewReader([]byte("\x00\x05\x00\x01a"))
	if s := r.Text(); s != "" {
		t.Errorf("Text: %q", s)
	}
	isBroken(t, "a text of 3 bytes that is said to have 5", r)
}

func TestTextSaidToBeTooLong(t *testing.T) { // P2.1 (W2)
	for _, n := range []int{api.MaxText + 1, api.MaxText + 256, 1 << 15, 1<<16 - 1} {
		for _, there := range []int{0, 1, api.MaxText, n, n + 100} {
			r := NewReader([]byte(string([]byte{byte(n >> 8), byte(n)}) + strings.Repeat("x", there)))
			if s := r.Text(); s != "" {
				t.Errorf("a text that is said to have %d bytes: %d", n, len(s))
			}
			isBroken(t, "a text that is too long", r)
		}
	}
}

func TestCount(t *testing.T) { // P2.1 (W2)
	ns := []int{math.MinInt, -1 << 31, -2, -1, 0, 1, 2, 31, 32, 33, 1 << 31, 1 << 32, math.MaxInt - 1, math.MaxInt}
	for _, n := range ns {
		for _, most := range ns {
			r := NewReader([]byte(eight(uint64(n)) + "\x00\x02hi"))
			got := r.Count(most)
			if n < 0 || n > most {
				if got != 0 {
					t.Errorf("Count(%d) of %d: %d", most, n, got)
				}
				isBroken(t, "Count", r)
				continue
			}
			if got != n {
				t.Errorf("Count(%d) of %d: %d", most, n, got)
			}
			if s := r.Text(); s != "hi" || r.End() != api.OK {
				t.Errorf("behind Count(%d) of %d: %q, %d", most, n, s, r.End())
			}
		}
	}
}

func TestEnd(t *testing.T) { // P2.1 (W2)
	for _, left := range []int{1, 2, 8, 5000} {
		r := NewReader([]byte(eight(4) + strings.Repeat("\x00", left)))
		if e := r.End(); e != api.ErrWire {
			t.Errorf("End ahead of all: %d", e)
		}
		if n := r.Number(); n != 4 { // End breaks nothing
			t.Errorf("Number behind End: %d", n)
		}
		for range 2 {
			if e := r.End(); e != api.ErrWire {
				t.Errorf("End with %d bytes left: %d", left, e)
			}
		}
	}
	r := NewReader([]byte(eight(4)))
	r.Word()
	for range 2 {
		if e := r.End(); e != api.OK {
			t.Errorf("End: %d", e)
		}
	}
	if n := r.Word(); n != 0 {
		t.Errorf("Word beyond the end: %d", n)
	}
	isBroken(t, "beyond the end", r)
}

// TestReadAndWrittenAgain: whatever bytes are read to their end, by whichever kinds of fields, these fields have just these bytes.
func TestReadAndWrittenAgain(t *testing.T) { // P2.2
	r := random()
	ended := 0
	for range 3000 {
		var b []byte
		for range r.IntN(6) {
			b = append(b, randomField(r).bytes...)
		}
		if r.IntN(2) == 0 && len(b) > 0 { // not what a writer has written
			b[r.IntN(min(len(b), 16))] = byte(r.Uint32())
		}
		rd := NewReader(b)
		var fields []field
		for rd.End() != api.OK && len(fields) < 30 {
			kind := field{kind: []string{"number", "word", "hash", "text"}[r.IntN(4)]}
			fields = append(fields, kind.read(rd))
		}
		if rd.End() != api.OK {
			continue
		}
		ended++
		if again, e := written(fields...); !bytes.Equal(again, b) || e != api.OK {
			t.Fatalf("%v, written again: %v, %d", b, again, e)
		}
	}
	if ended < 300 {
		t.Errorf("only %d were read to their ends", ended)
	}
}

func TestOtherBytesAreOtherFields(t *testing.T) { // P2.2
	b, _ := written(numberField(5), textField("hi"))
	for i := range b {
		for bit := range 8 {
			c := bytes.Clone(b)
			c[i] ^= 1 << bit
			r := NewReader(c)
			n, s := r.Number(), r.Text()
			if n == 5 && s == "hi" && r.End() == api.OK {
				t.Errorf("bit %d of byte %d counts for nothing", bit, i)
			}
		}
	}
}

func TestNilWriter(t *testing.T) { // P2.1
	var w *Writer
	for range 2 {
		for _, f := range edges() {
			f.write(w)
		}
		w.Text(strings.Repeat("x", api.MaxText+1))
		if b, e := w.Bytes(); len(b) != 0 || e != api.ErrArg {
			t.Errorf("Bytes: %v, %d", b, e)
		}
	}
}

func TestNilReader(t *testing.T) { // P2.1
	var r *Reader
	for range 2 {
		n, w, h, s := r.Number(), r.Word(), r.Hash(), r.Text()
		if n != 0 || w != 0 || h != (api.Hash{}) || s != "" {
			t.Errorf("a nil reader: %d, %d, %v, %q", n, w, h, s)
		}
		for _, most := range []int{math.MinInt, -1, 0, 1, math.MaxInt} {
			if n := r.Count(most); n != 0 {
				t.Errorf("Count(%d): %d", most, n)
			}
		}
		if e := r.End(); e != api.ErrArg {
			t.Errorf("End: %d", e)
		}
	}
}

// answers are a reader's, to calls that a chance names: the same chance, the same calls.
func answers(b []byte, chance *rand.Rand) []field {
	var l []field
	r := NewReader(b)
	for range 12 {
		f := field{kind: []string{"number", "word", "hash", "text", "count"}[chance.IntN(5)]}
		if f.kind == "count" {
			f.number = r.Count(int(chance.Uint64()) >> chance.IntN(64))
			l = append(l, f)
			continue
		}
		l = append(l, f.read(r))
	}
	return append(l, field{kind: "end", number: int(r.End())})
}

// TestAnswersAgain holds P1 and P2: at any bytes no call panics, and what each answers is the same again.
func TestAnswersAgain(t *testing.T) {
	r := random()
	for range 2000 {
		b := make([]byte, r.IntN(200))
		for i := range b {
			b[i] = byte(r.Uint32()) >> r.IntN(9)
		}
		seed := r.Uint64()
		one := answers(b, rand.New(rand.NewPCG(seed, 1)))
		two := answers(b, rand.New(rand.NewPCG(seed, 1)))
		if !slices.Equal(one, two) {
			t.Fatalf("%v: %+v, and again %+v", b, one, two)
		}
	}
}
