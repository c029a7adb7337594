package codec_test

import (
	"bytes"
	"math"
	"slices"
	"strings"
	"testing"

	"dispatch/api"
	"dispatch/codec"
)

// most is the greatest length that two bytes tell.
const most = 65535

// numbers are those that the document names, and those whose bytes are easily mistaken.
var numbers = []int{
	0, 1, -1, 2, -2, 127, 128, -128, -129, 255, 256, -255, -256, -257, 65535, 65536,
	math.MaxInt32, math.MinInt32, math.MaxUint32, math.MaxUint32 + 1, 1 << 50,
	0x0102030405060708, -0x0102030405060708,
	math.MaxInt, math.MaxInt - 1, math.MinInt, math.MinInt + 1,
}

// texts are of each kind of byte, and about as long as may be.
var texts = []string{
	"", "a", "\x00", "\xff\xfe", "h\u00e9llo", "a\x00b\n", strings.Repeat("x", 255), strings.Repeat("y", 256),
	strings.Repeat("ab\x80", most/3), strings.Repeat("z", most-1),
}

// upTo is a list of that many elements, no two of them the same.
func upTo(count int) []int {
	l := make([]int, count)
	for i := range l {
		l[i] = (i - count/2) * 0x0101010101
	}
	return l
}

func lists() [][]int {
	return [][]int{nil, {}, {0}, {-1}, numbers, upTo(255), upTo(256), upTo(most - 1), upTo(most)}
}

// short tells the length where the bytes are too many to be told.
func short(b []byte) []byte { return b[:min(len(b), 40)] }

func checkBytes(t *testing.T, what string, got []byte, want string) {
	t.Helper()
	if string(got) != want {
		t.Errorf("P201: %s: %d bytes, %x; want %d, %x", what, len(got), short(got), len(want), short([]byte(want)))
	}
}

func TestP201Int(t *testing.T) {
	for _, c := range []struct {
		n    int
		want string
	}{
		{0, "\x00\x00\x00\x00\x00\x00\x00\x00"},
		{1, "\x00\x00\x00\x00\x00\x00\x00\x01"},
		{-1, "\xff\xff\xff\xff\xff\xff\xff\xff"},
		{-2, "\xff\xff\xff\xff\xff\xff\xff\xfe"},
		{-256, "\xff\xff\xff\xff\xff\xff\xff\x00"},
		{65536, "\x00\x00\x00\x00\x00\x01\x00\x00"},
		{1 << 50, "\x00\x04\x00\x00\x00\x00\x00\x00"},
		{0x0102030405060708, "\x01\x02\x03\x04\x05\x06\x07\x08"},
		{math.MaxInt, "\x7f\xff\xff\xff\xff\xff\xff\xff"},
		{math.MinInt, "\x80\x00\x00\x00\x00\x00\x00\x00"},
		{math.MinInt + 1, "\x80\x00\x00\x00\x00\x00\x00\x01"},
	} {
		checkBytes(t, "Int of nil", codec.Int(nil, c.n), c.want)
		checkBytes(t, "Int of bytes", codec.Int([]byte("before"), c.n), "before"+c.want)
	}
}

func TestP201Text(t *testing.T) {
	long := strings.Repeat("long", most/4) + "end" // most bytes, the last ones unlike the others
	for _, c := range []struct{ s, want string }{
		{"", "\x00\x00"},
		{"a", "\x00\x01a"},
		{"\x00\xff", "\x00\x02\x00\xff"},
		{"\u00e9", "\x00\x02\xc3\xa9"},
		{strings.Repeat("x", 255), "\x00\xff" + strings.Repeat("x", 255)},
		{strings.Repeat("x", 258), "\x01\x02" + strings.Repeat("x", 258)},
		{long[:most-1], "\xff\xfe" + long[:most-1]},
		{long, "\xff\xff" + long},
		{long + "!", "\xff\xff" + long},
		{long + long + long, "\xff\xff" + long},
		{long[:most-1] + "\u00e9", "\xff\xff" + long[:most-1] + "\xc3"},
	} {
		checkBytes(t, "Text of nil", codec.Text(nil, c.s), c.want)
		checkBytes(t, "Text of bytes", codec.Text([]byte("before"), c.s), "before"+c.want)
	}
}

// written are the elements of a list, each as by Int.
func written(l []int) string {
	var b []byte
	for _, n := range l {
		b = append(b, codec.Int(nil, n)...)
	}
	return string(b)
}

func TestP201Ints(t *testing.T) {
	long := upTo(most + 1)
	for _, c := range []struct {
		l    []int
		want string
	}{
		{nil, "\x00\x00"},
		{[]int{}, "\x00\x00"},
		{[]int{-1}, "\x00\x01\xff\xff\xff\xff\xff\xff\xff\xff"},
		{[]int{2, math.MinInt}, "\x00\x02\x00\x00\x00\x00\x00\x00\x00\x02\x80\x00\x00\x00\x00\x00\x00\x00"},
		{long[:255], "\x00\xff" + written(long[:255])},
		{long[:258], "\x01\x02" + written(long[:258])},
		{long[:most-1], "\xff\xfe" + written(long[:most-1])},
		{long[:most], "\xff\xff" + written(long[:most])},
		{long, "\xff\xff" + written(long[:most])},
		{slices.Concat(long, long), "\xff\xff" + written(long[:most])},
	} {
		checkBytes(t, "Ints of nil", codec.Ints(nil, c.l), c.want)
		checkBytes(t, "Ints of bytes", codec.Ints([]byte("before"), c.l), "before"+c.want)
	}
}

// writers write something short each.
func writers() map[string]func(b []byte) []byte {
	return map[string]func(b []byte) []byte{
		"Int":         func(b []byte) []byte { return codec.Int(b, -1) },
		"Text":        func(b []byte) []byte { return codec.Text(b, "text") },
		"empty Text":  func(b []byte) []byte { return codec.Text(b, "") },
		"Ints":        func(b []byte) []byte { return codec.Ints(b, []int{-1}) },
		"no Ints":     func(b []byte) []byte { return codec.Ints(b, nil) },
		"many Ints":   func(b []byte) []byte { return codec.Ints(b, upTo(99)) },
		"longer Text": func(b []byte) []byte { return codec.Text(b, strings.Repeat("t", 999)) },
	}
}

func TestP201LeavesTheArgumentAlone(t *testing.T) {
	for name, write := range writers() {
		whole := bytes.Repeat([]byte{7}, 2000)
		b := whole[:3]
		first := write(b)
		kept := bytes.Clone(first)
		second := write(b)
		for i := range whole {
			whole[i] = 9
		}
		overwrite(second[:cap(second)])
		if !bytes.Equal(first, kept) {
			t.Errorf("P2: %s: what was returned first has changed: %x; want %x", name, short(first), short(kept))
		}
		overwrite(first[:cap(first)])
		if !bytes.Equal(whole, bytes.Repeat([]byte{9}, 2000)) {
			t.Errorf("P2: %s: the result shares the argument's bytes", name)
		}
	}
}

func TestP201WritesNothingIntoSpareRoom(t *testing.T) {
	for name, write := range writers() {
		whole := bytes.Repeat([]byte{7}, 2000)
		write(whole[:3])
		if !bytes.Equal(whole, bytes.Repeat([]byte{7}, 2000)) {
			t.Errorf("P2: %s: the argument has changed", name)
		}
	}
	l := upTo(5)
	codec.Ints(nil, l[:3])
	if !slices.Equal(l, upTo(5)) {
		t.Errorf("P2: Ints: the list has changed")
	}
}

func overwrite(b []byte) {
	for i := range b {
		b[i] = 0xee
	}
}

// sample is a number, a string and a list, and where each of them ends.
var sample = codec.Ints(codec.Text(codec.Int(nil, -7), "hi"), []int{3, -4})

const (
	intEnd  = 8
	textEnd = intEnd + 2 + 2
	intsEnd = textEnd + 2 + 2*8
)

func TestP202Reads(t *testing.T) {
	r := codec.New(sample)
	if n, e := r.Int(), r.End(); n != -7 || e != api.ErrMore {
		t.Errorf("P202: Int: %d, %v; want -7, %v", n, e, api.ErrMore)
	}
	if s, e := r.Text(), r.End(); s != "hi" || e != api.ErrMore {
		t.Errorf("P202: Text: %q, %v; want hi, %v", s, e, api.ErrMore)
	}
	if l, e := r.Ints(), r.End(); !slices.Equal(l, []int{3, -4}) || e != api.OK {
		t.Errorf("P202: Ints: %v, %v; want [3 -4], %v", l, e, api.OK)
	}
	if e := r.End(); e != api.OK {
		t.Errorf("P202: End, a second time: %v; want %v", e, api.OK)
	}
}

func TestP202CutAnywhere(t *testing.T) {
	for size := range len(sample) {
		wantInt, wantText := 0, ""
		if size >= intEnd {
			wantInt = -7
		}
		if size >= textEnd {
			wantText = "hi"
		}
		r := codec.New(sample[:size])
		n, s, l := r.Int(), r.Text(), r.Ints()
		if n != wantInt || s != wantText || len(l) != 0 || r.End() != api.ErrCut {
			t.Errorf("P202: the first %d bytes: %d, %q, %v, %v", size, n, s, l, r.End())
		}
	}
	if len(sample) != intsEnd {
		t.Errorf("P201: the sample has %d bytes; want %d", len(sample), intsEnd)
	}
}

// nothing fails unless each kind of read gives zero values, and leaves the error as it is.
func nothing(t *testing.T, name string, r *codec.Reader, want api.Errno) {
	t.Helper()
	for range 2 {
		if n, s, l := r.Int(), r.Text(), r.Ints(); n != 0 || s != "" || len(l) != 0 {
			t.Errorf("P202: %s: behind the error: %d, %q, %v", name, n, s, l)
		}
		if e := r.End(); e != want {
			t.Errorf("P202: %s: %v; want %v", name, e, want)
		}
	}
}

func TestP202CutReads(t *testing.T) {
	full := codec.Ints(nil, upTo(most))
	long := codec.Text(nil, strings.Repeat("x", most))
	for _, c := range []struct {
		name string
		b    []byte
		read func(r *codec.Reader) bool // whether the result is zero
	}{
		{"Int of nothing", nil, noInt},
		{"Int of one byte too few", make([]byte, 7), noInt},
		{"Int that begins below 0", bytes.Repeat([]byte{255}, 7), noInt},
		{"Text of nothing", nil, noText},
		{"Text of half a length", []byte{0}, noText},
		{"Text of a length alone", []byte{0, 1}, noText},
		{"Text of one byte too few", []byte("\x00\x05text"), noText},
		{"Text of a long length, read as a short one", []byte("\x01\x02text"), noText},
		{"Text of the greatest length, one byte too few", long[:len(long)-1], noText},
		{"Ints of nothing", nil, noInts},
		{"Ints of half a length", []byte{0}, noInts},
		{"Ints of a length alone", []byte{0, 1}, noInts},
		{"Ints of one byte too few", append([]byte{0, 2}, make([]byte, 15)...), noInts},
		{"Ints of one element too few", append([]byte{0, 3}, make([]byte, 16)...), noInts},
		{"Ints of as many bytes as elements", append([]byte{0, 8}, make([]byte, 8)...), noInts},
		{"Ints of the greatest length and nothing else", []byte{255, 255}, noInts},
		{"Ints of the greatest length, one byte too few", full[:len(full)-1], noInts},
	} {
		r := codec.New(c.b)
		if !c.read(r) {
			t.Errorf("P202: %s: a value that is not zero", c.name)
		}
		nothing(t, c.name, r, api.ErrCut)
	}
}

func noInt(r *codec.Reader) bool { return r.Int() == 0 }

func noText(r *codec.Reader) bool { return r.Text() == "" }

func noInts(r *codec.Reader) bool { return len(r.Ints()) == 0 }

// A read that fails must not leave bytes behind which a later read could take.
func TestP202NothingIsReadBehindTheFirstError(t *testing.T) {
	wide := append([]byte{0, 50}, make([]byte, 40)...)
	r := codec.New(wide)
	if s := r.Text(); s != "" {
		t.Errorf("P202: Text: %q", s)
	}
	nothing(t, "a text that is cut", r, api.ErrCut)

	r = codec.New(bytes.Repeat([]byte{1}, 40))
	if l := r.Ints(); len(l) != 0 {
		t.Errorf("P202: Ints: %v", l)
	}
	nothing(t, "a list that is cut", r, api.ErrCut)
	r.Fail(api.ErrBad)
	nothing(t, "Fail behind ErrCut", r, api.ErrCut)
}

func TestP202Fail(t *testing.T) {
	r := codec.New(sample)
	r.Fail(api.OK)
	if n, e := r.Int(), r.End(); n != -7 || e != api.ErrMore {
		t.Errorf("P202: behind Fail of OK: %d, %v", n, e)
	}
	r.Fail(api.ErrBad)
	nothing(t, "Fail in the middle", r, api.ErrBad)
	r.Fail(api.ErrKind)
	nothing(t, "Fail behind Fail", r, api.ErrBad)
	r.Fail(api.OK)
	nothing(t, "Fail of OK behind Fail", r, api.ErrBad)

	for _, e := range []api.Errno{api.ErrArg, api.ErrCut, api.ErrMore, api.ErrQueue, 99, -1, math.MinInt, math.MaxInt} {
		for _, b := range [][]byte{nil, sample} {
			r := codec.New(b)
			r.Fail(e)
			nothing(t, "Fail at the beginning", r, e)
		}
	}

	r = codec.New(nil)
	r.Fail(api.OK)
	if e := r.End(); e != api.OK {
		t.Errorf("P202: Fail of OK, of nothing: %v", e)
	}
}

func TestP202FailAtTheEnd(t *testing.T) {
	r := codec.New(codec.Int(nil, 5))
	if n, e := r.Int(), r.End(); n != 5 || e != api.OK {
		t.Errorf("P202: %d, %v", n, e)
	}
	r.Fail(api.ErrBad)
	nothing(t, "Fail behind all bytes", r, api.ErrBad)
}

func TestP202End(t *testing.T) {
	if e := codec.New(nil).End(); e != api.OK {
		t.Errorf("P202: End of nothing: %v", e)
	}
	r := codec.New(append(bytes.Clone(sample), 0))
	for range 3 {
		if e := r.End(); e != api.ErrMore {
			t.Errorf("P202: End ahead of all: %v; want %v", e, api.ErrMore)
		}
	}
	if n, s, l := r.Int(), r.Text(), r.Ints(); n != -7 || s != "hi" || !slices.Equal(l, []int{3, -4}) {
		t.Errorf("P202: behind ErrMore: %d, %q, %v", n, s, l)
	}
	if e := r.End(); e != api.ErrMore {
		t.Errorf("P202: End with one byte too many: %v; want %v", e, api.ErrMore)
	}
	r.Fail(api.ErrBad)
	if e := r.End(); e != api.ErrBad {
		t.Errorf("P202: ErrMore is not kept, so that Fail counts: %v; want %v", e, api.ErrBad)
	}
}

func TestP202EmptyTextsAndLists(t *testing.T) {
	r := codec.New(codec.Int(codec.Ints(codec.Text(nil, ""), nil), 3))
	if s, l, n, e := r.Text(), r.Ints(), r.Int(), r.End(); s != "" || len(l) != 0 || n != 3 || e != api.OK {
		t.Errorf("P202: %q, %v, %d, %v", s, l, n, e)
	}
}

func TestP202KeepsNoArgument(t *testing.T) {
	b := bytes.Clone(sample)
	r := codec.New(b)
	overwrite(b)
	n, s, l := r.Int(), r.Text(), r.Ints()
	if n != -7 || s != "hi" || !slices.Equal(l, []int{3, -4}) || r.End() != api.OK {
		t.Errorf("P2: what is read has changed with the argument: %d, %q, %v, %v", n, s, l, r.End())
	}
}

func TestP202ChangesNoArgument(t *testing.T) {
	b := bytes.Clone(sample)
	r := codec.New(b[:intsEnd-1])
	r.Int()
	r.Text()
	r.Ints()
	r.Fail(api.ErrBad)
	if !bytes.Equal(b, sample) {
		t.Errorf("P2: the argument has changed: %x; want %x", b, sample)
	}
}

func TestP202ListsShareNoMemory(t *testing.T) {
	r := codec.New(codec.Ints(codec.Ints(nil, []int{1, 2}), []int{3, 4}))
	first := r.Ints()
	for i := range first[:cap(first)] {
		first[:cap(first)][i] = 9
	}
	second := r.Ints()
	if !slices.Equal(second, []int{3, 4}) || r.End() != api.OK {
		t.Errorf("P2: the second list: %v, %v", second, r.End())
	}
	second = append(second[:0], 7, 7)
	if first[0] != 9 || first[1] != 9 || second[0] != 7 {
		t.Errorf("P2: the first list: %v", first)
	}
}

func TestP202ReadersAreApart(t *testing.T) {
	one, other := codec.New(sample), codec.New(sample)
	one.Fail(api.ErrBad)
	if n := other.Int(); n != -7 || other.End() != api.ErrMore {
		t.Errorf("P7: the other reader: %d, %v", n, other.End())
	}
	if one.Int() != 0 || other.Text() != "hi" {
		t.Errorf("P7: the readers affect one another")
	}
}

func TestP203Ints(t *testing.T) {
	for _, n := range numbers {
		r := codec.New(codec.Int(nil, n))
		if got, e := r.Int(), r.End(); got != n || e != api.OK {
			t.Errorf("P203: %d: %d, %v", n, got, e)
		}
	}
}

func TestP203Texts(t *testing.T) {
	long := strings.Repeat("fifteen bytes. ", most/15+1)
	for _, s := range append(slices.Clone(texts), long[:most], long[:most+1], long+long) {
		r := codec.New(codec.Text(nil, s))
		if got, e := r.Text(), r.End(); got != s[:min(len(s), most)] || e != api.OK {
			t.Errorf("P203: a text of %d bytes: %d, %v", len(s), len(got), e)
		}
	}
}

func TestP203Lists(t *testing.T) {
	for _, l := range append(lists(), upTo(most+1), upTo(2*most)) {
		r := codec.New(codec.Ints(nil, l))
		if got, e := r.Ints(), r.End(); !slices.Equal(got, l[:min(len(l), most)]) || e != api.OK {
			t.Errorf("P203: a list of %d elements: %d, %v", len(l), len(got), e)
		}
	}
}

func TestP203OneAfterTheOther(t *testing.T) {
	var b []byte
	for i, n := range numbers {
		b = codec.Ints(codec.Text(codec.Int(b, n), texts[i%len(texts)]), numbers[:i])
	}
	r := codec.New(b)
	for i, want := range numbers {
		n, s, l := r.Int(), r.Text(), r.Ints()
		if n != want || s != texts[i%len(texts)] || !slices.Equal(l, numbers[:i]) {
			t.Fatalf("P203: round %d: %d, a text of %d bytes, %v", i, n, len(s), l)
		}
	}
	if e := r.End(); e != api.OK {
		t.Errorf("P203: %v", e)
	}
}
