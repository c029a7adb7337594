package frames_test

import (
	"bytes"
	"encoding/binary"
	"hash/crc32"
	"slices"
	"strings"
	"testing"

	"dispatch/api"
	"dispatch/frames"
)

// most is the greatest length of a record.
const most = 4000

// mixed is that many bytes, of all kinds.
func mixed(size int) []byte {
	b := make([]byte, size)
	for i := range b {
		b[i] = byte(i*i + i/7)
	}
	return b
}

// framed is a frame as the chapter tells it, also of a record that is too long for one.
func framed(record string) string {
	head := binary.BigEndian.AppendUint32(nil, uint32(len(record)))
	head = binary.BigEndian.AppendUint32(head, crc32.ChecksumIEEE([]byte(record)))
	return string(head) + record
}

// frame is Frame where there is one.
func frame(t *testing.T, record string) string {
	t.Helper()
	f, e := frames.Frame([]byte(record))
	if e != api.OK {
		t.Fatalf("P401: of %d bytes: %v", len(record), e)
	}
	return string(f)
}

// short tells the length where the bytes are too many to be told.
func short(s string) string {
	if len(s) <= 40 {
		return s
	}
	return s[:40] + ".."
}

// strung are records as strings, so that they can be told and held against each other.
func strung(l [][]byte) []string {
	out := []string{}
	for _, record := range l {
		out = append(out, string(record))
	}
	return out
}

func checkScan(t *testing.T, what, log string, n int, records ...string) {
	t.Helper()
	l, got := frames.Scan([]byte(log))
	if got != n || !slices.Equal(strung(l), records) {
		t.Errorf("%s: %d records, %d bytes; want %d, %d; of %q", what, len(l), got, len(records), n, short(log))
	}
}

func TestP401CrcOfExamples(t *testing.T) {
	for _, c := range []struct {
		b    string
		want uint32
	}{
		{"", 0},
		{"123456789", 0xCBF43926},
		{"\x00", 0xD202EF8D},
		{"\xff", 0xFF000000},
		{"a", 0xE8B7BE43},
		{"abc", 0x352441C2},
		{"\x00\x00\x00\x00", 0x2144DF1C},
		{"\xff\xff\xff\xff", 0xFFFFFFFF},
		{"The quick brown fox jumps over the lazy dog", 0x414FA339},
	} {
		if got := frames.Crc([]byte(c.b)); got != c.want {
			t.Errorf("P401: Crc of %q: %08x; want %08x", c.b, got, c.want)
		}
	}
	if got := frames.Crc(nil); got != 0 {
		t.Errorf("P401: Crc of nil: %08x", got)
	}
}

func TestP401CrcAsTheLibrary(t *testing.T) {
	check := func(b []byte) {
		t.Helper()
		if got, want := frames.Crc(b), crc32.ChecksumIEEE(b); got != want {
			t.Errorf("P401: Crc of %d bytes, %q: %08x; want %08x", len(b), short(string(b)), got, want)
		}
	}
	for first := range 256 {
		check([]byte{byte(first)})
		for second := range 256 {
			check([]byte{byte(first), byte(second)})
		}
	}
	for size := range 600 {
		check(mixed(size))
		check(make([]byte, size))
	}
	for _, size := range []int{most - 1, most, most + 1, 65536, 1 << 20} {
		check(mixed(size))
	}
}

func TestP401Frame(t *testing.T) {
	for _, c := range []struct{ record, want string }{
		{"", "\x00\x00\x00\x00\x00\x00\x00\x00"},
		{"a", "\x00\x00\x00\x01\xe8\xb7\xbe\x43a"},
		{"\x00", "\x00\x00\x00\x01\xd2\x02\xef\x8d\x00"},
		{"123456789", "\x00\x00\x00\x09\xcb\xf4\x39\x26123456789"},
	} {
		if got := frame(t, c.record); got != c.want {
			t.Errorf("P401: Frame of %q: %x; want %x", c.record, got, c.want)
		}
	}
	if f, e := frames.Frame(nil); e != api.OK || string(f) != strings.Repeat("\x00", 8) {
		t.Errorf("P401: Frame of nil: %x, %v", f, e)
	}
}

func TestP401FrameOfEachLength(t *testing.T) {
	for size := range most + 1 {
		record := string(mixed(size))
		if got := frame(t, record); got != framed(record) {
			t.Errorf("P401: Frame of %d bytes: %x..; want %x..", size, got[:8], framed(record)[:8])
		}
	}
	if got := frame(t, string(mixed(most))); got[:4] != "\x00\x00\x0f\xa0" || len(got) != 8+most {
		t.Errorf("P401: Frame of %d bytes: %x.., %d bytes", most, got[:4], len(got))
	}
}

func TestP401FrameTooLong(t *testing.T) {
	for _, size := range []int{most + 1, most + 2, 2 * most, 65535, 65536, 1 << 20} {
		if f, e := frames.Frame(mixed(size)); e != api.ErrLong || len(f) != 0 {
			t.Errorf("P401: Frame of %d bytes: %d bytes, %v", size, len(f), e)
		}
	}
}

func TestP402ScanWholeLogs(t *testing.T) {
	for _, records := range [][]string{
		{""},
		{"", ""},
		{"a"},
		{"one", "", "three"},
		{string(mixed(most))},
		{string(mixed(most)), "", string(mixed(most - 1)), "end"},
		{framed("inside")},
		{framed("")[:4], framed("cut")[:10], "\x00\x00\x00\x01"},
		slices.Repeat([]string{"again"}, 100),
		slices.Repeat([]string{""}, 100),
	} {
		log := ""
		for _, record := range records {
			log += frame(t, record)
		}
		checkScan(t, "P402: whole frames", log, len(log), records...)
		checkScan(t, "P402: whole frames as told", strings.Join(each(records, framed), ""), len(log), records...)
	}
}

func each(l []string, f func(string) string) []string {
	var out []string
	for _, s := range l {
		out = append(out, f(s))
	}
	return out
}

func TestP402ScanOfNothing(t *testing.T) {
	checkScan(t, "P402: an empty log", "", 0)
	if l, n := frames.Scan(nil); len(l) != 0 || n != 0 {
		t.Errorf("P402: Scan of nil: %d records, %d", len(l), n)
	}
}

// Logs that end about the ends of the parts of a frame, which is the first one or a later one.
func TestP402ScanAboutTheEnds(t *testing.T) {
	last := frame(t, "last")
	for _, ahead := range [][]string{nil, {"a"}, {"", "more"}, {string(mixed(most))}} {
		before := strings.Join(each(ahead, framed), "")
		for _, c := range []struct {
			name string
			size int
		}{
			{"inside a length", 1}, {"one byte before a length's end", 3}, {"with a length", 4},
			{"inside a checksum", 5}, {"one byte before a checksum's end", 7}, {"with a checksum", 8},
			{"inside a record", 9}, {"one byte before a frame's end", 11},
		} {
			checkScan(t, "P402: ends "+c.name, before+last[:c.size], len(before), ahead...)
		}
		whole := append(slices.Clone(ahead), "last")
		checkScan(t, "P402: ends with a frame's last byte", before+last, len(before+last), whole...)
		for _, behind := range []string{"\x00", "\x01", "\xff", "x"} {
			checkScan(t, "P402: ends one byte behind a frame", before+last+behind, len(before+last), whole...)
		}
	}
}

func TestP402ScanLengths(t *testing.T) {
	longest, beyond := string(mixed(most)), string(mixed(most+1))
	checkScan(t, "P402: a length of 4000", framed(longest), 8+most, longest)
	checkScan(t, "P402: a length of 4000, and bytes behind", framed(longest)+"x", 8+most, longest)
	checkScan(t, "P402: a length of 4000, one byte less", framed(longest)[:7+most], 0)
	checkScan(t, "P402: a length of 4000, no bytes", framed(longest)[:8], 0)
	checkScan(t, "P402: a length of 4001", framed(beyond), 0)
	checkScan(t, "P402: a length of 4001, behind a frame", framed("a")+framed(beyond)+framed("b"), 9, "a")
	checkScan(t, "P402: a length of 4096", framed(string(mixed(4096))), 0)
	checkScan(t, "P402: a length of 65536", framed(string(mixed(65536))), 0)
}

// Lengths that would be small ones, if not all their bytes were read, or below 0, if they wrapped round.
func TestP402ScanLengthsFarBeyond(t *testing.T) {
	for _, length := range []string{
		"\x00\x01\x00\x01", "\x01\x00\x00\x01", "\x01\x00\x00\x00", "\x80\x00\x00\x00", "\x80\x00\x00\x01",
		"\x7f\xff\xff\xff", "\xff\xff\xff\xff", "\xff\xff\xff\xfe", "\xff\xff\xff\xf8", "\xff\xff\xff\xf7",
		"\x00\x00\xff\xff", "\xff\xff\x00\x00",
	} {
		for _, record := range []string{"", "a", string(mixed(most))} {
			log := length + framed(record)[4:]
			checkScan(t, "P402: a length far beyond", log, 0)
			checkScan(t, "P402: a length far beyond", framed("a")+log, 9, "a")
		}
	}
}

// A checksum that is that of other bytes: of the frame's head too, of a byte less, of a byte more.
func TestP402ScanChecksumOfOtherBytes(t *testing.T) {
	for _, summed := range []string{"\x00\x00\x00\x03abc", "ab", "abcd", "", "cba"} {
		log := framed("abc")[:4] + framed(summed)[4:8] + "abcdef"
		checkScan(t, "P402: a checksum of other bytes", log, 0)
	}
	sum := []byte(framed("abc")[4:8])
	slices.Reverse(sum)
	checkScan(t, "P402: a checksum with its least byte first", framed("abc")[:4]+string(sum)+"abc", 0)
	checkScan(t, "P402: a length with its least byte first", "\x03\x00\x00\x00"+framed("abc")[4:], 0)
}

func TestP402ScanOfNoFrames(t *testing.T) {
	good := framed("good") + framed("too")
	for _, begin := range []string{"x", "\x00", "\xff", "no frame at all", "\x00\x00\x00\x00\x00\x00\x00\x01", strings.Repeat("\xff", 20)} {
		checkScan(t, "P402: begins with no frame", begin, 0)
		checkScan(t, "P402: begins with no frame, though there are some behind", begin+good, 0)
		checkScan(t, "P402: no frame between frames", framed("a")+begin+good, 9, "a")
	}
	checkScan(t, "P402: begins inside a frame", good[1:], 0)
	checkScan(t, "P402: bytes 0 are frames of no bytes", strings.Repeat("\x00", 35), 32, "", "", "", "")
}

// Every bit of a log, in lengths, checksums and records, of the first frame and of later ones.
func TestP402ScanWithATurnedBit(t *testing.T) {
	records := []string{"first", "", "\x00\x00\x00\x00\x00\x00\x00\x00", string(mixed(300)), "last"}
	log := []byte(strings.Join(each(records, framed), ""))
	frame, begin := 0, 0
	for i := range log {
		if i == begin+8+len(records[frame]) {
			frame, begin = frame+1, i
		}
		for bit := range 8 {
			log[i] ^= 1 << bit
			checkScan(t, "P402: a bit turned", string(log), begin, records[:frame]...)
			log[i] ^= 1 << bit
		}
	}
	checkScan(t, "P402: no bit turned", string(log), len(log), records...)
}

// Every proper prefix of one more frame, behind none, one and more of them.
func TestP403ScanWithAPartBehind(t *testing.T) {
	for _, ahead := range [][]string{nil, {""}, {"one"}, {"one", "", "three"}, {string(mixed(most)), "x"}} {
		before := strings.Join(each(ahead, func(record string) string { return frame(t, record) }), "")
		for _, record := range []string{"", "a", "123456789", strings.Repeat("\x00", 40), framed("inside"), string(mixed(most))} {
			more := frame(t, record)
			for size := range more {
				if size > 50 && size < len(more)-50 && size%97 != 0 {
					continue
				}
				checkScan(t, "P403: a part of one more frame", before+more[:size], len(before), ahead...)
			}
			checkScan(t, "P403: the whole of it", before+more, len(before+more), append(slices.Clone(ahead), record)...)
		}
	}
}

// told is Scan as the chapter tells it.
func told(log string) (records []string, n int) {
	for size := 0; size <= most && n+8+size <= len(log); {
		if record := log[n+8 : n+8+size]; log[n:n+8+size] == framed(record) {
			records, n, size = append(records, record), n+8+size, 0
		} else {
			size++
		}
	}
	return records, n
}

// All short sequences of pieces, of which some make frames, some do not, and some do together.
func TestP402P403AllShortLogs(t *testing.T) {
	pieces := []string{
		framed(""), framed("a"), framed("ab")[:9], framed("abc")[:4], framed("abc")[4:8], "abc",
		"b", "\x00", "\x00\x00\x00\x00", "\xff\xff\xff\xff", framed(framed("")), framed(framed("x"))[:8],
	}
	var visit func(log string, left int)
	visit = func(log string, left int) {
		records, n := told(log)
		checkScan(t, "P402, P403: a short log", log, n, records...)
		for _, piece := range pieces {
			if left > 0 && !t.Failed() {
				visit(log+piece, left-1)
			}
		}
	}
	visit("", 5)
}

// guarded is b with spare room behind it that may not be touched.
func guarded(b []byte) []byte {
	return append(slices.Clone(b), "guard"...)[:len(b)]
}

func checkGuarded(t *testing.T, what string, b, before []byte) {
	t.Helper()
	if !bytes.Equal(b, before) || string(b[len(b):len(b)+5]) != "guard" {
		t.Errorf("P2: %s has changed its argument", what)
	}
}

func TestP401P402ChangeNoArgument(t *testing.T) {
	for _, size := range []int{0, 1, 9, most, most + 1} {
		before := mixed(size)
		b := guarded(before)
		frames.Crc(b)
		checkGuarded(t, "Crc", b, before)
		frames.Frame(b)
		checkGuarded(t, "Frame", b, before)
	}
	before := []byte(framed("one") + framed("") + framed("three") + "part")
	for size := range before {
		log := guarded(before[:size])
		frames.Scan(log)
		checkGuarded(t, "Scan", log, before[:size])
	}
}

func overwrite(b []byte) {
	b = b[:cap(b)]
	for i := range b {
		b[i] = '#'
	}
}

func TestP401P402KeepNoArgument(t *testing.T) {
	record := guarded([]byte("record"))
	f, _ := frames.Frame(record)
	overwrite(record)
	if string(f) != framed("record") {
		t.Errorf("P2: Frame shares memory with its argument: %q", f)
	}
	log := guarded([]byte(framed("one") + framed("two")))
	l, _ := frames.Scan(log)
	overwrite(log)
	if !slices.Equal(strung(l), []string{"one", "two"}) {
		t.Errorf("P2: Scan shares memory with its argument: %q", l)
	}
}

func TestP401P402ResultsAreNew(t *testing.T) {
	record := []byte("record")
	f, _ := frames.Frame(record)
	overwrite(f)
	if g, _ := frames.Frame(record); string(g) != framed("record") || string(record) != "record" {
		t.Errorf("P2: what Frame gives isn't new: %q", g)
	}
	log := []byte(framed("one") + framed("") + framed("three"))
	for i := range 3 {
		l, _ := frames.Scan(log)
		others := slices.Delete(strung(l), i, i+1)
		overwrite(l[i])
		if !slices.Equal(slices.Delete(strung(l), i, i+1), others) {
			t.Errorf("P2: two records of Scan share memory: %q", l)
		}
		if again, _ := frames.Scan(log); !slices.Equal(strung(again), []string{"one", "", "three"}) {
			t.Errorf("P2: what Scan gives isn't new: %q", again)
		}
	}
}

func TestP401P402AnswerTheSameAgain(t *testing.T) {
	record := mixed(77)
	log := []byte(framed("one") + framed(string(record)) + "part")
	for range 3 {
		if frames.Crc(record) != crc32.ChecksumIEEE(record) || frame(t, string(record)) != framed(string(record)) {
			t.Error("P3: Crc or Frame")
		}
		checkScan(t, "P3", string(log), len(log)-4, "one", string(record))
	}
}
