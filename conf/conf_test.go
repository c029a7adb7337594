package conf_test

import (
	"reflect"
	"slices"
	"strconv"
	"strings"
	"testing"

	"dispatch/api"
	"dispatch/conf"
)

// The numbers that the chapter names.
const (
	mostText   = 2000
	mostLabels = 3
	mostQueues = 16
)

// small is a configuration as Text writes it, and smallConf what it tells.
const small = "labels gpu\nqueue root 10000 10000/10000 10000/10000\nqueue root.a 5000 4000/9000 0/5000\nqueue root.b 20000 6000/7000 10000/10000\n"

func smallConf() api.Conf {
	return api.Conf{Labels: []string{"", "gpu"}, Queues: []api.Queue{
		{Path: "root", User: 10000, Caps: []api.Cap{{Least: 10000, Most: 10000}, {Least: 10000, Most: 10000}}},
		{Path: "root.a", User: 5000, Caps: []api.Cap{{Least: 4000, Most: 9000}, {Least: 0, Most: 5000}}},
		{Path: "root.b", User: 20000, Caps: []api.Cap{{Least: 6000, Most: 7000}, {Least: 10000, Most: 10000}}},
	}}
}

// named is a configuration of the empty label and these.
func named(names ...string) api.Conf {
	return api.Conf{Labels: append([]string{""}, names...)}
}

// single is a configuration of one queue and no label but the empty one.
func single(path string, user, least, most int) api.Conf {
	return api.Conf{Labels: []string{""}, Queues: []api.Queue{queue(path, user, least, most)}}
}

// queue is one with a Cap of each two numbers.
func queue(path string, user int, numbers ...int) api.Queue {
	q := api.Queue{Path: path, User: user}
	for pair := range slices.Chunk(numbers, 2) {
		q.Caps = append(q.Caps, api.Cap{Least: pair[0], Most: pair[1]})
	}
	return q
}

// alike holds configurations against each other without the package's help; nil and empty are one.
func alike(a, b api.Conf) bool {
	return slices.Equal(a.Labels, b.Labels) && slices.EqualFunc(a.Queues, b.Queues, func(p, q api.Queue) bool {
		return p.Path == q.Path && p.User == q.User && slices.Equal(p.Caps, q.Caps)
	})
}

// short tells the length where the bytes are too many to be told.
func short(s string) string {
	if len(s) <= 100 {
		return strconv.Quote(s)
	}
	return strconv.Quote(s[:100]) + ".. of " + strconv.Itoa(len(s)) + " bytes"
}

// checkParse fails unless Parse gives want; if it gives an error, want must have nothing in it.
func checkParse(t *testing.T, what, s string, want api.Conf, wantErr api.Errno) {
	t.Helper()
	c, e := conf.Parse(s)
	if e != wantErr || !alike(c, want) {
		t.Errorf("%s: %s: %+v, %v; want %+v, %v", what, short(s), c, e, want, wantErr)
	}
}

func checkErr(t *testing.T, what, s string, want api.Errno) {
	t.Helper()
	checkParse(t, what, s, api.Conf{}, want)
}

// paths are that many, in order.
func paths(count int) []string {
	l := make([]string, count)
	for i := range l {
		l[i] = "q" + strconv.Itoa(10+i)
	}
	return l
}

// lines are the text of queues with these paths, in this order, and what they tell, in the order of the paths.
func lines(paths ...string) (string, api.Conf) {
	text, c := "labels\n", named()
	for i, path := range paths {
		text += "queue " + path + " " + strconv.Itoa(i) + " " + strconv.Itoa(i+1) + "/" + strconv.Itoa(i+2) + "\n"
		c.Queues = append(c.Queues, queue(path, i, i+1, i+2))
	}
	slices.SortFunc(c.Queues, func(p, q api.Queue) int { return strings.Compare(p.Path, q.Path) })
	return text, c
}

// sized is a text of that many bytes that ends so, with no byte that could be left out but perhaps the last one.
func sized(size int, ending string) string {
	const begin, end = "labels\nqueue ", " 0 1/2"
	return begin + strings.Repeat("p", size-len(begin)-len(end)-len(ending)) + end + ending
}

func TestP501Small(t *testing.T) {
	checkParse(t, "P501", small, smallConf(), api.OK)
	checkParse(t, "P501: no line feed at the end", strings.TrimSuffix(small, "\n"), smallConf(), api.OK)
	checkParse(t, "P501: the example", "labels gpu\nqueue root 10000 10000/10000 10000/10000",
		api.Conf{Labels: []string{"", "gpu"}, Queues: []api.Queue{queue("root", 10000, 10000, 10000, 10000, 10000)}}, api.OK)
}

func TestP501LinesWithoutWords(t *testing.T) {
	for _, none := range []string{"\n", "\n\n\n", " \n", "     \n", "\n \n  \n"} {
		checkParse(t, "P501: lines without words", none+strings.ReplaceAll(small, "\n", "\n"+none), smallConf(), api.OK)
		checkParse(t, "P501: a last line of blanks", small+strings.TrimSuffix(none, "\n"), smallConf(), api.OK)
		checkParse(t, "P501: one line between", none+"labels"+"\n"+none, named(), api.OK)
	}
}

func TestP501Blanks(t *testing.T) {
	for _, blanks := range []string{" ", "  ", strings.Repeat(" ", 20)} {
		between := strings.ReplaceAll(small, " ", blanks)
		checkParse(t, "P501: blanks between words", between, smallConf(), api.OK)
		checkParse(t, "P501: blanks behind a line's last word", strings.ReplaceAll(small, "\n", blanks+"\n"), smallConf(), api.OK)
		ahead := blanks + strings.ReplaceAll(between, "\n", "\n"+blanks)
		checkParse(t, "P501: blanks ahead of a line's first word", ahead, smallConf(), api.OK)
		checkParse(t, "P501: blanks everywhere", strings.ReplaceAll(ahead, "\n", blanks+"\n"), smallConf(), api.OK)
		checkParse(t, "P501: blanks about labels", blanks+"labels"+blanks, named(), api.OK)
	}
}

// What is a blank or a line feed elsewhere is a byte of a word here.
func TestP501OtherBytesAreOfWords(t *testing.T) {
	for _, word := range []string{"\t", "\r", "\v", "\f", "\x00", "\u00a0", "\u0085", "\u2028", "\u3000", "\xff", "\xc3", "a\tb", "\u00e9", "/", "1/2", "#", "a.b", "A", "-"} {
		checkParse(t, "P501: a name", "labels a"+word+" b", named("a"+word, "b"), api.OK)
		checkParse(t, "P501: a name alone", "labels "+word, named(word), api.OK)
		checkParse(t, "P501: a path", "labels\nqueue "+word+" 1 2/3", single(word, 1, 2, 3), api.OK)
		checkErr(t, "P501: joined to labels", "labels"+word, api.ErrWord)
		checkErr(t, "P501: joined to labels, ahead", word+"labels", api.ErrWord)
		checkErr(t, "P501: joined to queue", "labels\nqueue"+word+"p 1 2/3", api.ErrWord)
		checkErr(t, "P501: a line of its own", "labels\n"+word+"\nqueue p 1 2/3", api.ErrWord)
		checkErr(t, "P501: a line of its own, the first", word+"\nlabels", api.ErrWord)
		checkErr(t, "P501: joined to a number", "labels\nqueue p 1"+word+" 2/3", api.ErrWord)
		checkErr(t, "P501: joined to a share", "labels\nqueue p 1 2/3"+word, api.ErrWord)
		checkErr(t, "P501: a word more", "labels\nqueue p 1 2/3 "+word, api.ErrWord)
	}
}

func TestP501WordsThatReadAsOthers(t *testing.T) {
	checkParse(t, "P501", "labels labels queue", named("labels", "queue"), api.OK)
	checkParse(t, "P501", "labels a a", named("a", "a"), api.OK)
	checkParse(t, "P501", "labels 1 1/2", named("1", "1/2"), api.OK)
	for _, path := range []string{"queue", "labels", "0", "00", "1/2", "/", "Root", "root..a", ".", "a.b.c.d.e.f", "a-name-of-many-bytes", "!"} {
		checkParse(t, "P501", "labels\nqueue "+path+" 1 2/3", single(path, 1, 2, 3), api.OK)
	}
}

func TestP501Labels(t *testing.T) {
	names := []string{"c", "a", "b", "d", "e"}
	for count := range len(names) + 1 {
		text := strings.Join(append([]string{"labels"}, names[:count]...), " ")
		if count+1 <= mostLabels {
			checkParse(t, "P501: Labels", text, named(names[:count]...), api.OK)
		} else {
			checkErr(t, "P501: too many Labels", text, api.ErrMany)
			checkErr(t, "P501: too many Labels", text+"\n", api.ErrMany)
		}
	}
	checkErr(t, "P501: too many Labels, all the same", "labels a a a", api.ErrMany)
}

func TestP501CapsOfEachLabel(t *testing.T) {
	names, shares := "", ""
	for count := range mostLabels {
		text := "labels" + names + "\nqueue p 7"
		shares += " " + strconv.Itoa(2*count) + "/" + strconv.Itoa(2*count+1)
		c := named(strings.Fields(names)...)
		c.Queues = []api.Queue{queue("p", 7, []int{0, 1, 2, 3, 4, 5}[:2*count+2]...)}
		checkParse(t, "P501: a share for each label", text+shares, c, api.OK)
		checkErr(t, "P501: a share more than labels", text+shares+" 1/1", api.ErrWord)
		checkErr(t, "P501: a share less than labels", text+shares[:4*count], api.ErrWord)
		names += " n" + strconv.Itoa(count)
	}
}

func TestP501NoLabels(t *testing.T) {
	for _, s := range []string{
		"", " ", "\n", "\n\n \n", "   ",
		"queue root 1 1/1", "queue root 1 1/1\nlabels", "queue", "queue\n", "\nqueue root 1 1/1\n",
		"label", "labelss", "Labels", "LABELS", "labels\tgpu", "labels,", "\"labels\"", "lab els", "gpu labels",
		"\ufefflabels", "labels\r\n",
	} {
		checkErr(t, "P501: no labels line", s, api.ErrWord)
	}
}

func TestP501LinesThatAreNone(t *testing.T) {
	for _, line := range []string{
		"labels", "labels b", " labels", "x", "Queue p 1 2/3 4/5", "QUEUE p 1 2/3 4/5", "queues p 1 2/3 4/5", "que ue p 1 2/3 4/5", "p 1 2/3 4/5",
		"queue", "queue p", "queue p 1", "queue p 1 2/3", "queue p 1 2/3 4/5 6/7", "queue p 1 2/3 4/5 x", "queue p q 1 2/3 4/5", "queue 1 2/3 4/5",
		"queue p 1 2/3/4/5", "queue p 2/3 4/5", "queue p 2/3 1 4/5", "queue p 2/3 4/5 1", "queue p 1 2 / 3 4/5", "queue p 1 2/ 3 4/5", "queue p 1 2 /3 4/5",
		"queue p 1 2 3 4 5", "queue p 1 2/3 4 5",
	} {
		for _, behind := range []string{"", "\n", "\nqueue z 1 2/3 4/5\n"} {
			checkErr(t, "P501: a line that is none", "labels a\n"+line+behind, api.ErrWord)
			checkErr(t, "P501: a line that is none, behind others", "labels a\nqueue a 1 2/3 4/5\n\n"+line+behind, api.ErrWord)
		}
	}
}

func TestP501Shares(t *testing.T) {
	for _, share := range []string{
		"1", "12", "/", "1/", "/1", "//", "1//2", "1/2/", "/1/2", "1/2/3", "1//", "//1", "1/2/3/4",
		"1\\2", "1-2", "1:2", "1|2", "1.2", "1,2", "a/1", "1/a", "a/b", "1/2a", "a1/2", "1a/2", "1/a2", "\u2215", "1\u22152",
	} {
		checkErr(t, "P501: the only share", "labels\nqueue p 1 "+share, api.ErrWord)
		checkErr(t, "P501: the first share", "labels a\nqueue p 1 "+share+" 1/2", api.ErrWord)
		checkErr(t, "P501: the last share", "labels a b\nqueue p 1 1/2 3/4 "+share, api.ErrWord)
	}
}

// places are the three where a number stands; each other number is 5.
func places(number string, n int) map[string]api.Conf {
	return map[string]api.Conf{
		"labels\nqueue p " + number + " 5/5": single("p", n, 5, 5),
		"labels\nqueue p 5 " + number + "/5": single("p", 5, n, 5),
		"labels\nqueue p 5 5/" + number:      single("p", 5, 5, n),
	}
}

func TestP501Numbers(t *testing.T) {
	for _, n := range []int{0, 1, 2, 3, 4, 5, 6, 7, 8, 9, 10, 19, 90, 99, 100, 101, 999, 1000, 9999, 10000, 10001, 12345, 67890, 99999, 100000, 999999, 1000000, 1234567, 9000000, 9999999} {
		for s, c := range places(strconv.Itoa(n), n) {
			checkParse(t, "P501: a number", s, c, api.OK)
		}
	}
	for _, number := range []string{
		"00", "01", "007", "0000000", "0000001", "00000000", "00000001", "0123456", "01234567",
		"10000000", "12345678", "99999999", "123456789", "18446744073709551617", strings.Repeat("9", 100),
		"-1", "-0", "+1", "+0", "-", "+", "1-", "1.0", "1.", ".1", "1e3", "0x1", "0b1", "0o7", "1_0", "1,000", "x", "a1", "1a", "0a", "ten",
		"\u0661", "\uff11", "\u00b2", "1\u0661", "'1'", "1;", "1\x00", "\x001", "1\xff", ":", "1:", "//", "0/", "1%",
	} {
		for s := range places(number, 0) {
			checkErr(t, "P501: a number that is none", s, api.ErrWord)
		}
	}
}

func TestP501Length(t *testing.T) {
	for _, ending := range []string{"", "\n"} {
		for _, size := range []int{mostText - 1, mostText} {
			s := sized(size, ending)
			path := strings.Fields(s)[2]
			checkParse(t, "P501: a long text", s, single(path, 0, 1, 2), api.OK)
		}
		for _, size := range []int{mostText + 1, mostText + 2, 2 * mostText, 65536, 1 << 20} {
			checkErr(t, "P501: a text that is too long", sized(size, ending), api.ErrLong)
		}
	}
	checkParse(t, "P501: blanks at the end", "labels"+strings.Repeat(" ", mostText-6), named(), api.OK)
	checkParse(t, "P501: line feeds ahead", strings.Repeat("\n", mostText-6)+"labels", named(), api.OK)
	checkErr(t, "P501: one blank too many", "labels"+strings.Repeat(" ", mostText-5), api.ErrLong)
	checkErr(t, "P501: one line feed too many", strings.Repeat("\n", mostText-5)+"labels", api.ErrLong)
	checkErr(t, "P501: line feeds alone", strings.Repeat("\n", mostText), api.ErrWord)
	checkErr(t, "P501: bytes are counted, not runes", "labels "+strings.Repeat("\u00e9", mostText/2), api.ErrLong)
}

func TestP501Queues(t *testing.T) {
	for count := range mostQueues + 1 {
		s, c := lines(paths(count)...)
		checkParse(t, "P501: queues", s, c, api.OK)
		checkParse(t, "P501: queues", strings.TrimSuffix(s, "\n"), c, api.OK)
	}
	for _, count := range []int{mostQueues + 1, mostQueues + 2, 2 * mostQueues} {
		s, _ := lines(paths(count)...)
		checkErr(t, "P501: too many queues", s, api.ErrMany)
	}
	full, c := lines(paths(mostQueues)...)
	checkParse(t, "P501: lines without words behind the last queue", full+"\n \n", c, api.OK)
}

// permuted calls see with each order of l.
func permuted(l []string, see func([]string)) {
	var place func(k int)
	place = func(k int) {
		if k == len(l) {
			see(l)
			return
		}
		for i := k; i < len(l); i++ {
			l[k], l[i] = l[i], l[k]
			place(k + 1)
			l[k], l[i] = l[i], l[k]
		}
	}
	place(0)
}

// Where the order by bytes is another one than that of names, of lengths, of letters or of runes.
func TestP501QueuesInAnyOrder(t *testing.T) {
	for _, l := range [][]string{
		{"root", "root.a", "root.a.b", "root.b", "root.b.a"},
		{"a", "a-b", "a.b", "a0", "ab"},
		{"b", "B", "a", "A", "aa"},
		{"10", "9", "09", "1", "2"},
		{"\xff", "\u00e9", "\uffff", "\U00010000", "z"},
	} {
		permuted(l, func(l []string) {
			s, c := lines(l...)
			checkParse(t, "P501: queues in any order", s, c, api.OK)
		})
	}
	l := paths(mostQueues)
	for i := range l {
		s, c := lines(append(slices.Clone(l[i:]), l[:i]...)...)
		checkParse(t, "P501: queues turned round", s, c, api.OK)
	}
	slices.Reverse(l)
	s, c := lines(l...)
	checkParse(t, "P501: queues from the last one on", s, c, api.OK)
}

func TestP501PathsTwice(t *testing.T) {
	for _, l := range [][]string{
		{"p", "p"}, {"p", "p", "p"}, {"p", "q", "p"}, {"q", "p", "p"}, {"p", "p", "q"}, {"r", "p", "q", "r"}, {"p", "q", "q", "p"},
		{"root", "root.a", "root"}, {"\xff", "\xff"}, append(paths(mostQueues-1), paths(1)...),
	} {
		s, _ := lines(l...)
		checkErr(t, "P501: a path twice", s, api.ErrIs)
		checkErr(t, "P501: a path twice", "\n"+s+" \n\n", api.ErrIs)
	}
	checkErr(t, "P501: a line twice", "labels\nqueue p 1 2/3\nqueue p 1 2/3\n", api.ErrIs)
	for _, l := range [][]string{{"p", "P"}, {"p", "pp"}, {"p", "p."}, {"\xff", "\xfe"}, {"\xff", "\ufffd"}} {
		s, c := lines(l...)
		checkParse(t, "P501: paths that are like each other", s, c, api.OK)
	}
}

func TestP501TheFirstErrorDecides(t *testing.T) {
	full, _ := lines(paths(mostQueues)...)
	twice, _ := lines(append(paths(mostQueues-1), "q10")...)
	long := strings.Repeat(" ", mostText)
	for _, c := range []struct {
		name, s string
		want    api.Errno
	}{
		{"too long, no labels line", long + "x", api.ErrLong},
		{"too long, too many Labels", "labels a b c" + long, api.ErrLong},
		{"too long, a path twice", twice + long, api.ErrLong},
		{"too long, too many queues", full + "queue" + long, api.ErrLong},
		{"too many Labels, a wrong line", "labels a b c\nx", api.ErrMany},
		{"too many Labels, a second labels line", "labels a b c\nlabels", api.ErrMany},
		{"no labels line first, too many Labels behind", "x\nlabels a b c", api.ErrWord},
		{"a queue first, too many Labels behind", "queue p 1 2/3\nlabels a b c", api.ErrWord},
		{"a wrong line, too many Labels in a second labels line", "labels\nlabels a b c", api.ErrWord},
		{"a wrong line behind the last queue", full + "x", api.ErrWord},
		{"a second labels line behind the last queue", full + "labels", api.ErrWord},
		{"a queue too many, without words", full + "queue", api.ErrMany},
		{"a queue too many, with wrong words", full + "queue z 01 x", api.ErrMany},
		{"a queue too many, of a path that is there", full + "queue q10 1 1/1", api.ErrMany},
		{"a queue too many, a wrong line behind it", full + "queue z 1 1/1\nx", api.ErrMany},
		{"a wrong line, a queue too many behind it", full + "x\nqueue z 1 1/1", api.ErrWord},
		{"a wrong queue ahead of as many as may be", strings.Replace(full, "labels\n", "labels\nqueue z 01 1/1\n", 1), api.ErrWord},
		{"the last queue that may be is wrong, and one more", full[:len(full)-1] + "x\nqueue z 1 1/1", api.ErrWord},
		{"a path twice among as many queues as may be", twice, api.ErrIs},
		{"a path twice, a queue too many", twice + "queue z 1 1/1", api.ErrMany},
		{"a path twice, a wrong line", twice + "x", api.ErrWord},
		{"a path twice, a wrong queue", "labels\nqueue p 1 2/3\nqueue p 1 2/3\nqueue q 1 2", api.ErrWord},
		{"a path twice, the second time with a wrong number", "labels\nqueue p 1 2/3\nqueue p 01 2/3", api.ErrWord},
	} {
		checkErr(t, "P501, P6: "+c.name, c.s, c.want)
	}
}

func TestP502Text(t *testing.T) {
	for _, c := range []struct {
		c    api.Conf
		want string
	}{
		{smallConf(), small},
		{named(), "labels\n"},
		{named("a", "b"), "labels a b\n"},
		{named("b", "a", "b"), "labels b a b\n"},
		{api.Conf{}, "labels\n"},
		{api.Conf{Labels: []string{}, Queues: []api.Queue{}}, "labels\n"},
		{api.Conf{Labels: []string{"first"}}, "labels\n"},
		{api.Conf{Labels: []string{"first", "second"}}, "labels second\n"},
		{named(""), "labels \n"},
		{named("", ""), "labels  \n"},
		{named("a b", "\n"), "labels a b \n\n"},
		{named("a", "b", "c", "d", "e"), "labels a b c d e\n"},
		{single("root", 0, 0, 0), "labels\nqueue root 0 0/0\n"},
		{single("root", 1, 2, 3), "labels\nqueue root 1 2/3\n"},
		{single("root", -1, -20, -300), "labels\nqueue root -1 -20/-300\n"},
		{single("", 10000000, 9223372036854775807, -9223372036854775808), "labels\nqueue  10000000 9223372036854775807/-9223372036854775808\n"},
		{api.Conf{Queues: []api.Queue{{}}}, "labels\nqueue  0\n"},
		{api.Conf{Queues: []api.Queue{queue("p", 1)}}, "labels\nqueue p 1\n"},
		{api.Conf{Queues: []api.Queue{queue("p", 1, 2, 3, 4, 5)}}, "labels\nqueue p 1 2/3 4/5\n"},
		{api.Conf{Labels: []string{"", "a"}, Queues: []api.Queue{queue("p", 1, 2, 3)}}, "labels a\nqueue p 1 2/3\n"},
		{api.Conf{Queues: []api.Queue{queue("q", 1), queue("p", 2), queue("q", 3)}}, "labels\nqueue q 1\nqueue p 2\nqueue q 3\n"},
	} {
		if got := conf.Text(c.c); got != c.want {
			t.Errorf("P502: Text of %+v: %q; want %q", c.c, got, c.want)
		}
	}
}

func TestP502TextOfMany(t *testing.T) {
	want, c := lines(paths(90)...)
	if got := conf.Text(c); got != want {
		t.Errorf("P502: Text of 90 queues: %s; want %s", short(got), short(want))
	}
	long := strings.Repeat("x", 3*mostText)
	if got := conf.Text(single(long, 1, 2, 3)); got != "labels\nqueue "+long+" 1 2/3\n" {
		t.Errorf("P502: Text that is longer than Parse reads: %s", short(got))
	}
}

// variants are configurations of which each differs from the first one in a single field, or in what is left out or put in.
func variants() []api.Conf {
	changes := []func(c *api.Conf){
		func(c *api.Conf) {},
		func(c *api.Conf) { c.Labels[0] = "x" },
		func(c *api.Conf) { c.Labels[1] = "gpus" },
		func(c *api.Conf) { c.Labels[1] = "" },
		func(c *api.Conf) { c.Labels = append(c.Labels, "") },
		func(c *api.Conf) { c.Labels = c.Labels[:1] },
		func(c *api.Conf) { c.Labels = nil },
		func(c *api.Conf) { slices.Reverse(c.Labels) },
		func(c *api.Conf) { c.Queues = nil },
		func(c *api.Conf) { c.Queues = c.Queues[:2] },
		func(c *api.Conf) { c.Queues = c.Queues[1:] },
		func(c *api.Conf) { c.Queues = append(c.Queues, api.Queue{}) },
		func(c *api.Conf) { slices.Reverse(c.Queues) },
		func(c *api.Conf) { c.Queues[0].Path, c.Queues[1].Path = c.Queues[1].Path, c.Queues[0].Path },
	}
	for i := range smallConf().Queues {
		changes = append(changes,
			func(c *api.Conf) { c.Queues[i].Path += "x" },
			func(c *api.Conf) { c.Queues[i].Path = "" },
			func(c *api.Conf) { c.Queues[i].User++ },
			func(c *api.Conf) { c.Queues[i].User = 0 },
			func(c *api.Conf) { c.Queues[i].Caps = nil },
			func(c *api.Conf) { c.Queues[i].Caps = c.Queues[i].Caps[:1] },
			func(c *api.Conf) { c.Queues[i].Caps = append(c.Queues[i].Caps, api.Cap{}) },
		)
		for k := range smallConf().Queues[i].Caps {
			changes = append(changes,
				func(c *api.Conf) { c.Queues[i].Caps[k].Least++ },
				func(c *api.Conf) { c.Queues[i].Caps[k].Most-- },
			)
		}
	}
	l := []api.Conf{{}, {Labels: []string{""}}, {Queues: []api.Queue{{}}}}
	for _, change := range changes {
		c := smallConf()
		change(&c)
		l = append(l, c)
	}
	return l
}

func TestP502Same(t *testing.T) {
	for i, a := range variants() {
		for k, b := range variants() {
			if conf.Same(a, b) != (i == k) {
				t.Errorf("P502: Same of %+v and %+v: %v", a, b, i != k)
			}
		}
	}
}

func TestP502SameOfNilAndEmpty(t *testing.T) {
	empty := api.Conf{Labels: []string{}, Queues: []api.Queue{}}
	if !conf.Same(api.Conf{}, empty) || !conf.Same(empty, api.Conf{}) {
		t.Error("P2, P502: nil lists and empty ones are not the same")
	}
	a := api.Conf{Queues: []api.Queue{{Path: "p"}}}
	b := api.Conf{Queues: []api.Queue{{Path: "p", Caps: []api.Cap{}}}}
	if !conf.Same(a, b) || !conf.Same(b, a) {
		t.Error("P2, P502: nil Caps and empty ones are not the same")
	}
}

// checkAgain fails unless what s tells is read again from its Text, where that isn't too long.
func checkAgain(t *testing.T, s string) {
	t.Helper()
	c, e := conf.Parse(s)
	if e != api.OK {
		t.Errorf("P503: %s: %v", short(s), e)
	}
	text := conf.Text(c)
	if len(text) > mostText {
		checkErr(t, "P503", text, api.ErrLong)
		return
	}
	checkParse(t, "P503", text, c, api.OK)
	again, _ := conf.Parse(text)
	if !conf.Same(c, again) || conf.Text(again) != text {
		t.Errorf("P503: Text of %s: %s", short(s), short(text))
	}
}

func TestP503ReadAgain(t *testing.T) {
	full, _ := lines(paths(mostQueues)...)
	for _, s := range []string{
		"labels", "labels\n", " labels  b   a ", small, strings.TrimSuffix(small, "\n"), strings.ReplaceAll(small, " ", "   "),
		full, strings.TrimSuffix(full, "\n"),
		"labels x labels\n\nqueue queue 0 1/2 3/4 9999999/0\n",
		"labels\nqueue b 1 1/1\nqueue a 1 1/1\nqueue c 1 1/1",
		"labels \xff \t\nqueue \x00 1234567 7654321/0 0/0 1000000/9999999",
	} {
		checkAgain(t, s)
	}
}

// A text without a line feed at its end gets one, and may become too long by that; blanks that are left out make room for it.
func TestP503ReadAgainAboutTheGreatestLength(t *testing.T) {
	for size := mostText - 3; size <= mostText; size++ {
		for _, ending := range []string{"", "\n", " ", "\n\n", "  "} {
			checkAgain(t, sized(size, ending))
		}
	}
	c, e := conf.Parse(sized(mostText, ""))
	if text := conf.Text(c); e != api.OK || text != sized(mostText, "")+"\n" {
		t.Errorf("P503: %v, %d bytes", e, len(text))
	}
	checkErr(t, "P503: a Text that is too long", conf.Text(c), api.ErrLong)
}

// copied is c in memory of its own.
func copied(c api.Conf) api.Conf {
	c.Labels, c.Queues = slices.Clone(c.Labels), slices.Clone(c.Queues)
	for i := range c.Queues {
		c.Queues[i].Caps = slices.Clone(c.Queues[i].Caps)
	}
	return c
}

// roomy is c with spare room behind each of its lists, and room what stands in it.
func roomy(c api.Conf) (api.Conf, func() any) {
	c = copied(c)
	c.Labels = append(c.Labels, "guard")[:len(c.Labels)]
	c.Queues = append(c.Queues, queue("guard", 1))[:len(c.Queues)]
	for i, q := range c.Queues {
		c.Queues[i].Caps = append(q.Caps, api.Cap{Least: 77, Most: 78})[:len(q.Caps)]
	}
	return c, func() any {
		room := []any{c.Labels[:len(c.Labels)+1], c.Queues[:len(c.Queues)+1]}
		for _, q := range c.Queues {
			room = append(room, q.Caps[:len(q.Caps)+1])
		}
		return room
	}
}

func TestP502ChangesNoArgument(t *testing.T) {
	for _, c := range variants() {
		a, room := roomy(c)
		_, before := roomy(c)
		conf.Text(a)
		conf.Same(a, c)
		conf.Same(c, a)
		if !alike(a, c) || !reflect.DeepEqual(room(), before()) {
			t.Errorf("P2: %+v has changed: %+v", c, a)
		}
	}
}

// overwrite fills a list, and its spare room, with v.
func overwrite[T any](l []T, v T) {
	l = l[:cap(l)]
	for i := range l {
		l[i] = v
	}
}

func TestP501ResultsAreNew(t *testing.T) {
	c, _ := conf.Parse(small)
	overwrite(c.Labels, "x")
	if want := smallConf(); !alike(api.Conf{Labels: want.Labels, Queues: c.Queues}, want) {
		t.Errorf("P2: Labels share memory with the queues: %+v", c)
	}
	for i := range c.Queues {
		overwrite(c.Queues[i].Caps, api.Cap{Least: -1, Most: i})
	}
	for i, q := range c.Queues {
		if !slices.Equal(q.Caps, slices.Repeat([]api.Cap{{Least: -1, Most: i}}, 2)) {
			t.Errorf("P2: the Caps of two queues share memory: %+v", c)
		}
	}
	overwrite(c.Queues, api.Queue{})
	checkParse(t, "P2: behind what was overwritten", small, smallConf(), api.OK)
}

func TestP501P502AnswerTheSameAgain(t *testing.T) {
	for range 3 {
		checkParse(t, "P3", small, smallConf(), api.OK)
		checkErr(t, "P3", small+"x", api.ErrWord)
		if conf.Text(smallConf()) != small || !conf.Same(smallConf(), smallConf()) {
			t.Error("P3: Text or Same")
		}
	}
}
