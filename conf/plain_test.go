package conf_test

import (
	"regexp"
	"sort"
	"strconv"
	"strings"
	"testing"

	"dispatch/api"
	"dispatch/conf"
)

// Lines as the chapter tells them, with one blank between words and none about them.
var (
	plainBlanks = regexp.MustCompile(` +`)
	plainLabels = regexp.MustCompile(`^labels( [^ ]+)*$`)
	plainQueue  = regexp.MustCompile(`^queue [^ ]+ (0|[1-9][0-9]{0,6})( (0|[1-9][0-9]{0,6})/(0|[1-9][0-9]{0,6}))+$`)
)

// plainLines are the lines with words.
func plainLines(s string) (l []string) {
	for _, line := range strings.Split(s, "\n") {
		if line = strings.Trim(plainBlanks.ReplaceAllString(line, " "), " "); line != "" {
			l = append(l, line)
		}
	}
	return l
}

// told is Parse written down as the chapter tells it, line for line.
func told(s string) (c api.Conf, e api.Errno) {
	if len(s) > mostText {
		return api.Conf{}, api.ErrLong
	}
	for i, line := range plainLines(s) {
		words := strings.Split(line, " ")
		switch {
		case i == 0 && !plainLabels.MatchString(line):
			return api.Conf{}, api.ErrWord
		case i == 0 && len(words) > mostLabels:
			return api.Conf{}, api.ErrMany
		case i == 0:
			c = named(words[1:]...)
		case words[0] == "queue" && len(c.Queues) == mostQueues:
			return api.Conf{}, api.ErrMany
		case !plainQueue.MatchString(line) || len(words) != 3+len(c.Labels):
			return api.Conf{}, api.ErrWord
		default:
			c.Queues = append(c.Queues, plainWords(words))
		}
	}
	if c.Labels == nil {
		return api.Conf{}, api.ErrWord
	}
	return inOrder(c)
}

func plainWords(words []string) api.Queue {
	var numbers []int
	for _, word := range strings.Split(strings.Join(words[2:], "/"), "/") {
		n, _ := strconv.Atoi(word)
		numbers = append(numbers, n)
	}
	return queue(words[1], numbers[0], numbers[1:]...)
}

func inOrder(c api.Conf) (api.Conf, api.Errno) {
	seen := map[string]int{}
	for _, q := range c.Queues {
		if seen[q.Path]++; seen[q.Path] > 1 {
			return api.Conf{}, api.ErrIs
		}
	}
	sort.Slice(c.Queues, func(i, k int) bool { return c.Queues[i].Path < c.Queues[k].Path })
	return c, api.OK
}

// checkTold holds Parse of s against the plain one, and what it gave against its Text.
func checkTold(t *testing.T, s string) {
	t.Helper()
	want, e := told(s)
	checkParse(t, "P501", s, want, e)
	if e == api.OK {
		checkAgain(t, s)
	}
}

// strung calls see with begin followed by each sequence of at most that many pieces.
func strung(begin string, pieces []string, most int, see func(string)) {
	see(begin)
	if most == 0 {
		return
	}
	for _, piece := range pieces {
		strung(begin+piece, pieces, most-1, see)
	}
}

func TestP501P503AllShortTextsOfLines(t *testing.T) {
	pieces := []string{
		"labels\n", "labels a\n", " labels  b a \n", "labels a b c\n", "\n", "  \n", "x\n",
		"queue\n", "queue p 1 2/3\n", "queue q 0 0/0\n", "  queue  p  4  5/6  \n", "queue o 01 2/3\n",
		"queue p 1 2/3 4/5\n", "queue q 9999999 8/7 6/5\n", "queue a 1 2/3 4/5 6/7\n", "queue queue 1 2/3",
	}
	strung("", pieces, 4, func(s string) { checkTold(t, s) })
}

func TestP501P503AllShortEndsOfLines(t *testing.T) {
	pieces := []string{" ", "p", "0", "7", "1234567", "/", "-", "\t", "\n", "queue", "labels"}
	full, _ := lines(paths(mostQueues)...)
	for _, begin := range []string{
		"", "labels", "labels a b", "labels\n", "labels\nqueue", "labels\nqueue p", "labels\nqueue p 1", "labels\nqueue p 1 ",
		"labels\nqueue p 1 2", "labels\nqueue p 1 2/", "labels\nqueue p 1 2/3", "labels a\nqueue p 1 2/3", full, strings.TrimSuffix(full, "\n"),
	} {
		strung(begin, pieces, 4, func(s string) { checkTold(t, s) })
	}
}

// FuzzP501P503 is run over its seeds by the tests, and over more by go test -fuzz.
func FuzzP501P503(f *testing.F) {
	full, _ := lines(paths(mostQueues)...)
	for _, s := range []string{"", small, full, full + "queue", sized(mostText, ""), sized(mostText+1, "\n")} {
		f.Add(s)
	}
	f.Fuzz(checkTold)
}

// TestP502TextAsTold holds Text against the chapter's words, written piece by piece.
func TestP502TextAsTold(t *testing.T) {
	for _, c := range variants() {
		want := "labels"
		for i, name := range c.Labels {
			if i > 0 {
				want += " " + name
			}
		}
		want += "\n"
		for _, q := range c.Queues {
			want += "queue " + q.Path + " " + strconv.Itoa(q.User)
			for _, k := range q.Caps {
				want += " " + strconv.Itoa(k.Least) + "/" + strconv.Itoa(k.Most)
			}
			want += "\n"
		}
		if got := conf.Text(c); got != want {
			t.Errorf("P502: Text of %+v: %q; want %q", c, got, want)
		}
	}
}
