package disk_test

import (
	"bytes"
	"fmt"
	"math"
	"strings"
	"testing"

	"dispatch/api"
	"dispatch/disk"
)

// most is the greatest room that a disk may have.
const most = 1 << 24

func made(t *testing.T, room int) *disk.Disk {
	t.Helper()
	d, e := disk.New(room)
	if d == nil || e != api.OK {
		t.Fatalf("P301: New(%d): %v", room, e)
	}
	return d
}

// filled is a disk whose log is synced and then loose.
func filled(t *testing.T, room int, synced, loose string) *disk.Disk {
	t.Helper()
	d := made(t, room)
	for _, e := range []api.Errno{d.Append([]byte(synced)), d.Sync(), d.Append([]byte(loose))} {
		if e != api.OK {
			t.Fatalf("P301: a log of %q and %q: %v", synced, loose, e)
		}
	}
	return d
}

// face is what a disk tells of itself.
type face struct {
	log, snap string
	dead      bool
	ops       int
}

// String tells the beginnings alone where the bytes are too many to be told.
func (f face) String() string {
	return fmt.Sprintf("log of %d: %.40q, snapshot of %d: %.40q, dead: %v, ops: %d", len(f.log), f.log, len(f.snap), f.snap, f.dead, f.ops)
}

func faceOf(d *disk.Disk) face {
	return face{string(d.Log()), string(d.Snap()), d.Dead(), d.Ops()}
}

func check(t *testing.T, name string, d *disk.Disk, want face) {
	t.Helper()
	if got := faceOf(d); got != want {
		t.Errorf("%s: %v; want %v", name, got, want)
	}
}

func answers(t *testing.T, name string, got, want api.Errno) {
	t.Helper()
	if got != want {
		t.Errorf("%s: %v; want %v", name, got, want)
	}
}

// crash fails unless that many bytes are kept.
func crash(t *testing.T, name string, d *disk.Disk, pick, want int) {
	t.Helper()
	if got := d.Crash(pick); got != want {
		t.Errorf("%s: Crash(%d): %d; want %d", name, pick, got, want)
	}
}

// operations are one of each, with so many bytes.
func operations(size int) map[string]func(d *disk.Disk) api.Errno {
	return map[string]func(d *disk.Disk) api.Errno{
		"Append": func(d *disk.Disk) api.Errno { return d.Append(make([]byte, size)) },
		"Sync":   (*disk.Disk).Sync,
		"Swap":   func(d *disk.Disk) api.Errno { return d.Swap(make([]byte, size)) },
	}
}

func TestP301New(t *testing.T) {
	for _, room := range []int{1, 2, 4000, most - 1, most} {
		check(t, "P301: a new disk", made(t, room), face{})
	}
	for _, room := range []int{0, -1, most + 1, math.MinInt, math.MaxInt} {
		if d, e := disk.New(room); d != nil || e != api.ErrArg {
			t.Errorf("P301: New(%d): %v, %v; want nil, %v", room, d, e, api.ErrArg)
		}
	}
}

func TestP301Append(t *testing.T) {
	d := made(t, 100)
	for i, c := range []struct{ b, log string }{{"ab", "ab"}, {"", "ab"}, {"\x00\xff", "ab\x00\xff"}, {"ab", "ab\x00\xffab"}} {
		answers(t, "P301: Append", d.Append([]byte(c.b)), api.OK)
		check(t, "P301: Append", d, face{log: c.log, ops: i + 1})
	}
	answers(t, "P301: Append of nil", d.Append(nil), api.OK)
	crash(t, "P301: Append does not sync", d, 0, 0)
	check(t, "P301: Append does not sync", d, face{ops: 5})
}

func TestP301AppendRoom(t *testing.T) {
	for _, room := range []int{1, 6, 4000, most} {
		d := made(t, room)
		full := strings.Repeat("x", room)
		answers(t, "P301: one byte too many for an empty disk", d.Append([]byte(full+"y")), api.ErrFull)
		check(t, "P301: one byte too many for an empty disk", d, face{})
		answers(t, "P301: just the room", d.Append([]byte(full)), api.OK)
		answers(t, "P301: one byte behind a full log", d.Append([]byte("y")), api.ErrFull)
		answers(t, "P301: nothing behind a full log", d.Append(nil), api.OK)
		check(t, "P301: a full log", d, face{log: full, ops: 2})
	}
}

func TestP301AppendRoomBesideASnapshot(t *testing.T) {
	d := made(t, 6)
	answers(t, "P301: Swap", d.Swap([]byte("123")), api.OK)
	answers(t, "P301: Append", d.Append([]byte("ab")), api.OK)
	answers(t, "P301: log and snapshot have one byte too many", d.Append([]byte("cd")), api.ErrFull)
	check(t, "P301: log and snapshot would have one byte too many", d, face{log: "ab", snap: "123", ops: 2})
	answers(t, "P301: log and snapshot have just room bytes", d.Append([]byte("c")), api.OK)
	answers(t, "P301: one byte more", d.Append([]byte("d")), api.ErrFull)
	answers(t, "P301: Sync of a full disk", d.Sync(), api.OK)
	check(t, "P301: log and snapshot have just room bytes", d, face{log: "abc", snap: "123", ops: 4})
	answers(t, "P301: a snapshot of room bytes", d.Swap([]byte("123456")), api.OK)
	answers(t, "P301: no room beside it", d.Append([]byte("d")), api.ErrFull)
	answers(t, "P301: an empty snapshot", d.Swap(nil), api.OK)
	answers(t, "P301: all room for the log", d.Append([]byte("abcdef")), api.OK)
	check(t, "P301: all room for the log", d, face{log: "abcdef", ops: 7})
}

func TestP301LostBytesLeaveTheirRoom(t *testing.T) {
	d := filled(t, 6, "ab", "cdef")
	crash(t, "P302: one byte is kept", d, 1, 1)
	answers(t, "P301: one byte too many", d.Append([]byte("1234")), api.ErrFull)
	answers(t, "P301: room of the lost bytes", d.Append([]byte("123")), api.OK)
	check(t, "P301: room of the lost bytes", d, face{log: "abc123", ops: 4})
}

func TestP301Sync(t *testing.T) {
	d := made(t, 100)
	answers(t, "P301: Sync of nothing", d.Sync(), api.OK)
	check(t, "P301: Sync of nothing", d, face{ops: 1})
	for _, log := range []string{"ab", "abcd", "abcdef"} {
		answers(t, "P301: Append", d.Append([]byte(log[len(log)-2:])), api.OK)
		answers(t, "P301: Sync", d.Sync(), api.OK)
		crash(t, "P301: Sync makes the whole log synced", d, 1, 0)
		if got := string(d.Log()); got != log {
			t.Errorf("P301: Sync: %q; want %q", got, log)
		}
	}
	answers(t, "P301: Sync a second time", d.Sync(), api.OK)
	check(t, "P301: Sync", d, face{log: "abcdef", ops: 8})
}

func TestP301Swap(t *testing.T) {
	d := filled(t, 6, "abc", "def")
	answers(t, "P301: one byte too many", d.Swap([]byte("1234567")), api.ErrFull)
	check(t, "P301: one byte too many", d, face{log: "abcdef", ops: 3})
	answers(t, "P301: just the room, the log is full", d.Swap([]byte("123456")), api.OK)
	check(t, "P301: just the room", d, face{snap: "123456", ops: 4})
	crash(t, "P301: Swap is synced", d, 1, 0)
	check(t, "P301: Swap is synced", d, face{snap: "123456", ops: 4})
	answers(t, "P301: just the room, a second time", d.Swap([]byte("abcdef")), api.OK)
	check(t, "P301: a second snapshot", d, face{snap: "abcdef", ops: 5})
	answers(t, "P301: Swap of nothing", d.Swap(nil), api.OK)
	check(t, "P301: Swap of nothing", d, face{ops: 6})
	answers(t, "P301: Append", d.Append([]byte("abc")), api.OK)
	crash(t, "P301: what is appended behind a Swap is not synced", d, 1, 1)
	check(t, "P301: what is appended behind a Swap is not synced", d, face{log: "a", ops: 7})
}

func TestP301RefusedSwapSyncsNothing(t *testing.T) {
	d := filled(t, 6, "abc", "def")
	answers(t, "P301: one byte too many", d.Swap(make([]byte, 7)), api.ErrFull)
	crash(t, "P5: a refused Swap", d, 0, 0)
	check(t, "P5: a refused Swap", d, face{log: "abc", ops: 3})
}

func TestP301GreatestSnapshot(t *testing.T) {
	d := made(t, most)
	snap := strings.Repeat("x", most)
	answers(t, "P301: a snapshot of 2^24 + 1 bytes", d.Swap([]byte(snap+"y")), api.ErrFull)
	answers(t, "P301: a snapshot of 2^24 bytes", d.Swap([]byte(snap)), api.OK)
	answers(t, "P301: one byte beside it", d.Append([]byte("y")), api.ErrFull)
	check(t, "P301: a snapshot of 2^24 bytes", d, face{snap: snap, ops: 1})
}

func TestP301Dead(t *testing.T) {
	d := made(t, 10)
	answers(t, "P301: Swap", d.Swap([]byte("1234")), api.OK)
	answers(t, "P301: Append", d.Append([]byte("ab")), api.OK)
	d.Stop(1)
	answers(t, "P302: Sync", d.Sync(), api.ErrDead)
	dead := face{log: "ab", snap: "1234", dead: true, ops: 2}
	check(t, "P301: Log and Snap, the power off", d, dead)
	for _, n := range []int{0, 1, 2, -1} {
		for _, size := range []int{0, 4, 5, 10, 11, 99} {
			for name, operate := range operations(size) {
				answers(t, "P301: the power is off: "+name, operate(d), api.ErrDead)
			}
		}
		check(t, "P301: operations while the power is off", d, dead)
		d.Stop(n)
		check(t, "P302: Stop while the power is off", d, dead)
	}
	crash(t, "P301: nothing was written or synced", d, 1, 1)
	check(t, "P301: nothing was written or synced", d, face{log: "a", snap: "1234", ops: 2})
}

func TestP302Ops(t *testing.T) {
	d := made(t, 3)
	for _, c := range []struct {
		name    string
		operate func() api.Errno
		err     api.Errno
		ops     int
	}{
		{"Append", func() api.Errno { return d.Append([]byte("abc")) }, api.OK, 1},
		{"Append without room", func() api.Errno { return d.Append([]byte("d")) }, api.ErrFull, 1},
		{"Append of nothing", func() api.Errno { return d.Append(nil) }, api.OK, 2},
		{"Sync", d.Sync, api.OK, 3},
		{"Sync of nothing new", d.Sync, api.OK, 4},
		{"Swap without room", func() api.Errno { return d.Swap(make([]byte, 4)) }, api.ErrFull, 4},
		{"Swap", func() api.Errno { return d.Swap(nil) }, api.OK, 5},
	} {
		answers(t, "P302: "+c.name, c.operate(), c.err)
		if got := d.Ops(); got != c.ops {
			t.Errorf("P302: Ops behind %s: %d; want %d", c.name, got, c.ops)
		}
	}
	d.Log()
	d.Snap()
	d.Dead()
	d.Stop(5)
	crash(t, "P302: Ops", d, 0, 0)
	check(t, "P302: only operations count", d, face{ops: 5})
}

func TestP302OperationAtWhichThePowerFailsDoesNotCount(t *testing.T) {
	for _, n := range []int{1, 2} {
		for name, operate := range operations(0) {
			d := made(t, 10)
			d.Stop(n)
			for range n - 1 {
				answers(t, "P302: ahead of the power's failing", d.Sync(), api.OK)
			}
			answers(t, "P302: "+name, operate(d), api.ErrDead)
			check(t, "P302: "+name, d, face{dead: true, ops: n - 1})
			crash(t, "P302: "+name, d, 0, 0)
			check(t, "P302: "+name+": Crash leaves Ops", d, face{ops: n - 1})
			answers(t, "P302: the power is on again: "+name, operate(d), api.OK)
			check(t, "P302: the power is on again: "+name, d, face{ops: n})
		}
	}
}

func TestP302StopAtAppend(t *testing.T) {
	for n := 1; n <= 4; n++ {
		d := filled(t, 100, "old", "")
		d.Stop(n)
		for range n - 1 {
			answers(t, "P302: an Append ahead of it", d.Append([]byte("a")), api.OK)
		}
		check(t, "P302: ahead of it", d, face{log: "old" + strings.Repeat("a", n-1), ops: n + 2})
		answers(t, "P302: the Append", d.Append([]byte("bc")), api.ErrDead)
		check(t, "P302: an Append is written", d, face{log: "old" + strings.Repeat("a", n-1) + "bc", dead: true, ops: n + 2})
		crash(t, "P302: but not synced", d, n, n)
		check(t, "P302: but not synced", d, face{log: "old" + strings.Repeat("a", n-1) + "b", ops: n + 2})
	}
}

func TestP302StopAtSync(t *testing.T) {
	for n := 1; n <= 4; n++ {
		d := filled(t, 100, "old", "new")
		d.Stop(n)
		for range n - 1 {
			answers(t, "P302: an Append ahead of it", d.Append(nil), api.OK)
		}
		answers(t, "P302: the Sync", d.Sync(), api.ErrDead)
		check(t, "P302: the log stays", d, face{log: "oldnew", dead: true, ops: n + 2})
		crash(t, "P302: a Sync is not done", d, 0, 0)
		check(t, "P302: a Sync is not done", d, face{log: "old", ops: n + 2})
	}
}

func TestP302StopAtSwap(t *testing.T) {
	for n := 1; n <= 6; n++ {
		d := made(t, 20)
		answers(t, "P302: the last Swap", d.Swap([]byte("last")), api.OK)
		answers(t, "P302: Append", d.Append([]byte("old")), api.OK)
		answers(t, "P302: Sync", d.Sync(), api.OK)
		d.Stop(n)
		for range n - 1 {
			answers(t, "P302: an Append ahead of it", d.Append([]byte("n")), api.OK)
		}
		answers(t, "P302: the Swap", d.Swap([]byte("snapshot")), api.ErrDead)
		log := "old" + strings.Repeat("n", n-1)
		want := face{log: log, snap: "last", dead: true, ops: n + 2}
		if n%2 == 0 {
			want.log, want.snap = "", "snapshot"
		}
		check(t, "P302: the Swap is done if n is even", d, want)
		kept := 0
		if n%2 == 1 {
			want.log, kept = log[:3+(n-1)/2], (n-1)/2
		}
		want.dead = false
		crash(t, "P302: behind the Swap", d, kept, kept)
		check(t, "P302: behind the Swap", d, want)
	}
}

func TestP302StopCountsOnlyWhatWouldBeDone(t *testing.T) {
	d := filled(t, 10, "old", "")
	d.Stop(3)
	for i := range 3 {
		answers(t, "P302: an Append without room", d.Append(make([]byte, 8)), api.ErrFull)
		answers(t, "P302: a Swap without room", d.Swap(make([]byte, 11)), api.ErrFull)
		check(t, "P302: what finds no room", d, face{log: "old" + strings.Repeat("a", i), ops: 3 + i})
		if i < 2 {
			answers(t, "P302: an Append", d.Append([]byte("a")), api.OK)
		}
	}
	answers(t, "P302: the third", d.Append([]byte("z")), api.ErrDead)
	check(t, "P302: the third", d, face{log: "oldaaz", dead: true, ops: 5})
}

func TestP302StopBelowOne(t *testing.T) {
	for _, n := range []int{0, -1, -2, math.MinInt, math.MinInt + 1} {
		for _, first := range []int{0, 1, 2} {
			d := made(t, 100)
			d.Stop(first)
			d.Stop(n)
			for range 5 {
				for name, operate := range operations(3) {
					answers(t, "P302: Stop below 1: "+name, operate(d), api.OK)
				}
			}
			if d.Dead() || d.Ops() != 15 {
				t.Errorf("P302: Stop(%d): %v, %d", n, d.Dead(), d.Ops())
			}
		}
	}
}

func TestP302StopReplacesStop(t *testing.T) {
	for _, c := range []struct{ first, passed, second int }{{1, 0, 3}, {3, 0, 1}, {2, 1, 2}, {4, 2, 3}, {2, 1, 1}, {0, 2, 2}, {-5, 1, 1}, {math.MaxInt, 3, 2}} {
		d := made(t, 100)
		d.Stop(c.first)
		for range c.passed {
			answers(t, "P302: ahead of the second Stop", d.Sync(), api.OK)
		}
		d.Stop(c.second)
		for range c.second - 1 {
			answers(t, "P302: behind the second Stop", d.Sync(), api.OK)
		}
		answers(t, "P302: at the second Stop", d.Sync(), api.ErrDead)
		check(t, "P302: at the second Stop", d, face{dead: true, ops: c.passed + c.second - 1})
	}
}

// What decides is the second Stop's number, not the first one's, and not that of all operations.
func TestP302SwapGoesByTheLastStop(t *testing.T) {
	for _, c := range []struct {
		first, second int
		done          bool
	}{{2, 1, false}, {1, 2, true}, {4, 3, false}, {3, 4, true}} {
		for passed := range 2 {
			d := made(t, 100)
			for range passed {
				answers(t, "P302: ahead of it", d.Append([]byte("x")), api.OK)
			}
			d.Stop(c.first)
			d.Stop(c.second)
			for range c.second - 1 {
				answers(t, "P302: ahead of it", d.Append([]byte("x")), api.OK)
			}
			answers(t, "P302: the Swap", d.Swap([]byte("snap")), api.ErrDead)
			if done := string(d.Snap()) == "snap" && len(d.Log()) == 0; done != c.done {
				t.Errorf("P302: Stop(%d), Stop(%d): a Swap is done: %v", c.first, c.second, done)
			}
		}
	}
}

func TestP302StopFarAway(t *testing.T) {
	d := made(t, 10)
	d.Stop(math.MaxInt)
	for range 9 {
		answers(t, "P302: Sync", d.Sync(), api.OK)
	}
	d.Stop(1000)
	for range 999 {
		answers(t, "P302: Sync", d.Sync(), api.OK)
	}
	answers(t, "P302: the 1000th", d.Sync(), api.ErrDead)
	check(t, "P302: the 1000th", d, face{dead: true, ops: 1008})
}

func TestP302Crash(t *testing.T) {
	for _, c := range []struct {
		loose      string
		pick, kept int
	}{
		{"new", 0, 0}, {"new", 1, 1}, {"new", 2, 2}, {"new", 3, 3}, {"new", 4, 0}, {"new", 5, 1}, {"new", 7, 3}, {"new", 8, 0},
		{"new", -1, 3}, {"new", -2, 2}, {"new", -3, 1}, {"new", -4, 0}, {"new", -5, 3}, {"new", -8, 0},
		{"new", math.MaxInt, 3}, {"new", math.MinInt, 0}, {"new", math.MinInt + 1, 1},
		{"", 0, 0}, {"", 1, 0}, {"", -1, 0}, {"", math.MinInt, 0},
		{"x", 1, 1}, {"x", 2, 0}, {"x", -1, 1}, {"x", -2, 0},
	} {
		for _, synced := range []string{"", "old"} {
			for _, off := range []bool{false, true} {
				d := filled(t, 100, synced, c.loose)
				if off {
					d.Stop(1)
					answers(t, "P302: the power fails", d.Sync(), api.ErrDead)
				}
				crash(t, "P302: of "+synced+" and "+c.loose, d, c.pick, c.kept)
				check(t, "P302: of "+synced+" and "+c.loose, d, face{log: synced + c.loose[:c.kept], ops: 3})
				crash(t, "P302: what is left is synced", d, 0, 0)
				check(t, "P302: what is left is synced", d, face{log: synced + c.loose[:c.kept], ops: 3})
			}
		}
	}
}

// The chapter's example.
func TestP302CrashExample(t *testing.T) {
	d := made(t, 100)
	answers(t, "P301: Append", d.Append([]byte("abc")), api.OK)
	crash(t, "P302: example 1", d, 2, 2)
	check(t, "P302: example 1", d, face{log: "ab", ops: 1})
}

func TestP302CrashSetsNoStop(t *testing.T) {
	for _, n := range []int{1, 2, 3} {
		d := made(t, 100)
		d.Stop(n)
		crash(t, "P302: with a Stop that is set", d, 0, 0)
		for range 5 {
			for name, operate := range operations(1) {
				answers(t, "P302: no Stop is set: "+name, operate(d), api.OK)
			}
		}
		d.Stop(1)
		answers(t, "P302: the power fails", d.Sync(), api.ErrDead)
		d.Stop(n)
		crash(t, "P302: with a Stop that was set while the power was off", d, 0, 0)
		for range 5 {
			answers(t, "P302: no Stop is set", d.Sync(), api.OK)
		}
		d.Stop(2)
		answers(t, "P302: a Stop behind Crash", d.Sync(), api.OK)
		answers(t, "P302: a Stop behind Crash", d.Sync(), api.ErrDead)
	}
}

func TestP303SyncedBytesStay(t *testing.T) {
	for _, pick := range []int{0, 1, -1, 5, math.MinInt, math.MaxInt} {
		d := filled(t, 20, "old", "")
		for name, operate := range operations(3) {
			d.Stop(1)
			answers(t, "P303: "+name, operate(d), api.ErrDead)
			d.Crash(pick)
			if !strings.HasPrefix(string(d.Log()), "old") {
				t.Errorf("P303: %s, Crash(%d): %q", name, pick, d.Log())
			}
		}
		answers(t, "P303: Swap", d.Swap([]byte("new")), api.OK)
		d.Append([]byte("abc"))
		d.Crash(pick)
		if got := string(d.Snap()); got != "new" || strings.Contains(string(d.Log()), "o") {
			t.Errorf("P303: behind the Swap, Crash(%d): %q, %q", pick, d.Log(), got)
		}
	}
}

func overwrite(b []byte) {
	b = b[:cap(b)]
	for i := range b {
		b[i] = '#'
	}
}

func TestP301KeepsNoArgument(t *testing.T) {
	for _, n := range []int{0, 1, 2} {
		d := made(t, 100)
		snap, log := []byte("snap"), []byte("log")
		answers(t, "P301: Swap", d.Swap(snap), api.OK)
		overwrite(snap)
		answers(t, "P301: Append", d.Append(log), api.OK)
		overwrite(log)
		more := []byte("more")
		d.Stop(n)
		d.Append(more)
		overwrite(more)
		if string(d.Snap()) != "snap" || string(d.Log()) != "logmore" {
			t.Errorf("P2: an argument is kept: %q, %q", d.Log(), d.Snap())
		}
	}
	d := made(t, 100)
	d.Stop(2)
	d.Sync()
	snap := []byte("snap")
	d.Swap(snap)
	overwrite(snap)
	if string(d.Snap()) != "snap" {
		t.Errorf("P2: the argument of a Swap at which the power fails is kept: %q", d.Snap())
	}
}

func TestP301ChangesNoArgument(t *testing.T) {
	whole := bytes.Repeat([]byte("7"), 50)
	d := made(t, 100)
	for range 3 {
		d.Append(whole[:3])
		d.Append([]byte("more"))
		d.Swap(whole[10:13])
		d.Append([]byte("more"))
		d.Crash(1)
	}
	if !bytes.Equal(whole, bytes.Repeat([]byte("7"), 50)) {
		t.Errorf("P2: an argument has changed: %s", whole)
	}
}

func TestP301ResultsAreNew(t *testing.T) {
	d := made(t, 100)
	d.Swap([]byte("snap"))
	for _, b := range []string{"a", "b", "c", "d", "e"} { // so that the log's own memory has spare room
		d.Append([]byte(b))
	}
	log, snap := d.Log(), d.Snap()
	overwrite(log)
	overwrite(snap)
	d.Append([]byte("f"))
	want := face{log: "abcdef", snap: "snap", ops: 7}
	check(t, "P2: results are the user's", d, want)
	log, snap = d.Log(), d.Snap()
	overwrite(d.Log())
	overwrite(d.Snap())
	d.Crash(0)
	d.Append([]byte("new"))
	d.Swap([]byte("SNAP"))
	if string(log) != "abcdef" || string(snap) != "snap" {
		t.Errorf("P2: results have changed: %q, %q", log, snap)
	}
}

func TestP301SpareRoomOfResults(t *testing.T) {
	d := made(t, 100)
	d.Swap([]byte("snap"))
	for _, b := range []string{"abc", "d", "e"} {
		d.Append([]byte(b))
		overwrite(append(d.Log(), '#'))
		overwrite(append(d.Snap(), '#'))
		d.Append([]byte(b))
	}
	check(t, "P2: spare room of results", d, face{log: "abcabcddee", snap: "snap", ops: 7})
}

func TestP302DisksAreApart(t *testing.T) {
	one, other := filled(t, 10, "one", ""), filled(t, 5, "other", "")
	one.Stop(1)
	answers(t, "P7: the other disk", other.Sync(), api.OK)
	answers(t, "P7: the one disk", one.Append([]byte("x")), api.ErrDead)
	crash(t, "P7: the other disk", other, 1, 0)
	check(t, "P7: the one disk", one, face{log: "onex", dead: true, ops: 3})
	check(t, "P7: the other disk", other, face{log: "other", ops: 4})
}
