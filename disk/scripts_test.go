package disk_test

import (
	"strings"
	"testing"

	"dispatch/api"
	"dispatch/disk"
)

// plainRoom is the room of the disks of this file: little, so that short scripts fill it.
const plainRoom = 5

// plain is a disk written down as the chapter tells it: what is synced and what is not are apart, and the Stop's number and the operations behind it are kept as they are.
type plain struct {
	synced, loose, snap string
	dead                bool
	ops, stop, passed   int
}

// operate is an operation that leaves size bytes; done is what it does, and half what it does where the power fails.
func (p *plain) operate(size int, done, half func()) api.Errno {
	if p.dead {
		return api.ErrDead
	}
	if size > plainRoom {
		return api.ErrFull
	}
	p.passed++
	if p.stop > 0 && p.passed == p.stop {
		p.dead = true
		half()
		return api.ErrDead
	}
	p.ops++
	done()
	return api.OK
}

func (p *plain) append(b string) api.Errno {
	write := func() { p.loose += b }
	return p.operate(len(p.synced)+len(p.loose)+len(p.snap)+len(b), write, write)
}

func (p *plain) sync() api.Errno {
	return p.operate(0, func() { p.synced, p.loose = p.synced+p.loose, "" }, func() {})
}

func (p *plain) swap(b string) api.Errno {
	replace := func() { p.synced, p.loose, p.snap = "", "", b }
	return p.operate(len(b), replace, func() {
		if p.stop%2 == 0 {
			replace()
		}
	})
}

func (p *plain) halt(n int) { p.stop, p.passed = n, 0 }

func (p *plain) crash(pick int) int {
	count := len(p.loose) + 1
	for pick < 0 {
		pick += count
	}
	kept := pick % count
	p.synced, p.loose, p.dead, p.stop = p.synced+p.loose[:kept], "", false, 0
	return kept
}

// act is a call of both disks; it gives what the one answers, and what the plain one does.
type act struct {
	name string
	call func(d *disk.Disk, p *plain) (got, want int)
}

func appending(b string) act {
	return act{"Append(" + b + ")", func(d *disk.Disk, p *plain) (int, int) { return int(d.Append([]byte(b))), int(p.append(b)) }}
}

func swapping(b string) act {
	return act{"Swap(" + b + ")", func(d *disk.Disk, p *plain) (int, int) { return int(d.Swap([]byte(b))), int(p.swap(b)) }}
}

func stopping(name string, n int) act {
	return act{"Stop(" + name + ")", func(d *disk.Disk, p *plain) (int, int) { d.Stop(n); p.halt(n); return 0, 0 }}
}

func crashing(name string, pick int) act {
	return act{"Crash(" + name + ")", func(d *disk.Disk, p *plain) (int, int) { return d.Crash(pick), p.crash(pick) }}
}

func acts() []act {
	return []act{
		appending("ab"), appending("cde"), swapping("xy"), swapping("123456"),
		{"Sync", func(d *disk.Disk, p *plain) (int, int) { return int(d.Sync()), int(p.sync()) }},
		stopping("0", 0), stopping("1", 1), stopping("2", 2), stopping("3", 3),
		crashing("0", 0), crashing("1", 1), crashing("-2", -2),
	}
}

// run holds a disk against the plain one, call by call; it gives the calls up to the first difference, or nothing.
func run(t *testing.T, script []act) string {
	t.Helper()
	d, p := made(t, plainRoom), &plain{}
	sure := "" // what was synced, and not swapped since
	for i, a := range script {
		got, want := a.call(d, p)
		if strings.HasPrefix(a.name, "Swap") && len(d.Log()) == 0 {
			sure = ""
		}
		if !strings.HasPrefix(string(d.Log()), sure) {
			return "P303: " + told(script[:i+1])
		}
		if got != want || faceOf(d) != (face{p.synced + p.loose, p.snap, p.dead, p.ops}) {
			return "P301, P302: " + told(script[:i+1])
		}
		if a.name == "Sync" && got == int(api.OK) || strings.HasPrefix(a.name, "Crash") {
			sure = string(d.Log())
		}
	}
	return ""
}

func told(script []act) string {
	var names []string
	for _, a := range script {
		names = append(names, a.name)
	}
	return strings.Join(names, " ")
}

// each calls visit with every script of that many calls.
func each(all []act, length int, visit func(script []act)) {
	picks := make([]int, length)
	script := make([]act, length)
	for {
		for i, k := range picks {
			script[i] = all[k]
		}
		visit(script)
		i := 0
		for i < length && picks[i] == len(all)-1 {
			picks[i] = 0
			i++
		}
		if i == length {
			return
		}
		picks[i]++
	}
}

func TestP301P302P303AllShortScripts(t *testing.T) {
	tried := 0
	each(acts(), 5, func(script []act) {
		tried++
		if calls := run(t, script); calls != "" {
			t.Fatalf("not as the chapter tells: %s", calls)
		}
	})
	if want := 12 * 12 * 12 * 12 * 12; tried != want {
		t.Errorf("%d scripts; want %d", tried, want)
	}
}

func TestP301P302P303LongScripts(t *testing.T) {
	all := acts()
	for step := 1; step < 300; step++ {
		var script []act
		for i := range 200 {
			script = append(script, all[i*i*step%1009%len(all)])
		}
		if calls := run(t, script); calls != "" {
			t.Fatalf("not as the chapter tells: %s", calls)
		}
	}
}
