package codec

import (
	"errors"
	"testing"

	"dispatch/api"
)

// passed is what a reader lets out of a panic with p.
func passed(r *Reader, p any) (out any) {
	defer func() { out = recover() }()
	func() {
		defer func() { r.settle(recover()) }()
		panic(p)
	}()
	return nil
}

func TestReaderRecoversItsOwnPanicOnly(t *testing.T) {
	for _, p := range []any{"cut", api.ErrCut, 8, errors.New("cut"), struct{ err api.Errno }{api.ErrCut}, &halt{api.ErrCut}} {
		r := New([]byte{1})
		if out := passed(r, p); out != p || r.End() != api.ErrMore {
			t.Errorf("Ways: a panic with %v: %v, %v", p, out, r.End())
		}
	}
	r := New([]byte{1})
	if out := passed(r, halt{api.ErrCut}); out != nil || r.End() != api.ErrCut {
		t.Errorf("Ways: the reader's own panic: %v, %v", out, r.End())
	}
}

func TestReaderSettlesWithoutPanic(t *testing.T) {
	r := New(nil)
	r.settle(nil)
	if e := r.End(); e != api.OK {
		t.Errorf("P202: %v", e)
	}
}
