package guard_test

import (
	"testing"

	"soroban/api"
	"soroban/guard"
)

func TestCall(t *testing.T) {
	done := 0
	for i, c := range []struct {
		work func()
		e    api.Errno
		at   int
	}{
		{func() { done++ }, api.OK, 0},
		{func() { guard.Must(true, api.ErrForm); done++ }, api.OK, 0},
		{func() { guard.Must(false, api.ErrForm); done++ }, api.ErrForm, 0},
		{func() { guard.FailAt(api.ErrArg, 17); done++ }, api.ErrArg, 17},
		{func() { done += guard.Found(1, api.OK) }, api.OK, 0},
		{func() { done += guard.Found(1, api.ErrDiv) }, api.ErrDiv, 0},
		{func() { done += len(guard.Found("text", api.ErrType)) }, api.ErrType, 0},
		{func() { done += []int{}[done] }, api.ErrLimit, 0},
		{func() { panic("anything") }, api.ErrLimit, 0},
	} {
		if e, at := guard.CallAt(c.work); e != c.e || at != c.at {
			t.Error(i, e, at)
		}
	}
	if done != 3 {
		t.Error(done, "calls came to their end")
	}
	if e := guard.Call(func() { guard.FailAt(api.ErrSum, 3) }); e != api.ErrSum {
		t.Error(e)
	}
}

func TestFoundTwo(t *testing.T) {
	e := guard.Call(func() {
		if x, y := guard.FoundTwo(5, "five", api.OK); x != 5 || y != "five" {
			t.Error(x, y)
		}
		guard.FoundTwo(5, "five", api.ErrTwice)
		t.Error("an error did not end the call")
	})
	if e != api.ErrTwice {
		t.Error(e)
	}
}

func TestOne(t *testing.T) {
	if x, e := guard.One(func() int { return 5 }); x != 5 || e != api.OK {
		t.Error(x, e)
	}
	if x, e := guard.One(func() string { return guard.Found("text", api.ErrForm) }); x != "" || e != api.ErrForm {
		t.Error(x, e)
	}
	if x, e := guard.One(func() int { panic("anything") }); x != 0 || e != api.ErrLimit {
		t.Error(x, e)
	}
}

func TestTwo(t *testing.T) {
	if x, y, e := guard.Two(func() (int, string) { return 5, "five" }); x != 5 || y != "five" || e != api.OK {
		t.Error(x, y, e)
	}
	if x, y, e := guard.Two(func() (int, bool) { return 5, guard.Found(true, api.ErrDiv) }); x != 0 || y || e != api.ErrDiv {
		t.Error(x, y, e)
	}
}

func TestCallsWithinCalls(t *testing.T) {
	e := guard.Call(func() {
		if e := guard.Call(func() { guard.Must(false, api.ErrNone) }); e != api.ErrNone {
			t.Error(e)
		}
		guard.Must(false, api.ErrEnd)
	})
	if e != api.ErrEnd {
		t.Error(e)
	}
}
