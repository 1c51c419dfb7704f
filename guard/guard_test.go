package guard_test

import (
	"testing"

	"soroban/api"
	"soroban/guard"
)

func TestCall(t *testing.T) {
	done := 0
	for i, c := range []struct {
		work func()
		e    api.Errno
		at   int
	}{
		{func() { done++ }, api.OK, 0},
		{func() { guard.Must(true, api.ErrForm); done++ }, api.OK, 0},
		{func() { guard.Must(false, api.ErrForm); done++ }, api.ErrForm, 0},
		{func() { guard.FailAt(api.ErrArg, 17); done++ }, api.ErrArg, 17},
		{func() { done += guard.Found(1, api.OK) }, api.OK, 0},
		{func() { done += guard.Found(1, api.ErrDiv) }, api.ErrDiv, 0},
		{func() { done += len(guard.Found("text", api.ErrType)) }, api.ErrType, 0},
		{func() { done += []int{}[done] }, api.ErrLimit, 0},
		{func() { panic("anything") }, api.ErrLimit, 0},
	} {
		if e, at := guard.CallAt(c.work); e != c.e || at != c.at {
			t.Error(i, e, at)
		}
	}
	if done != 3 {
		t.Error(done, "calls came to their end")
	}
	if e := guard.Call(func() { guard.FailAt(api.ErrSum, 3) }); e != api.ErrSum {
		t.Error(e)
	}
}

func TestFoundTwo(t *testing.T) {
	e := guard.Call(func() {
		if x, y := guard.FoundTwo(5, "five", api.OK); x != 5 || y != "five" {
			t.Error(x, y)
		}
		guard.FoundTwo(5, "five", api.ErrTwice)
		t.Error("an error did not end the call")
	})
	if e != api.ErrTwice {
		t.Error(e)
	}
}

func TestCallsWithinCalls(t *testing.T) {
	e := guard.Call(func() {
		if e := guard.Call(func() { guard.Must(false, api.ErrNone) }); e != api.ErrNone {
			t.Error(e)
		}
		guard.Must(false, api.ErrEnd)
	})
	if e != api.ErrEnd {
		t.Error(e)
	}
}
