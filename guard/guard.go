// Package guard ends calls with errors. However deep in a call something is found to be wrong, the call gives this error and nothing else; a call never panics.
package guard

import "soroban/api"

// fault is the panic of a call that ends with an error, and the offset that belongs to the error.
type fault struct {
	e  api.Errno
	at int
}

// FailAt ends a call with an error and an offset.
func FailAt(e api.Errno, at int) {
	panic(fault{e, at})
}

// Must ends a call with an error if what it needs is not so.
func Must(so bool, e api.Errno) {
	if !so {
		FailAt(e, 0)
	}
}

// Found returns what another call has found; an error instead of it ends this call, too.
func Found[T any](x T, e api.Errno) T {
	Must(e == api.OK, e)
	return x
}

// FoundTwo is Found for a call that finds two things.
func FoundTwo[T, U any](x T, y U, e api.Errno) (T, U) {
	Must(e == api.OK, e)
	return x, y
}

// One does some work, and returns what it finds, or the error with which it has ended.
func One[T any](work func() T) (x T, e api.Errno) {
	e = Call(func() { x = work() })
	return x, e
}

// Two is One for work that finds two things.
func Two[T, U any](work func() (T, U)) (x T, y U, e api.Errno) {
	e = Call(func() { x, y = work() })
	return x, y, e
}

// Call does some work, and returns the error with which it has ended.
func Call(work func()) api.Errno {
	e, _ := CallAt(work)
	return e
}

// CallAt does some work, and returns the error with which it has ended, and the offset that belongs to it.
func CallAt(work func()) (e api.Errno, at int) {
	defer func() {
		switch r := recover().(type) {
		case nil:
		case fault:
			e, at = r.e, r.at
		default: // whatever has gone wrong, the caller sees an error
			e = api.ErrLimit
		}
	}()
	work()
	return api.OK, 0
}
