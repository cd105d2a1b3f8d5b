package tests

import (
	"fmt"
	"reflect"
	"runtime"
	"slices"
	"testing"
	"time"

	"loop.example/g01398/impl"
)

// This file has what promise 1 and the conventions behind it say of the functions of every chapter.

// call is one function with arguments of one kind; it returns all results, the code last, where there is one.
type call[A any] struct {
	name string
	run  func(a A) []any
	code bool
}

// isCall looks that a call returns a code that has a name, and nothing beside one other than OK.
func isCall[A any](t *testing.T, c call[A], a A) {
	t.Helper()
	results := c.run(a)
	if !c.code {
		return
	}
	last := len(results) - 1
	code := results[last].(int64)
	if impl.CodeName(code) == "" {
		t.Errorf("%s returns the code %d", c.name, code)
	}
	isCode(t, c.name, code, code, results[:last]...)
}

// isError looks that a call returns a code, and nothing beside it.
func isError[A any](t *testing.T, name string, c call[A], a A, want int64) {
	t.Helper()
	results := c.run(a)
	last := len(results) - 1
	isCode(t, c.name+", "+name, results[last].(int64), want, results[:last]...)
}

// areErrors looks that a call returns a code for each one of some bad things, put among its arguments.
func areErrors[A, B any](t *testing.T, c call[A], a A, want int64, bad map[string]B, put func(a *A, b B)) {
	t.Helper()
	for name, b := range bad {
		with := a
		put(&with, b)
		isError(t, name, c, with, want)
	}
}

// haveEqualResults makes all calls twice, the second time in the other order and with other memory.
func haveEqualResults[A any](t *testing.T, cases []A, calls []call[A], other func(a A) A) {
	t.Helper()
	first := make([]string, 0, len(cases)*len(calls))
	for _, a := range cases {
		for _, c := range calls {
			first = append(first, fmt.Sprintf("%v", c.run(a)))
		}
	}
	at := len(first)
	for i := range cases {
		a := other(cases[len(cases)-1-i])
		for j := range calls {
			c := calls[len(calls)-1-j]
			at--
			if got := fmt.Sprintf("%v", c.run(a)); got != first[at] {
				t.Errorf("%s: got %s, and then %s", c.name, first[at], got)
			}
		}
	}
}

// elsewhere returns a list in other memory, with another capacity.
func elsewhere[T any](list []T) []T { return append(make([]T, 0, len(list)+99), list...) }

// guard gives a list more capacity, in all of which there is something; what it returns tells whether all of this is as it was.
func guard[T comparable](list *[]T, filler T) func() bool {
	all := append(slices.Clone(*list), filler, filler, filler)
	was := slices.Clone(all)
	*list = all[:len(*list)]
	return func() bool { return slices.Equal(all, was) }
}

// doNotModify makes all calls with arguments that are guarded.
func doNotModify[A any](t *testing.T, cases []A, calls []call[A], guarded func(a A) (A, func() bool)) {
	t.Helper()
	for _, a := range cases {
		a, isKept := guarded(a)
		for _, c := range calls {
			c.run(a)
			if !isKept() {
				t.Fatalf("%s modifies an argument", c.name)
			}
		}
	}
}

// scribble writes zeros into all the memory of a result, or of its fields, also beyond its length.
func scribble(result any) {
	v := reflect.ValueOf(result)
	switch v.Kind() {
	case reflect.Struct:
		for i := range v.NumField() {
			scribble(v.Field(i).Interface())
		}
	case reflect.Slice:
		all := v.Slice(0, v.Cap())
		for i := range all.Len() {
			all.Index(i).SetZero()
		}
	}
}

// shareNoMemory writes into results; neither other results nor guarded arguments change then.
func shareNoMemory[A any](t *testing.T, cases []A, calls []call[A], guarded func(a A) (A, func() bool)) {
	t.Helper()
	for _, a := range cases {
		a, isKept := guarded(a)
		for _, c := range calls {
			first, second := c.run(a), c.run(a)
			want := fmt.Sprintf("%v", second)
			for _, r := range first {
				scribble(r)
			}
			if fmt.Sprintf("%v", second) != want {
				t.Fatalf("%s: two results share memory", c.name)
			}
			if !isKept() {
				t.Fatalf("%s: a result shares memory with an argument", c.name)
			}
		}
	}
}

// leaveNoGoroutines looks that there are no more goroutines behind some calls than ahead of them.
func leaveNoGoroutines(t *testing.T, calls func()) {
	t.Helper()
	before := runtime.NumGoroutine()
	calls()
	// One that has sent all that it has may need a moment to end.
	for range 100 {
		if runtime.NumGoroutine() <= before {
			return
		}
		time.Sleep(10 * time.Millisecond)
	}
	t.Errorf("there were %d goroutines, and now there are %d", before, runtime.NumGoroutine())
}
