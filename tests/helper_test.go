package tests

import (
	"reflect"
	"testing"
)

// dice is a row of numbers that look thrown, and are the same at every run.
type dice uint64

func (d *dice) upTo(high int64) int64 {
	*d = *d*6364136223846793005 + 1442695040888963407
	return int64(uint64(*d>>33) % uint64(high+1))
}

// wantCode asks for a code and, where it is not 0, for an answer that is zero but for it.
func wantCode(t *testing.T, name string, answer any, code int64) {
	t.Helper()
	v := reflect.ValueOf(answer)
	if got := v.FieldByName("Code").Int(); got != code {
		t.Errorf("%s: code %d, want %d", name, got, code)
		return
	}
	if code == 0 {
		return
	}
	for i := range v.NumField() {
		if v.Type().Field(i).Name != "Code" && !v.Field(i).IsZero() {
			t.Errorf("%s: beside code %d there is %+v", name, code, answer)
		}
	}
}

func mustPanicNever(t *testing.T, name string, call func()) {
	t.Helper()
	defer func() {
		if r := recover(); r != nil {
			t.Errorf("%s: panic: %v", name, r)
		}
	}()
	call()
}

// wantSameAgain asks of each in turn, and then backwards: whatever was asked between, a call is answered as it was at first.
func wantSameAgain[E any](t *testing.T, list []E, ask func(E) string) {
	t.Helper()
	var first []string
	for _, e := range list {
		first = append(first, ask(e))
	}
	for i := len(list) - 1; i >= 0; i-- {
		if got := ask(list[i]); got != first[i] {
			t.Errorf("number %d was answered %s, and then %s", i, first[i], got)
		}
	}
}
