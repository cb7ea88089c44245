package tests

import (
	"bytes"
	"testing"
)

const (
	spareByte   = 0xa5
	scribbled   = 0x5a
	spareLength = 64
)

// roomy answers b with marked spare room behind its length: an append into an argument would write there.
func roomy(b []byte) []byte {
	whole := bytes.Repeat([]byte{spareByte}, len(b)+spareLength)
	copy(whole, b)
	return whole[:len(b)]
}

// mustBeUntouched fails if the roomy argument is no longer the bytes it was, or its spare room was written.
func mustBeUntouched(t *testing.T, what string, arg, was []byte) {
	t.Helper()
	if !bytes.Equal(arg, was) {
		t.Fatalf("%s: the argument was %x and is %x", what, was, arg)
	}
	for _, c := range arg[len(arg):cap(arg)] {
		if c != spareByte {
			t.Fatalf("%s: the spare room behind %x was written", what, was)
		}
	}
}

// mustShareNothing scribbles over all that an answer reaches, and fails if the roomy argument shows it.
func mustShareNothing(t *testing.T, what string, answer, arg, was []byte) {
	t.Helper()
	mustBeUntouched(t, what, arg, was)
	whole := answer[:cap(answer)]
	for i := range whole {
		whole[i] = scribbled
	}
	mustBeUntouched(t, what+", answer written over", arg, was)
}
