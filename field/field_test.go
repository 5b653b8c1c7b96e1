package field_test

import (
	"math"
	"testing"

	"spareparts/api"
	"spareparts/field"
)

// slowMul is A1's words for Mul: the whole product first, then what is left of it by Poly.
func slowMul(a, b byte) byte {
	product := 0
	for k := range 8 {
		if int(b)&(1<<k) != 0 {
			product ^= int(a) << k
		}
	}
	for k := 14; k >= 8; k-- {
		if product&(1<<k) != 0 {
			product ^= api.Poly << (k - 8)
		}
	}
	return byte(product)
}

// slowInv looks for the byte that times a is 1.
func slowInv(a byte) byte {
	for b := range 256 {
		if slowMul(a, byte(b)) == 1 {
			return byte(b)
		}
	}
	return 0
}

// slowPow is a, n times by itself, without the knowledge that powers come again.
func slowPow(a byte, n uint64) byte {
	product := byte(1)
	for ; n > 0; n >>= 1 {
		if n&1 == 1 {
			product = slowMul(product, a)
		}
		a = slowMul(a, a)
	}
	return product
}

func TestA1MulOfChosenBytes(t *testing.T) {
	for _, c := range []struct{ a, b, want byte }{
		{0, 0, 0},
		{0, 255, 0},
		{255, 0, 0},
		{1, 200, 200},
		{200, 1, 200},
		{3, 3, 5}, // a sum by XOR: by carries it would be 9
		{2, 64, 128},
		{2, 128, 29}, // the document's first example
		{128, 2, 29},
		{128, 128, 19},
		{255, 255, 226},
	} {
		if got := field.Mul(c.a, c.b); got != c.want {
			t.Errorf("Mul(%d, %d) is %d, not %d", c.a, c.b, got, c.want)
		}
	}
}

func TestA1MulOfAllBytes(t *testing.T) {
	for a := range 256 {
		for b := range 256 {
			x, y := byte(a), byte(b)
			if got, want := field.Mul(x, y), slowMul(x, y); got != want {
				t.Fatalf("Mul(%d, %d) is %d, not %d", a, b, got, want)
			}
		}
	}
}

func TestA1InvOfZeroIsZero(t *testing.T) {
	if got := field.Inv(0); got != 0 {
		t.Errorf("Inv(0) is %d, not 0", got)
	}
}

func TestA1InvOfAllBytes(t *testing.T) {
	for a := range 256 {
		x := byte(a)
		if got, want := field.Inv(x), slowInv(x); got != want {
			t.Errorf("Inv(%d) is %d, not %d", a, got, want)
		}
	}
}

func TestA1WhatIsMultipliedCanBeUndone(t *testing.T) {
	for a := range 256 {
		for b := 1; b < 256; b++ {
			x, y := byte(a), byte(b)
			if got := field.Mul(field.Mul(x, y), field.Inv(y)); got != x {
				t.Fatalf("%d times %d, undone, is %d", a, b, got)
			}
		}
	}
}

func TestA1PowOfChosenBytes(t *testing.T) {
	for _, c := range []struct {
		a    byte
		n    int
		want byte
	}{
		{0, 0, 1},
		{1, 0, 1},
		{255, 0, 1},
		{0, 1, 0},
		{0, 255, 0},
		{0, -1, 0},
		{0, -255, 0},
		{0, math.MaxInt, 0},
		{0, math.MinInt, 0},
		{1, math.MaxInt, 1},
		{1, math.MinInt, 1},
		{2, 7, 128},
		{2, 8, 29},
		{2, 254, 142},
		{2, 255, 1},
		{2, 256, 2},
		{2, -1, 142},
		{2, -254, 2},
		{2, -255, 1},
		{2, -256, 142},
	} {
		if got := field.Pow(c.a, c.n); got != c.want {
			t.Errorf("Pow(%d, %d) is %d, not %d", c.a, c.n, got, c.want)
		}
	}
}

func TestA1PowStepByStep(t *testing.T) {
	for a := 1; a < 256; a++ {
		x := byte(a)
		undo := slowInv(x)
		up, down := byte(1), byte(1)
		for n := range 600 {
			if got := field.Pow(x, n); got != up {
				t.Fatalf("Pow(%d, %d) is %d, not %d", a, n, got, up)
			}
			if got := field.Pow(x, -n); got != down {
				t.Fatalf("Pow(%d, %d) is %d, not %d", a, -n, got, down)
			}
			up, down = slowMul(up, x), slowMul(down, undo)
		}
	}
}

func TestA1PowOfZero(t *testing.T) {
	for n := 1; n < 600; n++ {
		if got := field.Pow(0, n); got != 0 {
			t.Fatalf("Pow(0, %d) is %d, not 0", n, got)
		}
		if got := field.Pow(0, -n); got != 0 {
			t.Fatalf("Pow(0, %d) is %d, not 0", -n, got)
		}
	}
}

func TestA1PowOfGreatNumbers(t *testing.T) {
	for a := 1; a < 256; a++ {
		x := byte(a)
		undo := slowInv(x)
		for less := range 300 {
			n := math.MaxInt - less
			if got, want := field.Pow(x, n), slowPow(x, uint64(n)); got != want {
				t.Fatalf("Pow(%d, %d) is %d, not %d", a, n, got, want)
			}
			n = math.MinInt + less
			// The least int's opposite is no int, but as a uint64 it wraps to the right number.
			if got, want := field.Pow(x, n), slowPow(undo, -uint64(n)); got != want {
				t.Fatalf("Pow(%d, %d) is %d, not %d", a, n, got, want)
			}
		}
	}
}
