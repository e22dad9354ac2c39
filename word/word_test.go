package word

import (
	"bytes"
	"math"
	"slices"
	"testing"
)

// edges are the numbers at which a sign, a byte or a half begins or ends.
var edges = []uint32{
	0, 1, 2, 255, 256, 258,
	1<<15 - 1, 1 << 15, 1<<15 + 1,
	1<<16 - 1, 1 << 16, 1<<16 + 1, 1<<16 + 1<<15,
	1<<24 - 1, 1 << 24,
	1<<31 - 1, 1 << 31, 1<<31 + 1,
	1<<32 - 2, 1<<32 - 1,
	0x01020304, 0xDEADBEEF,
}

// Promise 1.1.

func TestBytesAndOf(t *testing.T) {
	for _, c := range []struct {
		w uint32
		b [4]byte
	}{
		{0, [4]byte{}},
		{1, [4]byte{1, 0, 0, 0}},
		{258, [4]byte{2, 1, 0, 0}},
		{1 << 15, [4]byte{0, 128, 0, 0}},
		{1 << 16, [4]byte{0, 0, 1, 0}},
		{1 << 31, [4]byte{0, 0, 0, 128}},
		{1<<32 - 1, [4]byte{255, 255, 255, 255}},
		{0x01020304, [4]byte{4, 3, 2, 1}},
	} {
		if b := Bytes(c.w); b != c.b {
			t.Errorf("Bytes(%d): %v, not %v", c.w, b, c.b)
		}
		if w := Of(c.b); w != c.w {
			t.Errorf("Of(%v): %d, not %d", c.b, w, c.w)
		}
	}
}

func TestFlat(t *testing.T) {
	for _, c := range []struct {
		l []uint32
		b []byte
	}{
		{nil, nil},
		{[]uint32{}, nil},
		{[]uint32{0}, []byte{0, 0, 0, 0}},
		{[]uint32{258}, []byte{2, 1, 0, 0}},
		{[]uint32{1, 0x01020304}, []byte{1, 0, 0, 0, 4, 3, 2, 1}},
		{[]uint32{1 << 31, 1<<32 - 1, 1 << 16}, []byte{0, 0, 0, 128, 255, 255, 255, 255, 0, 0, 1, 0}},
	} {
		if b := Flat(c.l); !bytes.Equal(b, c.b) {
			t.Errorf("Flat(%v): %v, not %v", c.l, b, c.b)
		}
	}
}

func TestWords(t *testing.T) {
	for _, c := range []struct {
		b []byte
		l []uint32
	}{
		{nil, nil},
		{[]byte{}, nil},
		{[]byte{0}, []uint32{0}},
		{[]byte{7}, []uint32{7}},
		{[]byte{1, 2}, []uint32{0x0201}},
		{[]byte{1, 2, 3}, []uint32{0x030201}},
		{[]byte{1, 2, 3, 4}, []uint32{0x04030201}},
		{[]byte{1, 2, 3, 4, 5}, []uint32{0x04030201, 5}},
		{[]byte{255, 255, 255, 255, 255, 255, 255}, []uint32{1<<32 - 1, 1<<24 - 1}},
		{[]byte{0, 0, 0, 128, 0, 0, 0, 0}, []uint32{1 << 31, 0}},
	} {
		if l := Words(c.b); !slices.Equal(l, c.l) {
			t.Errorf("Words(%v): %v, not %v", c.b, l, c.l)
		}
	}
}

// What lies behind a list's length is neither read nor written, what is handed in stays, and answers are the asker's own (R4).
func TestListsAreNotShared(t *testing.T) {
	b := []byte{1, 2, 3, 4, 5, 6, 7, 8}
	l := Words(b[:5])
	if !slices.Equal(l, []uint32{0x04030201, 5}) {
		t.Error("read behind the bytes' length:", l)
	}
	l[0], l[1] = 0, 0
	if !slices.Equal(Words(b[:5]), []uint32{0x04030201, 5}) || !bytes.Equal(b, []byte{1, 2, 3, 4, 5, 6, 7, 8}) {
		t.Error("Words changes, or shares, what it was given:", b)
	}
	n := []uint32{1, 2, 3}
	f := Flat(n[:2])
	if !bytes.Equal(f, []byte{1, 0, 0, 0, 2, 0, 0, 0}) {
		t.Error("read behind the numbers' length:", f)
	}
	clear(f)
	if !bytes.Equal(Flat(n[:2]), []byte{1, 0, 0, 0, 2, 0, 0, 0}) || !slices.Equal(n, []uint32{1, 2, 3}) {
		t.Error("Flat changes, or shares, what it was given:", n)
	}
}

// Promise 1.2.

func TestSign(t *testing.T) {
	for _, c := range []struct{ w, s uint32 }{
		{0, 0},
		{1, 1},
		{0x7FFF, 0x7FFF},
		{1 << 15, 0xFFFF8000},
		{0x8001, 0xFFFF8001},
		{65535, 1<<32 - 1},
		{1 << 16, 0},
		{0x18000, 0xFFFF8000},
		{0x12345678, 0x5678},
		{1 << 31, 0},
		{0xFFFF0000, 0},
		{0xFFFF7FFF, 0x7FFF},
		{1<<32 - 1, 1<<32 - 1},
	} {
		if s := Sign(c.w); s != c.s {
			t.Errorf("Sign(%#x): %#x, not %#x", c.w, s, c.s)
		}
	}
}

func TestLess(t *testing.T) {
	for _, c := range []struct {
		a, b uint32
		less bool
	}{
		{0, 1, true},
		{1, 0, false},
		{1<<32 - 1, 0, true},
		{0, 1<<32 - 1, false},
		{0, 1 << 31, false},
		{1 << 31, 0, true},
		{1 << 31, 1<<31 - 1, true},
		{1<<31 - 1, 1 << 31, false},
		{1 << 31, 1<<32 - 1, true},
		{1<<32 - 1, 1 << 31, false},
		{1<<32 - 2, 1<<32 - 1, true},
	} {
		if Less(c.a, c.b) != c.less {
			t.Errorf("Less(%d, %d): not %v", c.a, c.b, c.less)
		}
	}
	signed := func(w uint32) int64 {
		if w >= 1<<31 {
			return int64(w) - 1<<32
		}
		return int64(w)
	}
	for _, a := range edges {
		for _, b := range edges {
			if Less(a, b) != (signed(a) < signed(b)) {
				t.Errorf("Less(%d, %d)", a, b)
			}
		}
	}
}

// byteCases are byte numbers, and which byte each of them means.
var byteCases = []struct{ i, at int }{
	{0, 0}, {1, 1}, {2, 2}, {3, 3},
	{4, 0}, {5, 1}, {6, 2}, {7, 3}, {1000, 0},
	{-1, 3}, {-2, 2}, {-3, 1}, {-4, 0}, {-5, 3}, {-1000, 0},
	{math.MaxInt, 3}, {math.MaxInt - 1, 2}, {math.MinInt, 0}, {math.MinInt + 1, 1},
}

func TestByte(t *testing.T) {
	for _, c := range byteCases {
		if b := Byte(0x01020304, c.i); b != byte(4-c.at) {
			t.Errorf("Byte(0x01020304, %d): %d, not %d", c.i, b, 4-c.at)
		}
		if b := Byte(1<<32-1, c.i); b != 255 {
			t.Errorf("Byte(2^32 - 1, %d): %d, not 255", c.i, b)
		}
	}
}

func TestWithByte(t *testing.T) {
	want := []uint32{0x010203F9, 0x0102F904, 0x01F90304, 0xF9020304}
	for _, c := range byteCases {
		if w := WithByte(0x01020304, c.i, 0xF9); w != want[c.at] {
			t.Errorf("WithByte(0x01020304, %d, 0xF9): %#x, not %#x", c.i, w, want[c.at])
		}
	}
	for _, w := range edges {
		for _, c := range byteCases {
			if WithByte(w, c.i, Byte(w, c.i)) != w {
				t.Errorf("WithByte(%#x, %d, its own byte) is not the same", w, c.i)
			}
			if Byte(WithByte(w, c.i, 0x5A), c.i) != 0x5A {
				t.Errorf("WithByte(%#x, %d, 0x5A): the byte is not there", w, c.i)
			}
		}
	}
}

// Promise 1.3.

func TestNumbersComeBack(t *testing.T) {
	for n := range len(edges) + 1 {
		if l := Words(Flat(edges[:n])); !slices.Equal(l, edges[:n]) {
			t.Errorf("Words(Flat(%v)): %v", edges[:n], l)
		}
	}
	for _, w := range edges {
		if Of(Bytes(w)) != w {
			t.Errorf("Of(Bytes(%d)): %d", w, Of(Bytes(w)))
		}
	}
}

func TestBytesComeBack(t *testing.T) {
	var b []byte
	for n := range 70 {
		f := Flat(Words(b))
		if len(f) != (n+3)/4*4 || !bytes.Equal(f[:n], b) {
			t.Errorf("Flat(Words(%v)): %v", b, f)
		} else if bytes.ContainsFunc(f[n:], func(r rune) bool { return r != 0 }) {
			t.Errorf("Flat(Words(%v)): no noughts behind: %v", b, f)
		}
		b = append(b, byte(255-37*n))
	}
}
