package exo

import (
	"math"
	"slices"
	"testing"

	"onionskin/api"
	"onionskin/disk"
	"onionskin/tlb"
)

// Promise 18.3: the errors, and their order.

// least tells a call whose numbers are the least that may be; each of its names is 0.
func least(op int) api.Call {
	c := api.Call{Op: op}
	for at := range len(letters[op]) {
		c.Arg[at] = one(letters[op][at] == 'u').N
	}
	return c
}

// wrong tells calls of an Op that may not be.
func wrong(op int) []api.Call {
	var l []api.Call
	most := map[byte]int{'a': 15, 'g': 31, 't': 1, 'k': 3, 'u': 4096, 'w': 1<<32 - 1}
	for at := range 4 {
		numbers := slices.Clone(noNumbers)
		if at >= len(letters[op]) {
			numbers = append(numbers, 1)
		} else if n, is := most[letters[op][at]]; is {
			numbers = []int{-1, n + 1, math.MaxInt, math.MinInt, -1 << 32, 1<<33 + 1}
			if letters[op][at] == 'u' {
				numbers = append(numbers, 0)
			}
		}
		for _, n := range numbers {
			c := least(op)
			c.Arg[at] = n
			l = append(l, c)
		}
	}
	for k := range 16 {
		c := least(op)
		c.Words[k] = 1
		if op != api.CLay && op != api.CWrite {
			l = append(l, c)
		}
		c = least(op)
		c.Program.Reg[k] = 1
		if op != api.CRun {
			l = append(l, c)
		}
	}
	if op != api.CRun {
		c := least(op)
		c.Program.PC = 4
		l = append(l, c)
	}
	return l
}

func TestDead(t *testing.T) {
	x := newRig(t)
	unchanged(t, x, func() {
		for op := 0; op <= 41; op++ {
			calls := []api.Call{callOf(op), callOf(op, 511, 5), callOf(op, -1), callOf(op, math.MaxInt)}
			if op >= 1 && op <= 40 {
				calls = append(calls, least(op))
				calls = append(calls, wrong(op)...)
			}
			for _, c := range calls {
				for _, e := range slices.Concat([]int{2, 15, 16}, noNumbers) {
					if r := x.Call(e, c); r != failed(api.EDEAD) {
						t.Fatalf("Call(%d, %v): %v", e, c, r)
					}
				}
			}
		}
	})
}

func TestWrong(t *testing.T) {
	x := newRig(t)
	enter(t, x, 2, [4]int{}) // it has no names: EARG comes ahead of EPERM
	unchanged(t, x, func() {
		for op := 1; op <= 40; op++ {
			for _, c := range wrong(op) {
				for e := range 3 {
					if r := x.Call(e, c); r != failed(api.EARG) {
						t.Errorf("Call(%d, %v): %v", e, c, r)
					}
				}
			}
		}
		for _, op := range slices.Concat([]int{0, 41, 42, 256 + 40, 512 + 1}, noNumbers) {
			if op >= 1 && op <= 40 {
				continue
			}
			for e := range 3 {
				if r := x.Call(e, api.Call{Op: op}); r != failed(api.EARG) {
					t.Errorf("Call(%d) of %d: %v", e, op, r)
				}
			}
		}
	})
}

// TestPermission asks each call with a name that means nothing, at each place of one.
func TestPermission(t *testing.T) {
	x := newRig(t)
	soil(t, x)
	enter(t, x, 2, [4]int{})
	enter(t, x, 3, [4]int{1, 1, 1, 1})
	revoke(t, x, 3, api.Frame, 0)
	revoke(t, x, 3, api.Block, 0)
	revoke(t, x, 3, api.Space, 0)
	revoke(t, x, 3, api.Port, 0)
	unchanged(t, x, func() {
		for op := 1; op <= 32; op++ {
			for at := range len(letters[op]) {
				kind, is := kindsOf[letters[op][at]]
				if !is {
					continue
				}
				many := []int{4, 3, 2, 2}[kind]
				for _, name := range []int{many, many + 1, 7, 63, 255, 256, 511} {
					c := least(op)
					c.Arg[at] = name
					if r := x.Call(1, c); r != failed(api.EPERM) {
						t.Errorf("Call(1, %v): %v", c, r)
					}
				}
				for e := 2; e < 4; e++ {
					if r := x.Call(e, least(op)); r != failed(api.EPERM) {
						t.Errorf("Call(%d) of %d: %v", e, op, r)
					}
				}
			}
		}
		// EPERM comes ahead of what else a call may answer.
		for _, c := range []api.Call{
			callOf(api.CFind, 4, 99), callOf(api.CUnbind, 2, 0), callOf(api.CBound, 2, 0), callOf(api.CGuard, 2, 0), callOf(api.CPeek, 2, 1),
			callOf(api.CPoke, 2, 2, 3), callOf(api.CPeek, 2, 4096), callOf(api.CReceive, 2), callOf(api.CSend, 2, 1), callOf(api.CRun, 2, 5),
		} {
			if r := x.Call(1, c); r != failed(api.EPERM) {
				t.Errorf("Call(1, %v): %v", c, r)
			}
		}
	})
}

// TestOwnNeedNoNames asks the calls about names of one that has none.
func TestOwnNeedNoNames(t *testing.T) {
	x := newRig(t)
	enter(t, x, 2, [4]int{})
	for kind := range 4 {
		for _, name := range []int{0, 1, 511} {
			expect(t, x, 2, number(0), api.CHas, kind, name)
			expect(t, x, 2, failed(api.ENOENT), api.CNext, kind, name)
			expect(t, x, 2, failed(api.ENOENT), api.CGive, kind, name)
		}
		expect(t, x, 2, number(0), api.CCount, kind)
		expect(t, x, 2, failed(api.ENOENT), api.CWanted, kind)
	}
	expect(t, x, 2, number(5), api.CDepth)
	expect(t, x, 2, done, api.CYield)
	expect(t, x, 2, done, api.CNop)
}

// Promise 18.3: frames.

// some are words that differ from each other, the greatest ones among them.
var some = api.Words{1<<32 - 1, 1 << 31, 3, 1<<31 - 1, 5, 6, 7, 8, 9, 10, 11, 12, 13, 14, 15, 1<<32 - 2}

// layWords lays words into a frame.
func layWords(t *testing.T, x *Exo, e, frame int, l api.Words) {
	t.Helper()
	c := callOf(api.CLay, frame)
	c.Words = l
	if r := x.Call(e, c); r != done {
		t.Fatalf("Lay(%d): %v", frame, r)
	}
}

// holds tells whether a frame of the machine holds these.
func holds(t *testing.T, x *Exo, frame int, want api.Words) {
	t.Helper()
	if l, ok := x.Memory().Page(frame); !ok || api.Words(l) != want {
		t.Errorf("frame %d holds %v, not %v", frame, l, want)
	}
}

func TestGetPutPageLay(t *testing.T) {
	x := newRig(t)
	layWords(t, x, 1, 1, some)
	holds(t, x, 4, some)
	for at, w := range some {
		expect(t, x, 1, number(int(w)), api.CGet, 1, at)
		expect(t, x, 1, number(0), api.CGet, 0, at)
	}
	expect(t, x, 1, api.Reply{Words: some}, api.CPage, 1)
	expect(t, x, 1, done, api.CPage, 0)
	want := some
	for at := range 16 {
		for _, w := range []uint32{0, 1<<32 - 1, 1 << 31, uint32(at)} {
			expect(t, x, 1, done, api.CPut, 1, at, int(w))
			want[at] = w
			holds(t, x, 4, want)
			expect(t, x, 1, number(int(w)), api.CGet, 1, at)
		}
	}
	for f := range 12 {
		if f != 4 {
			holds(t, x, f, api.Words{})
		}
	}
	layWords(t, x, 1, 1, api.Words{15: 1})
	holds(t, x, 4, api.Words{15: 1})
	layWords(t, x, 1, 1, api.Words{})
	holds(t, x, 4, api.Words{})
}

func TestCopyClearSwapSame(t *testing.T) {
	x := newRig(t)
	other := api.Words{1, 2, 3}
	layWords(t, x, 1, 2, some)
	layWords(t, x, 1, 3, other)
	expect(t, x, 1, number(0), api.CSame, 2, 3)
	expect(t, x, 1, number(1), api.CSame, 0, 1)
	for f := range 4 {
		expect(t, x, 1, number(1), api.CSame, f, f)
	}
	expect(t, x, 1, done, api.CCopy, 0, 2)
	holds(t, x, 3, some)
	holds(t, x, 5, some)
	expect(t, x, 1, number(1), api.CSame, 2, 0)
	expect(t, x, 1, done, api.CPut, 0, 15, 1)
	expect(t, x, 1, number(0), api.CSame, 2, 0)
	expect(t, x, 1, done, api.CPut, 0, 15, 1<<32-2)
	expect(t, x, 1, done, api.CPut, 0, 0, 1)
	expect(t, x, 1, number(0), api.CSame, 0, 2)
	expect(t, x, 1, done, api.CCopy, 2, 2)
	holds(t, x, 5, some)
	expect(t, x, 1, done, api.CSwap, 2, 3)
	holds(t, x, 5, other)
	holds(t, x, 6, some)
	expect(t, x, 1, done, api.CSwap, 2, 1)
	holds(t, x, 4, other)
	holds(t, x, 5, api.Words{})
	expect(t, x, 1, done, api.CSwap, 3, 3)
	holds(t, x, 6, some)
	expect(t, x, 1, done, api.CClear, 3)
	holds(t, x, 6, api.Words{})
	expect(t, x, 1, done, api.CClear, 3)
	holds(t, x, 6, api.Words{})
	holds(t, x, 4, other)
}

func TestSumFind(t *testing.T) {
	x := newRig(t)
	expect(t, x, 1, number(0), api.CSum, 1)
	for at := range 16 {
		expect(t, x, 1, done, api.CPut, 1, at, 1<<at)
	}
	expect(t, x, 1, number(1<<16-1), api.CSum, 1)
	var all api.Words
	for at := range all {
		all[at] = 1<<32 - 1
	}
	layWords(t, x, 1, 1, all)
	expect(t, x, 1, number(1<<32-16), api.CSum, 1)
	layWords(t, x, 1, 1, api.Words{0: 1 << 31, 15: 1 << 31})
	expect(t, x, 1, number(0), api.CSum, 1)
	layWords(t, x, 1, 1, api.Words{3: 1<<32 - 1, 4: 7})
	expect(t, x, 1, number(6), api.CSum, 1)

	layWords(t, x, 1, 1, some)
	for at, w := range some {
		expect(t, x, 1, number(at), api.CFind, 1, int(w))
		expect(t, x, 1, failed(api.ENOENT), api.CFind, 1, int(w)^0x40000000)
	}
	expect(t, x, 1, failed(api.ENOENT), api.CFind, 1, 0)
	expect(t, x, 1, number(0), api.CFind, 2, 0)
	layWords(t, x, 1, 1, api.Words{5, 6, 7, 6, 7, 6, 6, 6, 6, 6, 6, 6, 6, 6, 6, 8})
	expect(t, x, 1, number(1), api.CFind, 1, 6)
	expect(t, x, 1, number(2), api.CFind, 1, 7)
	expect(t, x, 1, number(15), api.CFind, 1, 8)
	expect(t, x, 1, failed(api.ENOENT), api.CFind, 1, 1<<32-1)
}

// Promise 18.3: bindings.

// runAt runs one instruction at the beginning of a page.
func runAt(x *Exo, e, space, n int) api.Reply {
	return x.Call(e, api.Call{Op: api.CRun, Arg: [4]int{space, 1}, Program: api.Context{PC: uint32(64 * n)}})
}

// entries tells whether these are the entries.
func entries(t *testing.T, x *Exo, want ...tlb.Entry) {
	t.Helper()
	if l := x.Entries(); !slices.Equal(l, want) {
		t.Errorf("entries: %v, not %v", l, want)
	}
}

func TestBindAndBound(t *testing.T) {
	x := newRig(t)
	for n := range 32 {
		expect(t, x, 1, failed(api.ENOENT), api.CBound, 1, n)
		for f := range 4 {
			for write := range 2 {
				expect(t, x, 1, done, api.CBind, 1, n, f, write)
				expect(t, x, 1, number(2*f+write), api.CBound, 1, n)
				expect(t, x, 1, number(n+1), api.CPages, 1)
			}
		}
		expect(t, x, 1, failed(api.ENOENT), api.CBound, 0, n)
	}
	expect(t, x, 1, number(0), api.CPages, 0)
	expect(t, x, 1, number(32), api.CUses, 3)
	for f := range 3 {
		expect(t, x, 1, number(0), api.CUses, f)
	}
	p := pictureOf(x)
	for at, b := range p.bindings {
		if at.space != 3 || b.Frame != 6 || !b.Write {
			t.Error(at, b)
		}
	}
	// A frame's name is told, not whichever one it had.
	revoke(t, x, 1, api.Frame, 1)
	revoke(t, x, 0, api.Frame, 0)
	grant(t, x, 1, api.Frame, 2, 5) // frames 0 and 4, by the names 1 and 4
	mean(t, x, 1, api.Frame, 3, 0, 5, 6, 4)
	expect(t, x, 1, done, api.CBind, 1, 0, 4, 1)
	expect(t, x, 1, done, api.CBind, 1, 1, 1, 0)
	expect(t, x, 1, number(9), api.CBound, 1, 0)
	expect(t, x, 1, number(2), api.CBound, 1, 1)
	expect(t, x, 1, number(7), api.CBound, 1, 2)
}

func TestUnbindGuardEmpty(t *testing.T) {
	x := newRig(t)
	for n := range 32 {
		expect(t, x, 1, failed(api.ENOENT), api.CUnbind, 0, n)
		expect(t, x, 1, failed(api.ENOENT), api.CGuard, 0, n)
	}
	expect(t, x, 1, number(0), api.CEmpty, 0)
	for n := range 6 {
		expect(t, x, 1, done, api.CBind, n%2, n, n/2, 1)
	}
	expect(t, x, 1, done, api.CGuard, 0, 2)
	expect(t, x, 1, number(2), api.CBound, 0, 2)
	expect(t, x, 1, number(3), api.CBound, 1, 3)
	expect(t, x, 1, done, api.CGuard, 0, 2)
	expect(t, x, 1, number(2), api.CBound, 0, 2)
	expect(t, x, 1, failed(api.ENOENT), api.CGuard, 1, 2)
	expect(t, x, 1, done, api.CUnbind, 0, 2)
	expect(t, x, 1, failed(api.ENOENT), api.CBound, 0, 2)
	expect(t, x, 1, failed(api.ENOENT), api.CUnbind, 0, 2)
	expect(t, x, 1, failed(api.ENOENT), api.CGuard, 0, 2)
	expect(t, x, 1, number(2), api.CPages, 0)
	expect(t, x, 1, number(3), api.CPages, 1)
	expect(t, x, 1, number(1), api.CUses, 1)
	expect(t, x, 1, number(2), api.CUses, 2)
	expect(t, x, 1, number(3), api.CEmpty, 1)
	expect(t, x, 1, number(0), api.CEmpty, 1)
	expect(t, x, 1, number(2), api.CPages, 0)
	expect(t, x, 1, number(0), api.CPages, 1)
	expect(t, x, 1, number(1), api.CUses, 2)
	expect(t, x, 1, number(0), api.CUses, 1)
	expect(t, x, 1, number(2), api.CEmpty, 0)
	expect(t, x, 1, number(0), api.CUses, 2)
}

// TestTLBForgets asks that behind Bind, Unbind and Guard the TLB has no entry of the page, behind Empty none of the space, and that it has all others.
func TestTLBForgets(t *testing.T) {
	one, two, three := tlb.Entry{Space: 2, Page: 1, Frame: 4, Write: true}, tlb.Entry{Space: 3, Page: 1, Frame: 4}, tlb.Entry{Space: 2, Page: 0, Frame: 4, Write: true}
	for _, y := range []struct {
		c    api.Call
		want []tlb.Entry
	}{
		{callOf(api.CBind, 0, 1, 1, 1), []tlb.Entry{two, three}},
		{callOf(api.CBind, 0, 1, 1, 0), []tlb.Entry{two, three}},
		{callOf(api.CBind, 0, 0, 2, 1), []tlb.Entry{one, two}},
		{callOf(api.CBind, 1, 1, 0, 1), []tlb.Entry{one, three}},
		{callOf(api.CBind, 1, 0, 1, 1), []tlb.Entry{one, two, three}},
		{callOf(api.CUnbind, 0, 1), []tlb.Entry{two, three}},
		{callOf(api.CUnbind, 1, 1), []tlb.Entry{one, three}},
		{callOf(api.CUnbind, 1, 0), []tlb.Entry{one, two, three}},
		{callOf(api.CGuard, 0, 1), []tlb.Entry{two, three}},
		{callOf(api.CGuard, 0, 0), []tlb.Entry{one, two}},
		{callOf(api.CGuard, 1, 1), []tlb.Entry{one, three}},
		{callOf(api.CEmpty, 0), []tlb.Entry{two}},
		{callOf(api.CEmpty, 1), []tlb.Entry{one, three}},
		{callOf(api.CPages, 0), []tlb.Entry{one, two, three}},
		{callOf(api.CBound, 0, 1), []tlb.Entry{one, two, three}},
		{callOf(api.CUses, 1), []tlb.Entry{one, two, three}},
		{callOf(api.CPeek, 0, 64), []tlb.Entry{one, two, three}},
		{callOf(api.CPoke, 0, 64, 7), []tlb.Entry{one, two, three}},
		{callOf(api.CClear, 1), []tlb.Entry{one, two, three}},
		{callOf(api.CGive, 0, 0), []tlb.Entry{one, two, three}},
		{callOf(api.CGive, 0, 1), nil},
		{callOf(api.CGive, 2, 0), []tlb.Entry{two}},
		{callOf(api.CGive, 2, 1), []tlb.Entry{one, three}},
	} {
		x := newRig(t)
		lay(t, x, 1, 1, "set r1 1")
		for _, at := range []page{{0, 1}, {1, 1}, {0, 0}} {
			expect(t, x, 1, done, api.CBind, at.space, at.n, 1, 1-at.space)
			if r := runAt(x, 1, at.space, at.n); r.N != 1 {
				t.Fatal(r)
			}
		}
		entries(t, x, one, two, three)
		x.Call(1, y.c)
		if l := x.Entries(); !slices.Equal(l, y.want) {
			t.Errorf("behind %v: %v, not %v", y.c, l, y.want)
		}
	}
}

// TestBoundAnewIsFound asks that a program finds what a page is bound to now.
func TestBoundAnewIsFound(t *testing.T) {
	x := newRig(t)
	for f := range 4 {
		expect(t, x, 1, done, api.CPut, f, 0, 0x01100000+f) // set r1 f
	}
	for _, f := range []int{2, 0, 0, 3, 1} {
		expect(t, x, 1, done, api.CBind, 0, 31, f, 0)
		if r := runAt(x, 1, 0, 31); r.N != 1 || r.Program.Reg[1] != uint32(f) {
			t.Error(f, r)
		}
	}
	expect(t, x, 1, done, api.CUnbind, 0, 31)
	if r := runAt(x, 1, 0, 31); r.N != 0 || r.Trap != (api.Trap{Cause: api.Miss, Page: 31}) {
		t.Error(r)
	}
}

// TestPeekPoke reaches each word of a page, and what is no word, or may not be reached.
func TestPeekPoke(t *testing.T) {
	x := newRig(t)
	expect(t, x, 1, done, api.CBind, 1, 0, 2, 0)
	expect(t, x, 1, done, api.CBind, 1, 31, 3, 1)
	layWords(t, x, 1, 2, some)
	var all api.Words
	for at, w := range some {
		expect(t, x, 1, number(int(w)), api.CPeek, 1, 4*at)
		expect(t, x, 1, number(0), api.CPeek, 1, 31*64+4*at)
		expect(t, x, 1, done, api.CPoke, 1, 31*64+4*at, int(w))
		all[at] = w
		holds(t, x, 6, all)
		expect(t, x, 1, number(int(w)), api.CPeek, 1, 31*64+4*at)
	}
	unchanged(t, x, func() {
		for at := range 64 {
			want := api.EFAULT
			if at%4 != 0 {
				want = api.EARG
				expect(t, x, 1, failed(want), api.CPeek, 1, at)
				expect(t, x, 1, failed(want), api.CPeek, 1, 31*64+at)
				expect(t, x, 1, failed(want), api.CPoke, 1, 31*64+at, 7)
			}
			expect(t, x, 1, failed(want), api.CPoke, 1, at, 7)
			for _, n := range []int{1, 30, 32, 33, 63, 64, 1<<26 - 1, 1 << 25} {
				expect(t, x, 1, failed(want), api.CPeek, 1, 64*n+at)
				expect(t, x, 1, failed(want), api.CPoke, 1, 64*n+at, 7)
			}
			expect(t, x, 1, failed(want), api.CPeek, 0, at)
			expect(t, x, 1, failed(want), api.CPoke, 0, 31*64+at, 7)
		}
	})
	entries(t, x)
	expect(t, x, 1, done, api.CGuard, 1, 31)
	expect(t, x, 1, failed(api.EFAULT), api.CPoke, 1, 31*64, 7)
	expect(t, x, 1, number(int(some[0])), api.CPeek, 1, 31*64)
	expect(t, x, 1, done, api.CBind, 1, 0, 2, 1)
	expect(t, x, 1, done, api.CPoke, 1, 60, 0)
	expect(t, x, 1, number(0), api.CGet, 2, 15)
}

// Promise 18.3: blocks.

// writeWords writes words to a block.
func writeWords(t *testing.T, x *Exo, e, block int, l api.Words) {
	t.Helper()
	c := callOf(api.CWrite, block)
	c.Words = l
	if r := x.Call(e, c); r != done {
		t.Fatalf("Write(%d): %v", block, r)
	}
}

// bytes tells whether a block of the disk holds these.
func bytes(t *testing.T, d *disk.Disk, block int, want disk.Data) {
	t.Helper()
	if b, ok := d.Read(block); !ok || b != want {
		t.Errorf("block %d holds %v, not %v", block, b, want)
	}
}

func TestReadWriteZero(t *testing.T) {
	x := newRig(t)
	writeWords(t, x, 1, 1, api.Words{0: 0x04030201, 1: 0xFF00FE05, 15: 0x80000009})
	bytes(t, x.Disk(), 3, disk.Data{1, 2, 3, 4, 5, 0xFE, 0, 0xFF, 60: 9, 63: 0x80})
	expect(t, x, 1, api.Reply{Words: api.Words{0: 0x04030201, 1: 0xFF00FE05, 15: 0x80000009}}, api.CRead, 1)
	expect(t, x, 1, done, api.CRead, 0)
	writeWords(t, x, 1, 1, some)
	expect(t, x, 1, api.Reply{Words: some}, api.CRead, 1)
	expect(t, x, 1, done, api.CZero, 1)
	expect(t, x, 1, done, api.CRead, 1)
	if l := x.Disk().Waiting(); !slices.Equal(l, []int{3, 3, 3}) {
		t.Error(l)
	}
	for n := range 8 {
		bytes(t, x.Disk(), n, disk.Data{})
	}
	x.Disk().Crash([]bool{false, true})
	expect(t, x, 1, api.Reply{Words: some}, api.CRead, 1)
	writeWords(t, x, 1, 1, api.Words{})
	expect(t, x, 1, done, api.CRead, 1)
	expect(t, x, 1, number(1), api.CWaits, 1)
}

func TestFetchSave(t *testing.T) {
	x := newRig(t)
	layWords(t, x, 1, 2, some)
	expect(t, x, 1, done, api.CSave, 2, 0)
	expect(t, x, 1, api.Reply{Words: some}, api.CRead, 0)
	b, _ := x.Disk().Read(2)
	for at, w := range some {
		for k := range 4 {
			if b[4*at+k] != byte(w>>(8*k)) {
				t.Fatalf("%v as bytes: %v", some, b)
			}
		}
	}
	holds(t, x, 5, some)
	expect(t, x, 1, done, api.CFetch, 0, 3)
	holds(t, x, 6, some)
	expect(t, x, 1, api.Reply{Words: some}, api.CRead, 0)
	expect(t, x, 1, done, api.CFetch, 1, 3)
	holds(t, x, 6, api.Words{})
	x.Disk().Write(3, disk.Data{1, 2, 3, 4, 5, 63: 7})
	expect(t, x, 1, done, api.CFetch, 1, 0)
	holds(t, x, 3, api.Words{0x04030201, 5, 15: 7 << 24})
	expect(t, x, 1, done, api.CSave, 1, 0)
	bytes(t, x.Disk(), 2, disk.Data{})
	if l := x.Disk().Waiting(); !slices.Equal(l, []int{2, 3, 2}) {
		t.Error(l)
	}
}

func TestFlushWaits(t *testing.T) {
	x := newRig(t)
	for n := range 3 {
		expect(t, x, 1, number(0), api.CWaits, n)
		expect(t, x, 1, done, api.CFlush, n)
	}
	for w := range 3 {
		for n := range 3 {
			writeWords(t, x, 1, n, api.Words{uint32(10*n + w)})
		}
		writeWords(t, x, 0, 1, api.Words{77})
	}
	for n := range 3 {
		expect(t, x, 1, number(1), api.CWaits, n)
	}
	expect(t, x, 0, number(0), api.CWaits, 0)
	expect(t, x, 0, number(1), api.CWaits, 1)
	expect(t, x, 1, done, api.CFlush, 1) // of three that wait nothing is told
	expect(t, x, 1, number(0), api.CWaits, 1)
	expect(t, x, 1, number(1), api.CWaits, 0)
	if l := x.Disk().Waiting(); !slices.Equal(l, []int{2, 4, 1, 2, 4, 1, 2, 4, 1}) {
		t.Error(l)
	}
	expect(t, x, 0, done, api.CFlush, 1)
	if l := x.Disk().Waiting(); !slices.Equal(l, []int{2, 4, 2, 4, 2, 4}) {
		t.Error(l)
	}
	x.Disk().Crash(nil)
	expect(t, x, 1, done, api.CRead, 0)
	expect(t, x, 1, api.Reply{Words: api.Words{12}}, api.CRead, 1)
	expect(t, x, 1, done, api.CRead, 2)
	expect(t, x, 0, api.Reply{Words: api.Words{77}}, api.CRead, 1)
	expect(t, x, 1, number(0), api.CWaits, 0)
}

func TestAlike(t *testing.T) {
	x := newRig(t)
	for n := range 3 {
		for m := range 3 {
			expect(t, x, 1, number(1), api.CAlike, n, m)
		}
	}
	writeWords(t, x, 1, 1, some)
	expect(t, x, 1, number(0), api.CAlike, 0, 1)
	expect(t, x, 1, number(0), api.CAlike, 1, 2)
	expect(t, x, 1, number(1), api.CAlike, 1, 1)
	expect(t, x, 1, number(1), api.CAlike, 2, 0)
	writeWords(t, x, 1, 2, some)
	expect(t, x, 1, done, api.CFlush, 2) // one waits, the other one lasts
	expect(t, x, 1, number(1), api.CAlike, 1, 2)
	last := some
	last[15]++
	writeWords(t, x, 1, 2, last)
	expect(t, x, 1, number(0), api.CAlike, 2, 1)
}

// Promise 18.3: ports.

func TestPort(t *testing.T) {
	x := newRig(t)
	for n := range 2 {
		expect(t, x, 1, number(0), api.CQueued, n)
		expect(t, x, 1, failed(api.EAGAIN), api.CReceive, n)
		expect(t, x, 1, number(0), api.CDrain, n)
	}
	for k := range 64 {
		expect(t, x, 1, done, api.CSend, 1, 1<<32-1-k)
		expect(t, x, 1, number(k+1), api.CQueued, 1)
	}
	unchanged(t, x, func() {
		expect(t, x, 1, failed(api.EAGAIN), api.CSend, 1, 5)
		expect(t, x, 1, failed(api.EAGAIN), api.CSend, 1, 0)
	})
	expect(t, x, 1, number(0), api.CQueued, 0)
	expect(t, x, 0, number(0), api.CQueued, 0)
	for k := range 5 {
		expect(t, x, 1, number(1<<32-1-k), api.CReceive, 1)
		expect(t, x, 1, number(63-k), api.CQueued, 1)
	}
	expect(t, x, 1, done, api.CSend, 1, 0)
	for k := 5; k < 64; k++ {
		expect(t, x, 1, number(1<<32-1-k), api.CReceive, 1)
	}
	expect(t, x, 1, number(0), api.CReceive, 1)
	unchanged(t, x, func() { expect(t, x, 1, failed(api.EAGAIN), api.CReceive, 1) })
	for k := range 7 {
		expect(t, x, 1, done, api.CSend, k%2, k)
	}
	expect(t, x, 1, number(4), api.CDrain, 0)
	expect(t, x, 1, number(0), api.CDrain, 0)
	expect(t, x, 1, failed(api.EAGAIN), api.CReceive, 0)
	expect(t, x, 1, number(3), api.CQueued, 1)
	expect(t, x, 1, number(1), api.CReceive, 1)
	if x.ports[2].Len() != 2 {
		t.Error("another port")
	}
	for k := range 64 {
		expect(t, x, 1, done, api.CSend, 0, k)
	}
	expect(t, x, 1, number(64), api.CDrain, 0)
}

// Promise 18.3: names.

func TestHasCountNext(t *testing.T) {
	x := New(12, disk.New(8))
	enter(t, x, 0, [4]int{1, 1, 1, 1})
	enter(t, x, 1, [4]int{7, 7, 7, 7})
	for kind := range 4 {
		revoke(t, x, 1, kind, 0, 3, 4)
		for name, want := range []int{0, 1, 1, 0, 0, 1, 1, 0, 0, 0, 0, 0} {
			expect(t, x, 1, number(want), api.CHas, kind, name)
		}
		expect(t, x, 1, number(0), api.CHas, kind, 511)
		expect(t, x, 1, number(4), api.CCount, kind)
		expect(t, x, 0, number(1), api.CCount, kind)
		for name, want := range []int{1, 1, 2, 5, 5, 5, 6} {
			expect(t, x, 1, number(want), api.CNext, kind, name)
		}
		for _, name := range []int{7, 8, 63, 64, 510, 511} {
			expect(t, x, 1, failed(api.ENOENT), api.CNext, kind, name)
		}
		expect(t, x, 0, number(0), api.CNext, kind, 0)
		expect(t, x, 0, failed(api.ENOENT), api.CNext, kind, 1)
	}
}

func TestNextOfMost(t *testing.T) {
	x := New(1, disk.New(512))
	enter(t, x, 0, [4]int{0, 512})
	for name := range 511 {
		revoke(t, x, 0, api.Block, name)
	}
	for _, name := range []int{0, 1, 510, 511} {
		expect(t, x, 0, number(511), api.CNext, api.Block, name)
	}
	expect(t, x, 0, number(1), api.CHas, api.Block, 511)
	expect(t, x, 0, done, api.CGive, api.Block, 511)
	expect(t, x, 0, failed(api.ENOENT), api.CNext, api.Block, 0)
}

func TestWanted(t *testing.T) {
	x := newRig(t)
	ask(t, x, 1, api.Frame, 3, 9)
	ask(t, x, 1, api.Frame, 1, 9)
	ask(t, x, 1, api.Frame, 2, 8)
	ask(t, x, 0, api.Frame, 0, 9)
	ask(t, x, 1, api.Port, 0, 9)
	for _, want := range []int{1, 2, 3} {
		unchanged(t, x, func() { expect(t, x, 1, number(want), api.CWanted, api.Frame) })
		expect(t, x, 1, done, api.CGive, api.Frame, want)
	}
	expect(t, x, 1, failed(api.ENOENT), api.CWanted, api.Frame)
	expect(t, x, 1, failed(api.ENOENT), api.CWanted, api.Block)
	expect(t, x, 1, failed(api.ENOENT), api.CWanted, api.Space)
	expect(t, x, 1, number(0), api.CWanted, api.Port)
	expect(t, x, 0, number(0), api.CWanted, api.Frame)
	mean(t, x, 1, api.Frame, 3)
}

// TestGive asks that Give does what Revoke does.
func TestGive(t *testing.T) {
	for kind, many := range []int{4, 3, 2, 2} {
		for name := range many {
			x, y := newRig(t), newRig(t)
			soil(t, x)
			soil(t, y)
			expect(t, x, 1, done, api.CGive, kind, name)
			revoke(t, y, 1, kind, name)
			if !pictureOf(x).is(pictureOf(y)) {
				t.Errorf("Give(%d, %d) is no Revoke", kind, name)
			}
			clean(t, x)
			unchanged(t, x, func() { expect(t, x, 1, failed(api.ENOENT), api.CGive, kind, name) })
			expect(t, x, 1, number(many-1), api.CCount, kind)
		}
		x := newRig(t)
		unchanged(t, x, func() {
			for _, name := range []int{many, many + 1, 511} {
				expect(t, x, 1, failed(api.ENOENT), api.CGive, kind, name)
			}
		})
	}
}

func TestDepthYieldNop(t *testing.T) {
	x := newRig(t)
	soil(t, x)
	unchanged(t, x, func() {
		for e := range 2 {
			expect(t, x, e, number(5), api.CDepth)
			expect(t, x, e, done, api.CYield)
			expect(t, x, e, done, api.CNop)
		}
	})
}

// TestAskingChangesNothing makes all calls that ask alone.
func TestAskingChangesNothing(t *testing.T) {
	x := newRig(t)
	soil(t, x)
	ask(t, x, 1, 0, 0, 5)
	for _, op := range []int{
		api.CGet, api.CPage, api.CSame, api.CSum, api.CFind, api.CBound, api.CPages, api.CPeek, api.CUses, api.CRead, api.CWaits,
		api.CAlike, api.CQueued, api.CHas, api.CCount, api.CNext, api.CWanted, api.CDepth, api.CYield, api.CNop,
	} {
		unchanged(t, x, func() {
			x.Call(1, least(op))
			for a := range 4 {
				for b := range 33 {
					x.Call(1, callOf(op, a, b))
				}
				x.Call(1, callOf(op, a, 31*64))
			}
		})
	}
}

// TestChangesOneAlone makes calls that change: each changes what it has to, and nothing else.
func TestChangesOneAlone(t *testing.T) {
	for _, y := range []struct {
		c      api.Call
		frames []int
		blocks []int
	}{
		{callOf(api.CPut, 1, 3, 5), []int{4}, nil},
		{callOf(api.CCopy, 1, 2), []int{4}, nil},
		{callOf(api.CClear, 1), []int{4}, nil},
		{callOf(api.CSwap, 1, 3), []int{4, 6}, nil},
		{callOf(api.CPoke, 0, 30*64, 9), []int{4}, nil},
		{callOf(api.CFetch, 1, 2), []int{5}, nil},
		{callOf(api.CZero, 1), nil, []int{3}},
		{callOf(api.CSave, 1, 2), nil, []int{4}},
		{callOf(api.CFlush, 1), nil, nil},
		{callOf(api.CSend, 0, 1), nil, nil},
		{callOf(api.CReceive, 1), nil, nil},
		{callOf(api.CDrain, 1), nil, nil},
		{callOf(api.CBind, 0, 3, 3, 1), nil, nil},
		{callOf(api.CUnbind, 0, 31), nil, nil},
		{callOf(api.CGuard, 0, 30), nil, nil},
		{callOf(api.CEmpty, 0), nil, nil},
	} {
		x := newRig(t)
		soil(t, x)
		before := pictureOf(x)
		if r := x.Call(1, y.c); r.Err != api.OK {
			t.Errorf("%v: %v", y.c, r)
		}
		p := pictureOf(x)
		for f := range 12 {
			if changed := p.mem[f] != before.mem[f]; changed != slices.Contains(y.frames, f) {
				t.Errorf("%v: frame %d: %v", y.c, f, changed)
			}
		}
		for n := range 8 {
			if changed := p.holds[n] != before.holds[n]; changed != slices.Contains(y.blocks, n) {
				t.Errorf("%v: block %d: %v", y.c, n, changed)
			}
		}
		if p.envs != before.envs || p.spent != before.spent || p.wants != before.wants {
			t.Errorf("%v: environments have changed", y.c)
		}
		if y.c.Op < api.CFlush && !slices.Equal(p.lasts, before.lasts) || y.c.Op < api.CSend && p.ports != before.ports {
			t.Errorf("%v: what lasts, or waits, has changed", y.c)
		}
	}
}
