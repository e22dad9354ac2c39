package exo

import (
	"slices"
	"testing"

	"onionskin/api"
	"onionskin/disk"
	"onionskin/tlb"
)

// Promise 18.4.

// regs tells a program at a PC, with these registers, from r0 on.
func regs(pc uint32, l ...uint32) api.Context {
	c := api.Context{PC: pc}
	copy(c.Reg[:], l)
	return c
}

// ran runs a program of environment 1: it has to do so many steps, to be so then, and to end with this trap.
func ran(t *testing.T, x *Exo, space, steps int, c api.Context, n int, then api.Context, trap api.Trap) {
	t.Helper()
	before := x.Spent(1)
	got := x.Call(1, api.Call{Op: api.CRun, Arg: [4]int{space, steps}, Program: c})
	if want := (api.Reply{N: n, Program: then, Trap: trap}); got != want {
		t.Errorf("Run of %d steps: %v, not %v", steps, got, want)
	}
	if x.Spent(1) != before+n {
		t.Errorf("%d steps were spent, not %d", x.Spent(1)-before, n)
	}
}

// newRun makes a rig where page 0 of space 0 of environment 1, which holds a program, is frame 3, to be read, and page 1 is frame 4, to be written, page 2 frame 5, to be read.
func newRun(t *testing.T, text string) *Exo {
	t.Helper()
	x := newRig(t)
	lay(t, x, 1, 0, text)
	for n, write := range []int{0, 1, 0} {
		expect(t, x, 1, done, api.CBind, 0, n, n, write)
	}
	return x
}

// tick is the trap when as many steps were done as were said.
var tick = api.Trap{Cause: api.Tick}

func TestRunTicks(t *testing.T) {
	x := newRun(t, "l: addi r1 1\naddi r2 2\njmp l")
	ran(t, x, 0, 1, regs(0), 1, regs(4, 0, 1), tick)
	ran(t, x, 0, 2, regs(0), 2, regs(8, 0, 1, 2), tick)
	ran(t, x, 0, 3, regs(0), 3, regs(0, 0, 1, 2), tick)
	ran(t, x, 0, 4095, regs(0), 4095, regs(0, 0, 1365, 2730), tick)
	ran(t, x, 0, 4096, regs(0), 4096, regs(4, 0, 1366, 2730), tick)
	ran(t, x, 0, 4096, regs(8, 7, 100, 5), 4096, regs(0, 7, 1465, 2735), tick)
	unchanged(t, x, func() {
		for _, steps := range append([]int{0, 4097, 4098}, noNumbers...) {
			if steps >= 1 && steps <= 4096 {
				continue
			}
			expect(t, x, 1, failed(api.EARG), api.CRun, 0, steps)
		}
		expect(t, x, 1, failed(api.EPERM), api.CRun, 2, 4096)
	})
}

// TestRunGoesOn asks that a run goes on where the last one stood, as one run of all steps does.
func TestRunGoesOn(t *testing.T) {
	text := "set r3 64\nset r1 9\nl: add r2 r1\nstore r2 r3 0\naddi r3 4\naddi r1 -1\njnz r1 l\nsys 77"
	x := newRun(t, text)
	whole := x.Call(1, callOf(api.CRun, 0, 4096))
	if whole.Trap != (api.Trap{Cause: api.Sys, Call: 77}) || whole.N != 2+9*5+1 || whole.Program.PC != 32 {
		t.Fatal(whole)
	}
	for _, steps := range []int{1, 2, 3, 7, 47} {
		y := newRun(t, text)
		var r api.Reply
		n := 0
		for r.Trap.Cause != api.Sys {
			r = y.Call(1, api.Call{Op: api.CRun, Arg: [4]int{0, steps}, Program: r.Program})
			if r.Trap != tick && r.Trap != whole.Trap || r.Trap == tick && r.N != steps {
				t.Fatal(r)
			}
			n += r.N
		}
		if n != whole.N || r.Program != whole.Program || y.Spent(1) != n {
			t.Errorf("by %d: %d steps, %v", steps, n, r.Program)
		}
		holds(t, y, 4, api.Words{9, 17, 24, 30, 35, 39, 42, 44, 45})
	}
}

func TestRunSys(t *testing.T) {
	x := newRun(t, "set r1 5\nsys 0\nsys -1\nsys -32768\nset r1 6")
	ran(t, x, 0, 10, regs(0), 2, regs(8, 0, 5), api.Trap{Cause: api.Sys})
	ran(t, x, 0, 10, regs(8), 1, regs(12), api.Trap{Cause: api.Sys, Call: 65535})
	ran(t, x, 0, 1, regs(12, 3), 1, regs(16, 3), api.Trap{Cause: api.Sys, Call: 32768}) // the last step, too
	ran(t, x, 0, 2, regs(0), 2, regs(8, 0, 5), api.Trap{Cause: api.Sys})
	ran(t, x, 0, 1, regs(0), 1, regs(4, 0, 5), tick)
	ran(t, x, 0, 1, regs(16), 1, regs(20, 0, 6), tick)
}

// TestRunTraps asks each other trap: the instruction is no step, and what is ahead of it was done.
func TestRunTraps(t *testing.T) {
	const far = 1<<26 - 1
	for _, y := range []struct {
		text string
		r1   uint32
		trap api.Trap
	}{
		{"load r2 r1 0", 192, api.Trap{Cause: api.Miss, Page: 3}},
		{"load r2 r1 60", 1<<32 - 64, api.Trap{Cause: api.Miss, Page: far}},
		{"store r2 r1 0", 192, api.Trap{Cause: api.Miss, Page: 3, Write: true}},
		{"storeb r2 r1 63", 1<<32 - 64, api.Trap{Cause: api.Miss, Page: far, Write: true}},
		{"loadb r2 r1 1", 32 * 64, api.Trap{Cause: api.Miss, Page: 32}},
		{"store r2 r1 0", 31 * 64, api.Trap{Cause: api.Miss, Page: 31, Write: true}},
		{"store r2 r1 0", 0, api.Trap{Cause: api.Guard, Page: 0, Write: true}},
		{"store r2 r1 4", 128, api.Trap{Cause: api.Guard, Page: 2, Write: true}},
		{"storeb r2 r1 5", 128, api.Trap{Cause: api.Guard, Page: 2, Write: true}},
		{"word 0", 0, api.Trap{Cause: api.Illegal}},
		{"word 4278190080", 0, api.Trap{Cause: api.Illegal}},
		{"div r1 r2", 7, api.Trap{Cause: api.Divide}},
		{"load r2 r1 0", 65, api.Trap{Cause: api.Align}},
		{"store r2 r1 2", 64, api.Trap{Cause: api.Align}},
		{"store r2 r1 1", 192, api.Trap{Cause: api.Align}},
	} {
		x := newRun(t, "addi r4 1\naddi r5 2\n"+y.text+"\naddi r6 1")
		before := x.Memory()
		for _, steps := range []int{3, 4, 4096} {
			ran(t, x, 0, steps, regs(0, 0, y.r1), 2, regs(8, 0, y.r1, 0, 0, 1, 2), y.trap)
			ran(t, x, 0, steps, regs(8, 0, y.r1), 0, regs(8, 0, y.r1), y.trap)
		}
		ran(t, x, 0, 1, regs(8, 0, y.r1), 0, regs(8, 0, y.r1), y.trap)
		ran(t, x, 0, 2, regs(0, 0, y.r1), 2, regs(8, 0, y.r1, 0, 0, 1, 2), tick) // nothing is asked of the third one
		for f := range 12 {
			was, _ := before.Page(f)
			holds(t, x, f, api.Words(was))
		}
	}
	x := newRun(t, "jmp 48\nret r1")
	ran(t, x, 0, 9, regs(0), 1, regs(192), api.Trap{Cause: api.Miss, Page: 3})
	ran(t, x, 0, 1, regs(0), 1, regs(192), tick)
	ran(t, x, 0, 9, regs(4, 0, 2), 1, regs(2, 0, 2), api.Trap{Cause: api.Align})
	ran(t, x, 0, 9, regs(4, 0, 1<<32-4), 1, regs(1<<32-4, 0, 1<<32-4), api.Trap{Cause: api.Miss, Page: far})
	ran(t, x, 0, 9, regs(64), 0, regs(64), api.Trap{Cause: api.Illegal})
	ran(t, x, 0, 9, regs(65), 0, regs(65), api.Trap{Cause: api.Align})
	ran(t, x, 1, 9, regs(0), 0, regs(0), api.Trap{Cause: api.Miss})
}

// TestRunMissIsFilled asks that a page that is bound is found though the TLB has no entry of it, and which entries there are then.
func TestRunMissIsFilled(t *testing.T) {
	x := newRun(t, "load r2 r1 0\nstore r2 r1 4\nloadb r3 r4 0\nstore r2 r4 0")
	expect(t, x, 1, done, api.CPut, 1, 0, 0x12345678)
	expect(t, x, 1, done, api.CPut, 2, 0, 0xAB)
	code, data, more := tlb.Entry{Space: 2, Page: 0, Frame: 3}, tlb.Entry{Space: 2, Page: 1, Frame: 4, Write: true}, tlb.Entry{Space: 2, Page: 2, Frame: 5}
	entries(t, x)
	ran(t, x, 0, 1, regs(0, 0, 64), 1, regs(4, 0, 64, 0x12345678), tick)
	entries(t, x, code, data)
	ran(t, x, 0, 1, regs(4, 0, 64, 5), 1, regs(8, 0, 64, 5), tick)
	entries(t, x, code, data)
	ran(t, x, 0, 9, regs(8, 0, 0, 0, 0, 128), 1, regs(12, 0, 0, 0, 0xAB, 128), api.Trap{Cause: api.Guard, Page: 2, Write: true})
	entries(t, x, code, data, more)
	expect(t, x, 1, done, api.CBind, 0, 2, 2, 1) // it may be written now: no entry says otherwise
	entries(t, x, code, data)
	ran(t, x, 0, 1, regs(12, 0, 0, 9, 0, 128), 1, regs(16, 0, 0, 9, 0, 128), tick)
	more.Write = true
	entries(t, x, code, data, more)
	holds(t, x, 5, api.Words{9})
	expect(t, x, 1, done, api.CGuard, 0, 2)
	ran(t, x, 0, 1, regs(12, 0, 0, 8, 0, 128), 0, regs(12, 0, 0, 8, 0, 128), api.Trap{Cause: api.Guard, Page: 2, Write: true})
	more.Write = false
	entries(t, x, code, data, more)
	holds(t, x, 5, api.Words{9})
	holds(t, x, 4, api.Words{0x12345678, 5})
	// A page that is not bound is no entry's.
	ran(t, x, 0, 1, regs(0, 0, 192), 0, regs(0, 0, 192), api.Trap{Cause: api.Miss, Page: 3})
	entries(t, x, code, data, more)
	// What is bound then is found.
	expect(t, x, 1, done, api.CBind, 0, 3, 1, 0)
	ran(t, x, 0, 1, regs(0, 0, 192), 1, regs(4, 0, 192, 0x12345678), tick)
}

// TestRunOfManyPages reads from more pages than there may be entries: each miss is filled, also of the page of the instruction itself, and the eldest entries go.
func TestRunOfManyPages(t *testing.T) {
	x := New(20, disk.New(1))
	enter(t, x, 0, [4]int{1, 0, 1, 0})
	enter(t, x, 1, [4]int{14, 0, 1, 0})
	lay(t, x, 1, 0, "l: load r2 r1 0\nadd r3 r2\nstore r3 r1 4\naddi r1 64\naddi r4 -1\njnz r4 l\nsys 1")
	for n := range 14 {
		expect(t, x, 1, done, api.CBind, 0, n, n, 1)
		expect(t, x, 1, done, api.CPut, n, 0, n+0x01100000*one(n == 0).N)
	}
	lay(t, x, 1, 0, "l: load r2 r1 0\nadd r3 r2\nstore r3 r1 4\naddi r1 64\naddi r4 -1\njnz r4 l\nsys 1")
	then := regs(28, 0, 14*64, 13, 91)
	ran(t, x, 0, 4096, regs(0, 0, 64, 0, 0, 13), 13*6+1, then, api.Trap{Cause: api.Sys, Call: 1})
	sum := 0
	for n := 1; n < 14; n++ {
		sum += n
		expect(t, x, 1, number(sum), api.CGet, n, 1)
	}
	entry := func(n int) tlb.Entry { return tlb.Entry{Space: 1, Page: n, Frame: n + 1, Write: true} }
	// The 8 eldest ones are page 0 and 1 to 7; page 8 takes the place of page 0, which is laid anew at once, and so on, round and round.
	entries(t, x, entry(7), entry(8), entry(0), entry(9), entry(10), entry(11), entry(12), entry(13))
}

// TestRunStores asks that what is written by a run is there, for whoever has the frame by whatever name, and page, and for the run itself.
func TestRunStores(t *testing.T) {
	x := newRun(t, "storeb r2 r1 6\nstore r2 r1 0\nset r3 0\nset r4 0\nsys 4")
	expect(t, x, 1, done, api.CBind, 0, 31, 1, 0)
	expect(t, x, 1, done, api.CBind, 1, 7, 1, 1)
	ran(t, x, 0, 2, regs(0, 0, 64, 0xDEADBEEF), 2, regs(8, 0, 64, 0xDEADBEEF), tick)
	holds(t, x, 4, api.Words{0xDEADBEEF, 0xEF0000})
	expect(t, x, 1, number(0xDEADBEEF), api.CPeek, 0, 31*64)
	expect(t, x, 1, number(0xEF0000), api.CPeek, 1, 7*64+4)
	expect(t, x, 1, number(0xDEADBEEF), api.CGet, 1, 0)
	// A program that writes itself: the word at 8 becomes r2.
	expect(t, x, 1, done, api.CBind, 0, 0, 0, 1)
	ran(t, x, 0, 5, regs(4, 0, 8, 0x01300009), 4, regs(20, 0, 8, 0x01300009, 9), api.Trap{Cause: api.Sys, Call: 4})
	// What Poke and Put write is run.
	expect(t, x, 1, done, api.CPoke, 0, 8, 0x0130000A)
	expect(t, x, 1, done, api.CPut, 0, 3, 0x0140000B)
	ran(t, x, 0, 2, regs(8), 2, regs(16, 0, 0, 0, 10, 11), tick)
}

// TestRunInTwoSpaces asks that the same page of two spaces is not the same.
func TestRunInTwoSpaces(t *testing.T) {
	x := newRig(t)
	lay(t, x, 1, 0, "set r1 1\nsys 1")
	lay(t, x, 1, 1, "set r1 2\nsys 2")
	lay(t, x, 0, 0, "set r1 3\nsys 3")
	expect(t, x, 1, done, api.CBind, 0, 0, 0, 0)
	expect(t, x, 1, done, api.CBind, 1, 0, 1, 0)
	expect(t, x, 0, done, api.CBind, 0, 0, 0, 0)
	for range 3 {
		ran(t, x, 0, 9, regs(0), 2, regs(8, 0, 1), api.Trap{Cause: api.Sys, Call: 1})
		ran(t, x, 1, 9, regs(0), 2, regs(8, 0, 2), api.Trap{Cause: api.Sys, Call: 2})
		if r := x.Call(0, callOf(api.CRun, 0, 9)); r.Program != regs(8, 0, 3) {
			t.Error(r)
		}
	}
	entries(t, x, tlb.Entry{Space: 2, Frame: 3}, tlb.Entry{Space: 3, Frame: 4}, tlb.Entry{})
}

func TestSpent(t *testing.T) {
	x := newRun(t, "addi r1 1\nsys 1\nword 0")
	lay(t, x, 0, 0, "l: jmp l")
	expect(t, x, 0, done, api.CBind, 1, 0, 0, 0)
	check := func(want ...int) {
		t.Helper()
		var got []int
		for e := range want {
			got = append(got, x.Spent(e))
		}
		if !slices.Equal(got, want) {
			t.Errorf("%v was spent, not %v", got, want)
		}
		for _, e := range slices.Concat(row(len(want), 18), noNumbers) {
			if x.Spent(e) != 0 {
				t.Errorf("Spent(%d): %d", e, x.Spent(e))
			}
		}
	}
	check(0, 0)
	x.Call(1, callOf(api.CRun, 0, 1))
	check(0, 1)
	x.Call(1, callOf(api.CRun, 0, 50)) // Sys
	check(0, 3)
	x.Call(1, api.Call{Op: api.CRun, Arg: [4]int{0, 50}, Program: regs(8)}) // Illegal
	x.Call(1, api.Call{Op: api.CRun, Arg: [4]int{0, 50}, Program: regs(192)})
	x.Call(1, callOf(api.CRun, 0, 0))
	x.Call(1, callOf(api.CRun, 2, 50))
	x.Call(1, callOf(api.CRun, 0, 4097))
	check(0, 3)
	for range 3 {
		x.Call(0, callOf(api.CRun, 1, 4096))
	}
	check(3*4096, 3)
	x.Call(1, callOf(api.CGive, 2, 0))
	x.Call(0, callOf(api.CGive, 2, 1))
	x.Turn()
	check(3*4096, 3)
	if err := x.Leave(0); err != api.OK {
		t.Fatal(err)
	}
	check(0, 3)
	enter(t, x, 0, [4]int{1, 0, 1, 0})
	check(0, 3)
	lay(t, x, 0, 0, "l: jmp l")
	expect(t, x, 0, done, api.CBind, 0, 0, 0, 0)
	x.Call(0, callOf(api.CRun, 0, 7))
	check(7, 3)
	if err := x.Leave(1); err != api.OK {
		t.Fatal(err)
	}
	check(7, 0)
}

// TestSpentOfAll lets all environments run.
func TestSpentOfAll(t *testing.T) {
	x := New(16, disk.New(1))
	for e := range 16 {
		enter(t, x, e, [4]int{1, 0, 1, 0})
		lay(t, x, e, 0, "l: jmp l")
		expect(t, x, e, done, api.CBind, 0, 0, 0, 0)
	}
	for e := range 16 {
		if r := x.Call(e, callOf(api.CRun, 0, 10+e)); r != (api.Reply{N: 10 + e, Trap: tick}) {
			t.Error(r)
		}
	}
	for e := range 16 {
		if n := x.Spent(e); n != 10+e {
			t.Errorf("Spent(%d): %d", e, n)
		}
	}
}

// The example of chapter 18.
func TestExample(t *testing.T) {
	x := New(4, disk.New(1))
	enter(t, x, 0, [4]int{2, 0, 1, 0})
	expect(t, x, 0, done, api.CBind, 0, 0, 1, 1)
	expect(t, x, 0, done, api.CPut, 1, 0, 0x01100005) // set r1 5
	expect(t, x, 0, api.Reply{N: 1, Program: regs(4, 0, 5), Trap: tick}, api.CRun, 0, 1)
	expect(t, x, 0, failed(api.EPERM), api.CGet, 2, 0) // example 5 of the whole
}
