package cpu

import (
	"math"
	"slices"
	"testing"

	"onionskin/api"
	"onionskin/asm"
	"onionskin/frames"
	"onionskin/isa"
	"onionskin/tlb"
)

// rig is a machine, with what its CPU was made of.
type rig struct {
	mem *frames.Mem
	tlb *tlb.TLB
	cpu *CPU
}

// Where the pages of space 3 lie in newRig's machine.
const (
	code   = 0x80C      // word 3 of a page in frame 1, which may not be written
	open   = 0x400      // the first of a page in frame 2, which may be written
	shut   = 0x440      // the first of a page in frame 3, which may not
	top    = 0xFFFFFFC0 // the first of the last page, in frame 4, which may be written
	absent = 0x480      // the first of a page that has an entry in space 4 alone
)

// newRig tells a machine of 7 frames, all of whose words are unlike each other; page 0 lies in frame 5, to be written.
func newRig() *rig {
	g := &rig{mem: frames.New(7), tlb: &tlb.TLB{}}
	for frame := range 7 {
		for at := range 16 {
			g.mem.Put(frame, at, first(frame, at))
		}
	}
	for frame, address := range []uint32{1: code, open, shut, top, 0} {
		if frame > 0 {
			g.tlb.Put(tlb.Entry{Space: 3, Page: int(address / 64), Frame: frame, Write: address != code && address != shut})
		}
	}
	for _, address := range []int{absent, open} {
		g.tlb.Put(tlb.Entry{Space: 4, Page: address / 64, Frame: 6, Write: true})
	}
	g.cpu = New(g.mem, g.tlb)
	return g
}

// first tells what a word of newRig's machine holds at first.
func first(frame, at int) uint32 { return uint32(frame*16+at+1) * 0x91000193 }

// program tells a program at code, with registers that are unlike each other but for what is changed.
func (g *rig) program(change func(r *[16]uint32)) api.Context {
	c := api.Context{PC: code}
	for i := range c.Reg {
		c.Reg[i] = 0xA0B0C0D0 + uint32(i)
	}
	change(&c.Reg)
	return c
}

// at tells the word of an address, 0 if there is none, without a miss.
func (g *rig) at(space int, address uint32) uint32 {
	for _, e := range g.tlb.All() {
		if e.Space == space && e.Page == int(address/64) {
			w, _ := g.mem.Get(e.Frame, int(address%64/4))
			return w
		}
	}
	return 0
}

// lay lays a line's word at code.
func (g *rig) lay(t *testing.T, line string) {
	t.Helper()
	g.layAt(t, line, 1, 3)
}

// layAt lays a line's word into a frame.
func (g *rig) layAt(t *testing.T, line string, frame, at int) {
	t.Helper()
	l, _, err := asm.Read(line)
	if err != api.OK || len(l) != 1 {
		t.Fatalf("%q is no word's", line)
	}
	g.mem.Put(frame, at, l[0])
}

// sameEntries asks whether a TLB has these entries still.
func sameEntries(t *testing.T, y *tlb.TLB, want []tlb.Entry) {
	t.Helper()
	if l := y.All(); !slices.Equal(l, want) {
		t.Fatalf("the entries are %v, want %v", l, want)
	}
}

// change is a word that a step shall change.
type change struct {
	frame, at int
	w         uint32
}

// steps does a step, and asks for the program and the trap then, and for what changed in the memory: nothing else did.
func (g *rig) steps(t *testing.T, line string, space int, c, then api.Context, trap api.Trap, changes ...change) {
	t.Helper()
	want, entries, misses := g.mem.Twin(), g.tlb.All(), g.tlb.Misses()
	for _, x := range changes {
		want.Put(x.frame, x.at, x.w)
	}
	got, why := g.cpu.Step(space, c)
	if got != then {
		t.Errorf("%q: the program is %x, want %x", line, got, then)
	}
	if why != trap {
		t.Errorf("%q: the trap is %v, want %v", line, why, trap)
	}
	if !frames.Others(g.mem, want) {
		t.Errorf("%q: the memory is not as it shall be", line)
	}
	sameEntries(t, g.tlb, entries)
	if trap.Cause == api.Miss {
		misses++
	}
	if g.tlb.Misses() != misses {
		t.Errorf("%q: %d misses, want %d", line, g.tlb.Misses(), misses)
	}
}

// Promise 6.1.

func TestExample(t *testing.T) {
	m, y := frames.New(1), &tlb.TLB{}
	m.Put(0, 0, 0x01100005)
	y.Put(tlb.Entry{Page: 0, Frame: 0})
	c, trap := New(m, y).Step(0, api.Context{})
	if want := (api.Context{Reg: [16]uint32{1: 5}, PC: 4}); c != want || trap != (api.Trap{}) {
		t.Errorf("set r1 5: %v %v, want %v and no trap", c, trap, want)
	}
}

func TestReckoned(t *testing.T) {
	for _, x := range []struct {
		line       string
		a, b, want uint32
	}{
		{"set r1 5", 9, 0, 5}, {"set r1 0", 9, 0, 0}, {"set r1 -1", 9, 0, 0xFFFFFFFF},
		{"set r1 32767", 9, 0, 0x7FFF}, {"set r1 -32768", 9, 0, 0xFFFF8000},
		{"high r1 1", 5, 0, 0x10005}, {"high r1 0", 0xFFFFFFFF, 0, 0xFFFF}, {"high r1 -1", 0x12345678, 0, 0xFFFF5678},
		{"high r1 -32768", 0x1FFFF, 0, 0x8000FFFF}, {"high r1 32767", 0xFFFF0000, 0, 0x7FFF0000},
		{"mov r1 r2", 1, 7, 7}, {"mov r1 r2", 1, 0xFFFFFFFF, 0xFFFFFFFF}, {"mov r1 r2", 1, 0, 0},
		{"add r1 r2", 3, 4, 7}, {"add r1 r2", 0xFFFFFFFF, 1, 0}, {"add r1 r2", 0x80000000, 0x80000001, 1},
		{"add r1 r2", 0x7FFFFFFF, 1, 0x80000000},
		{"sub r1 r2", 7, 4, 3}, {"sub r1 r2", 4, 7, 0xFFFFFFFD}, {"sub r1 r2", 0, 1, 0xFFFFFFFF},
		{"sub r1 r2", 0x80000000, 0xFFFFFFFF, 0x80000001}, {"sub r1 r2", 5, 5, 0},
		{"mul r1 r2", 6, 7, 42}, {"mul r1 r2", 0x10000, 0x10000, 0}, {"mul r1 r2", 0xFFFFFFFF, 0xFFFFFFFF, 1},
		{"mul r1 r2", 0x12345678, 0x9ABCDEF0, 0x242D2080}, {"mul r1 r2", 5, 0, 0},
		{"div r1 r2", 7, 2, 3}, {"div r1 r2", 0xFFFFFFFF, 2, 0x7FFFFFFF}, {"div r1 r2", 0x80000000, 0xFFFFFFFF, 0},
		{"div r1 r2", 0xFFFFFFFE, 1, 0xFFFFFFFE}, {"div r1 r2", 0, 5, 0}, {"div r1 r2", 0xFFFFFFFF, 0xFFFFFFFF, 1},
		{"and r1 r2", 0xF0F0, 0xFF00, 0xF000}, {"and r1 r2", 0xFFFFFFFF, 0x80000001, 0x80000001},
		{"or r1 r2", 0xF0F0, 0xFF00, 0xFFF0}, {"or r1 r2", 0x80000000, 1, 0x80000001},
		{"xor r1 r2", 0xF0F0, 0xFF00, 0x0FF0}, {"xor r1 r2", 0xFFFFFFFF, 0x80000001, 0x7FFFFFFE},
		{"shl r1 r2", 3, 0, 3}, {"shl r1 r2", 3, 1, 6}, {"shl r1 r2", 3, 31, 0x80000000}, {"shl r1 r2", 3, 32, 3},
		{"shl r1 r2", 3, 33, 6}, {"shl r1 r2", 3, 0xFFFFFFFF, 0x80000000}, {"shl r1 r2", 0xFFFFFFFF, 4, 0xFFFFFFF0},
		{"shr r1 r2", 0xC0000000, 0, 0xC0000000}, {"shr r1 r2", 0xC0000000, 1, 0x60000000},
		{"shr r1 r2", 0xC0000000, 31, 1}, {"shr r1 r2", 0xC0000000, 32, 0xC0000000},
		{"shr r1 r2", 0xC0000000, 33, 0x60000000}, {"shr r1 r2", 0xC0000000, 0xFFFFFFFF, 1},
		{"shr r1 r2", 0xFFFFFFFF, 0x80000004, 0x0FFFFFFF},
		{"addi r1 5", 3, 0, 8}, {"addi r1 -1", 3, 0, 2}, {"addi r1 -1", 0, 0, 0xFFFFFFFF},
		{"addi r1 1", 0xFFFFFFFF, 0, 0}, {"addi r1 -32768", 0x7FFF, 0, 0xFFFFFFFF}, {"addi r1 32767", 0xFFFF8001, 0, 0},
		{"addi r1 0", 3, 0, 3},
	} {
		g := newRig()
		g.lay(t, x.line)
		c := g.program(func(r *[16]uint32) { r[1], r[2] = x.a, x.b })
		then := c
		then.Reg[1], then.PC = x.want, code+4
		g.steps(t, x.line, 3, c, then, api.Trap{})
	}
}

func TestReckonedOfOneRegister(t *testing.T) {
	for _, x := range []struct {
		line    string
		a, want uint32
	}{
		{"mov r4 r4", 5, 5}, {"add r4 r4", 0x80000001, 2}, {"sub r4 r4", 5, 0}, {"mul r4 r4", 0xFFFFFFFF, 1},
		{"div r4 r4", 0xFFFFFFFF, 1}, {"and r4 r4", 6, 6}, {"or r4 r4", 6, 6}, {"xor r4 r4", 6, 0},
		{"shl r4 r4", 3, 24}, {"shr r4 r4", 0x80000004, 0x08000000},
	} {
		g := newRig()
		g.lay(t, x.line)
		c := g.program(func(r *[16]uint32) { r[4] = x.a })
		then := c
		then.Reg[4], then.PC = x.want, code+4
		g.steps(t, x.line, 3, c, then, api.Trap{})
	}
}

func TestDivideByNought(t *testing.T) {
	for _, a := range edges {
		g := newRig()
		g.lay(t, "div r1 r2")
		c := g.program(func(r *[16]uint32) { r[1], r[2] = a, 0 })
		g.steps(t, "div r1 r2", 3, c, c, api.Trap{Cause: api.Divide})
		g.lay(t, "div r5 r5")
		c = g.program(func(r *[16]uint32) { r[5] = 0 })
		g.steps(t, "div r5 r5", 3, c, c, api.Trap{Cause: api.Divide})
	}
}

func TestLoad(t *testing.T) {
	for _, x := range []struct {
		line string
		b    uint32
		want uint32
	}{
		{"load r1 r2 0", open, first(2, 0)}, {"load r1 r2 4", open, first(2, 1)}, {"load r1 r2 -4", open + 8, first(2, 1)},
		{"load r1 r2 60", open, first(2, 15)}, {"load r1 r2 -4", shut, first(2, 15)}, {"load r1 r2 3", open + 1, first(2, 1)},
		{"load r1 r2 0", shut, first(3, 0)}, {"load r1 r2 60", shut, first(3, 15)},
		{"load r1 r2 0", code - 12, first(1, 0)},
		{"load r1 r2 0", top, first(4, 0)}, {"load r1 r2 0", 0xFFFFFFFC, first(4, 15)}, {"load r1 r2 4", 0xFFFFFFFC, first(5, 0)},
		{"load r1 r2 32767", 0xFFFF8001, first(5, 0)}, {"load r1 r2 -4", 0, first(4, 15)}, {"load r1 r2 -64", 0, first(4, 0)},
		{"load r1 r2 -1", 0xFFFFFFC1, first(4, 0)}, {"load r1 r2 -32768", 0x8000 + open, first(2, 0)},
		{"loadb r1 r2 0", open, first(2, 0) & 255}, {"loadb r1 r2 1", open, first(2, 0) >> 8 & 255},
		{"loadb r1 r2 2", open, first(2, 0) >> 16 & 255}, {"loadb r1 r2 3", open, first(2, 0) >> 24},
		{"loadb r1 r2 4", open, first(2, 1) & 255}, {"loadb r1 r2 63", open, first(2, 15) >> 24},
		{"loadb r1 r2 -1", shut, first(2, 15) >> 24}, {"loadb r1 r2 62", shut, first(3, 15) >> 16 & 255},
		{"loadb r1 r2 0", 0xFFFFFFFF, first(4, 15) >> 24}, {"loadb r1 r2 1", 0xFFFFFFFF, first(5, 0) & 255},
		{"loadb r1 r2 5", 0xFFFFFFFE, first(5, 0) >> 24}, {"loadb r1 r2 -3", 0, first(4, 15) >> 8 & 255},
	} {
		g := newRig()
		g.lay(t, x.line)
		c := g.program(func(r *[16]uint32) { r[2] = x.b })
		then := c
		then.Reg[1], then.PC = x.want, code+4
		g.steps(t, x.line, 3, c, then, api.Trap{})
	}
}

func TestLoadIntoItsOwnAddress(t *testing.T) {
	for _, x := range []struct {
		line string
		want uint32
	}{{"load r2 r2 4", first(2, 1)}, {"loadb r2 r2 7", first(2, 1) >> 24}} {
		g := newRig()
		g.lay(t, x.line)
		c := g.program(func(r *[16]uint32) { r[2] = open })
		then := c
		then.Reg[2], then.PC = x.want, code+4
		g.steps(t, x.line, 3, c, then, api.Trap{})
	}
}

func TestStore(t *testing.T) {
	for _, x := range []struct {
		line      string
		b         uint32
		frame, at int
	}{
		{"store r1 r2 0", open, 2, 0}, {"store r1 r2 4", open, 2, 1}, {"store r1 r2 60", open, 2, 15},
		{"store r1 r2 -4", shut, 2, 15}, {"store r1 r2 -1", open + 5, 2, 1}, {"store r1 r2 0", 0xFFFFFFFC, 4, 15},
		{"store r1 r2 4", 0xFFFFFFFC, 5, 0}, {"store r1 r2 -4", 0, 4, 15}, {"store r1 r2 32767", 0xFFFF8005, 5, 1},
		{"store r1 r2 -32768", 0x8000 + open, 2, 0},
	} {
		for _, a := range []uint32{0, 1, 0x12345678, 0x80000000, 0xFFFFFFFF} {
			g := newRig()
			g.lay(t, x.line)
			c := g.program(func(r *[16]uint32) { r[1], r[2] = a, x.b })
			then := c
			then.PC = code + 4
			g.steps(t, x.line, 3, c, then, api.Trap{}, change{x.frame, x.at, a})
		}
	}
}

func TestStoreByte(t *testing.T) {
	was, last := first(2, 0), first(2, 15)
	for _, x := range []struct {
		line    string
		b       uint32
		changes change
	}{
		{"storeb r1 r2 0", open, change{2, 0, was&^0xFF | 0xEF}},
		{"storeb r1 r2 1", open, change{2, 0, was&^0xFF00 | 0xEF00}},
		{"storeb r1 r2 2", open, change{2, 0, was&^0xFF0000 | 0xEF0000}},
		{"storeb r1 r2 3", open, change{2, 0, was&^0xFF000000 | 0xEF000000}},
		{"storeb r1 r2 63", open, change{2, 15, last&^0xFF000000 | 0xEF000000}},
		{"storeb r1 r2 -1", shut, change{2, 15, last&^0xFF000000 | 0xEF000000}},
		{"storeb r1 r2 -4", shut, change{2, 15, last&^0xFF | 0xEF}},
		{"storeb r1 r2 0", 0xFFFFFFFF, change{4, 15, first(4, 15)&^0xFF000000 | 0xEF000000}},
		{"storeb r1 r2 2", 0xFFFFFFFF, change{5, 0, first(5, 0)&^0xFF00 | 0xEF00}},
		{"storeb r1 r2 -2", 0, change{4, 15, first(4, 15)&^0xFF0000 | 0xEF0000}},
	} {
		g := newRig()
		g.lay(t, x.line)
		c := g.program(func(r *[16]uint32) { r[1], r[2] = 0xDEADBEEF, x.b })
		then := c
		then.PC = code + 4
		g.steps(t, x.line, 3, c, then, api.Trap{}, x.changes)
	}
}

func TestStoreOfItsOwnAddress(t *testing.T) {
	g := newRig()
	g.lay(t, "store r2 r2 4")
	c := g.program(func(r *[16]uint32) { r[2] = open })
	then := c
	then.PC = code + 4
	g.steps(t, "store r2 r2 4", 3, c, then, api.Trap{}, change{2, 1, open})
}

// TestNotReached: what is told where an address can't be loaded from, or stored to; which of several comes first.
func TestNotReached(t *testing.T) {
	align := api.Trap{Cause: api.Align}
	for _, x := range []struct {
		line string
		b    uint32
		trap api.Trap
	}{
		{"load r1 r2 0", open + 1, align}, {"load r1 r2 1", open, align}, {"load r1 r2 -2", open, align},
		{"load r1 r2 0", open + 3, align}, {"load r1 r2 0", 0xFFFFFFFF, align}, {"load r1 r2 1", 0xFFFFFFFE, align},
		{"load r1 r2 62", open, align}, {"load r1 r2 0", shut + 1, align}, {"load r1 r2 0", absent + 1, align},
		{"load r1 r2 2", 0xFFFFFFFF, align},
		{"store r1 r2 0", open + 1, align}, {"store r1 r2 2", open, align}, {"store r1 r2 -1", open, align},
		{"store r1 r2 0", shut + 1, align}, {"store r1 r2 63", shut, align}, {"store r1 r2 0", absent + 2, align},
		{"store r1 r2 0", 0xFFFFFFFD, align},
		{"load r1 r2 0", absent, api.Trap{Cause: api.Miss, Page: absent / 64}},
		{"load r1 r2 60", absent, api.Trap{Cause: api.Miss, Page: absent / 64}},
		{"load r1 r2 -4", open, api.Trap{Cause: api.Miss, Page: open/64 - 1}},
		{"load r1 r2 4", shut + 60, api.Trap{Cause: api.Miss, Page: shut/64 + 1}},
		{"load r1 r2 -4", top, api.Trap{Cause: api.Miss, Page: 1<<26 - 2}},
		{"load r1 r2 0", 0x80000000, api.Trap{Cause: api.Miss, Page: 1 << 25}},
		{"load r1 r2 64", 0, api.Trap{Cause: api.Miss, Page: 1}},
		{"load r1 r2 68", 0xFFFFFFFC, api.Trap{Cause: api.Miss, Page: 1}},
		{"loadb r1 r2 0", absent + 1, api.Trap{Cause: api.Miss, Page: absent / 64}},
		{"loadb r1 r2 -1", open, api.Trap{Cause: api.Miss, Page: open/64 - 1}},
		{"loadb r1 r2 -1", top, api.Trap{Cause: api.Miss, Page: 1<<26 - 2}},
		{"store r1 r2 0", absent, api.Trap{Cause: api.Miss, Page: absent / 64, Write: true}},
		{"store r1 r2 64", 0, api.Trap{Cause: api.Miss, Page: 1, Write: true}},
		{"storeb r1 r2 0", absent + 3, api.Trap{Cause: api.Miss, Page: absent / 64, Write: true}},
		{"storeb r1 r2 -1", top, api.Trap{Cause: api.Miss, Page: 1<<26 - 2, Write: true}},
		{"store r1 r2 0", shut, api.Trap{Cause: api.Guard, Page: shut / 64, Write: true}},
		{"store r1 r2 60", shut, api.Trap{Cause: api.Guard, Page: shut / 64, Write: true}},
		{"store r1 r2 0", code, api.Trap{Cause: api.Guard, Page: code / 64, Write: true}},
		{"storeb r1 r2 0", shut + 1, api.Trap{Cause: api.Guard, Page: shut / 64, Write: true}},
		{"storeb r1 r2 63", shut, api.Trap{Cause: api.Guard, Page: shut / 64, Write: true}},
	} {
		g := newRig()
		g.lay(t, x.line)
		c := g.program(func(r *[16]uint32) { r[2] = x.b })
		g.steps(t, x.line, 3, c, c, x.trap)
	}
}

// TestPC: what is told of where the program is; which of several comes first.
func TestPC(t *testing.T) {
	for _, x := range []struct {
		pc   uint32
		trap api.Trap
	}{
		{code + 1, api.Trap{Cause: api.Align}}, {code + 2, api.Trap{Cause: api.Align}}, {code - 1, api.Trap{Cause: api.Align}},
		{absent + 1, api.Trap{Cause: api.Align}}, {0xFFFFFFFF, api.Trap{Cause: api.Align}}, {1, api.Trap{Cause: api.Align}},
		{0x80000002, api.Trap{Cause: api.Align}}, {open + 1, api.Trap{Cause: api.Align}},
		{absent, api.Trap{Cause: api.Miss, Page: absent / 64}}, {absent + 60, api.Trap{Cause: api.Miss, Page: absent / 64}},
		{64, api.Trap{Cause: api.Miss, Page: 1}}, {top - 4, api.Trap{Cause: api.Miss, Page: 1<<26 - 2}},
		{0x80000000, api.Trap{Cause: api.Miss, Page: 1 << 25}},
		{code + 4, api.Trap{Cause: api.Illegal}}, {open, api.Trap{Cause: api.Illegal}}, {top + 60, api.Trap{Cause: api.Illegal}},
		{0, api.Trap{Cause: api.Illegal}}, {shut, api.Trap{Cause: api.Illegal}},
	} {
		g := newRig()
		g.lay(t, "set r1 5")
		c := g.program(func(*[16]uint32) {})
		c.PC = x.pc
		g.steps(t, "a PC", 3, c, c, x.trap)
	}
}

func TestWordsOfNoInstruction(t *testing.T) {
	for _, w := range []uint32{
		0, 1, 0x00100005, 0x19000000, 0x1A000001, 0xFF000000, 0xFFFFFFFF, 0x80000000, // Ops that there are not
		0x01110005, 0x03120001, 0x07128000, 0x12100001, 0x12010001, 0x13110001, 0x16100000, 0x17110000, 0x17100001, 0x18010000,
	} {
		g := newRig()
		g.mem.Put(1, 3, w)
		c := g.program(func(r *[16]uint32) { r[2] = open })
		g.steps(t, "a word of no instruction", 3, c, c, api.Trap{Cause: api.Illegal})
	}
}

func TestEachPlaceOfAPage(t *testing.T) {
	for _, x := range []struct {
		page  uint32
		frame int
	}{{0, 5}, {open, 2}, {shut, 3}, {top, 4}} {
		for at := range uint32(16) {
			g := newRig()
			g.mem.Put(x.frame, int(at), 0x01100005)
			c := g.program(func(*[16]uint32) {})
			c.PC = x.page + 4*at
			then := c
			then.Reg[1], then.PC = 5, c.PC+4 // modulo 2^32: behind the last word of all comes 0
			g.steps(t, "set r1 5", 3, c, then, api.Trap{})
		}
	}
}

// TestJumps: where the program is then, from several places on.
func TestJumps(t *testing.T) {
	const high = 0x80000000
	for _, x := range []struct {
		line string
		a, b uint32
		far  int64 // how many bytes further
	}{
		{"jmp 0", 0, 0, 0}, {"jmp 1", 0, 0, 4}, {"jmp 2", 0, 0, 8}, {"jmp -1", 0, 0, -4}, {"jmp 32767", 0, 0, 131068}, {"jmp -32768", 0, 0, -131072},
		{"jz r1 5", 0, 0, 20}, {"jz r1 5", 1, 0, 4}, {"jz r1 5", high, 0, 4}, {"jz r1 -5", 0, 1, -20}, {"jz r1 0", 0, 0, 0}, {"jz r1 -5", 256, 0, 4},
		{"jnz r1 5", 0, 0, 4}, {"jnz r1 5", 1, 0, 20}, {"jnz r1 5", high, 0, 20}, {"jnz r1 -5", 0x10000, 0, -20}, {"jnz r1 -5", 0, 1, 4},
		{"jlt r1 r2 5", 1, 2, 20}, {"jlt r1 r2 5", 2, 1, 4}, {"jlt r1 r2 5", 2, 2, 4}, {"jlt r1 r2 -5", 0xFFFFFFFF, 0, -20},
		{"jlt r1 r2 5", 0, 0xFFFFFFFF, 4}, {"jlt r1 r2 5", high, 0x7FFFFFFF, 20}, {"jlt r1 r2 5", 0x7FFFFFFF, high, 4},
		{"jlt r1 r2 5", high, high + 1, 20}, {"jlt r1 r2 5", high + 1, high, 4}, {"jlt r1 r2 5", high, high, 4},
		{"jlt r1 r2 5", 0xFFFFFFFE, 0xFFFFFFFF, 20}, {"jlt r1 r2 5", high, 0, 20}, {"jlt r1 r2 0", 1, 2, 0}, {"jlt r1 r1 5", 1, 2, 4},
	} {
		for _, place := range []struct {
			pc        uint32
			frame, at int
		}{{code, 1, 3}, {0, 5, 0}, {8, 5, 2}, {0xFFFFFFFC, 4, 15}, {top, 4, 0}} {
			g := newRig()
			g.layAt(t, x.line, place.frame, place.at)
			c := g.program(func(r *[16]uint32) { r[1], r[2] = x.a, x.b })
			c.PC = place.pc
			then := c
			then.PC = uint32((int64(c.PC) + x.far + 1<<32) % (1 << 32))
			g.steps(t, x.line, 3, c, then, api.Trap{})
		}
	}
}

func TestJumpsBeyondTheEdges(t *testing.T) {
	for _, x := range []struct {
		line      string
		pc, then  uint32
		frame, at int
	}{
		{"jmp -1", 0, 0xFFFFFFFC, 5, 0}, {"jmp -32768", 0, 0xFFFE0000, 5, 0}, {"jmp 1", 0xFFFFFFFC, 0, 4, 15},
		{"jmp 3", 0xFFFFFFFC, 8, 4, 15}, {"jmp 32767", 0xFFFFFFFC, 131064, 4, 15}, {"jmp -2", 4, 0xFFFFFFFC, 5, 1},
		{"jnz r0 -3", 4, 0xFFFFFFF8, 5, 1}, {"jnz r0 16", top, 0, 4, 0}, {"jz r0 16", 0xFFFFFFFC, 0, 4, 15},
	} {
		g := newRig()
		g.layAt(t, x.line, x.frame, x.at)
		c := g.program(func(*[16]uint32) {})
		c.PC = x.pc
		then := c
		then.PC = x.then
		g.steps(t, x.line, 3, c, then, api.Trap{})
	}
}

func TestCallAndReturn(t *testing.T) {
	for _, x := range []struct {
		line           string
		pc, then, link uint32
		frame, at      int
	}{
		{"call 2", code, code + 8, code + 4, 1, 3}, {"call -3", code, code - 12, code + 4, 1, 3},
		{"call 0", code, code, code + 4, 1, 3}, {"call 1", 0xFFFFFFFC, 0, 0, 4, 15}, {"call -1", 0, 0xFFFFFFFC, 4, 5, 0},
		{"call 32767", code, code + 131068, code + 4, 1, 3}, {"call -32768", code, 0xFFFE0000 + code, code + 4, 1, 3},
	} {
		g := newRig()
		g.layAt(t, x.line, x.frame, x.at)
		c := g.program(func(*[16]uint32) {})
		c.PC = x.pc
		then := c
		then.PC, then.Reg[15] = x.then, x.link
		g.steps(t, x.line, 3, c, then, api.Trap{})
		g.lay(t, "ret r15")
		then.PC = code
		back := then
		back.PC = x.link
		g.steps(t, "ret r15", 3, then, back, api.Trap{})
	}
}

func TestReturnAnywhere(t *testing.T) {
	for _, to := range append([]uint32{open, absent, code, code + 1, top + 2}, edges...) {
		g := newRig()
		g.lay(t, "ret r6")
		c := g.program(func(r *[16]uint32) { r[6] = to })
		then := c
		then.PC = to
		g.steps(t, "ret r6", 3, c, then, api.Trap{})
	}
}

func TestSys(t *testing.T) {
	for _, x := range []struct {
		line string
		call int
	}{{"sys 0", 0}, {"sys 9", 9}, {"sys 32767", 32767}, {"sys -1", 65535}, {"sys -32768", 32768}, {"sys -2", 65534}} {
		g := newRig()
		g.lay(t, x.line)
		c := g.program(func(*[16]uint32) {})
		then := c
		then.PC = code + 4
		g.steps(t, x.line, 3, c, then, api.Trap{Cause: api.Sys, Call: x.call})
		g.layAt(t, x.line, 4, 15)
		c.PC, then.PC = 0xFFFFFFFC, 0
		g.steps(t, x.line, 3, c, then, api.Trap{Cause: api.Sys, Call: x.call})
	}
}

// TestSpaces: each space has pages of its own, whatever its number.
func TestSpaces(t *testing.T) {
	spaces := []int{0, 1, -1, 63, 1 << 32, math.MaxInt, math.MinInt}
	m, y := frames.New(len(spaces)), &tlb.TLB{}
	x := New(m, y)
	for i, space := range spaces {
		m.Put(i, 0, 0x01100000+uint32(i)) // set r1 i
		y.Put(tlb.Entry{Space: space, Page: 0, Frame: i})
	}
	for i, space := range spaces {
		c, trap := x.Step(space, api.Context{})
		if want := (api.Context{Reg: [16]uint32{1: uint32(i)}, PC: 4}); c != want || trap != (api.Trap{}) {
			t.Errorf("space %d: %v %v, want %v", space, c, trap, want)
		}
	}
	for _, space := range []int{2, -2, 1<<32 + 1, math.MaxInt - 1} {
		if c, trap := x.Step(space, api.Context{}); c != (api.Context{}) || trap != (api.Trap{Cause: api.Miss}) {
			t.Errorf("space %d, which has no entries: %v %v", space, c, trap)
		}
	}
}

// TestOtherSpacesEntries: what another space may write, and find, says nothing about this one.
func TestOtherSpacesEntries(t *testing.T) {
	g := newRig()
	g.lay(t, "store r1 r2 0")
	for _, x := range []struct {
		space int
		b     uint32
		trap  api.Trap
	}{
		{3, absent, api.Trap{Cause: api.Miss, Page: absent / 64, Write: true}},
		{4, absent, api.Trap{Cause: api.Miss, Page: code / 64}},
		{5, open, api.Trap{Cause: api.Miss, Page: code / 64}},
	} {
		c := g.program(func(r *[16]uint32) { r[2] = x.b })
		g.steps(t, "store r1 r2 0", x.space, c, c, x.trap)
	}
	g.tlb.Put(tlb.Entry{Space: 4, Page: shut / 64, Frame: 3, Write: true})
	c := g.program(func(r *[16]uint32) { r[2] = shut })
	g.steps(t, "store r1 r2 0", 3, c, c, api.Trap{Cause: api.Guard, Page: shut / 64, Write: true})
}

// noFrames are numbers of no frame of a memory of 7.
var noFrames = []int{7, 8, 255, 256, -1, -7, 1 << 32, 1<<32 + 2, math.MaxInt, math.MinInt}

// TestNoSuchFrame: an entry names a frame that there is not. The address is found; there is nothing to be read, or changed.
func TestNoSuchFrame(t *testing.T) {
	for _, frame := range noFrames {
		for _, x := range []struct {
			line  string
			write bool
			loads bool
			trap  api.Trap
		}{
			{"load r1 r2 0", false, true, api.Trap{}}, {"load r1 r2 60", true, true, api.Trap{}},
			{"loadb r1 r2 63", false, true, api.Trap{}}, {"store r1 r2 0", true, false, api.Trap{}},
			{"storeb r1 r2 63", true, false, api.Trap{}}, {"load r1 r2 1", true, false, api.Trap{Cause: api.Align}},
			{"store r1 r2 0", false, false, api.Trap{Cause: api.Guard, Page: open / 64, Write: true}},
			{"storeb r1 r2 1", false, false, api.Trap{Cause: api.Guard, Page: open / 64, Write: true}},
		} {
			g := newRig()
			g.lay(t, x.line)
			g.tlb.Put(tlb.Entry{Space: 3, Page: open / 64, Frame: frame, Write: x.write})
			c := g.program(func(r *[16]uint32) { r[2] = open })
			then := c
			if x.trap == (api.Trap{}) {
				then.PC = code + 4
			}
			if x.loads {
				then.Reg[1] = 0
			}
			g.steps(t, x.line, 3, c, then, x.trap)
		}
		g := newRig()
		g.tlb.Put(tlb.Entry{Space: 3, Page: code / 64, Frame: frame, Write: true})
		c := g.program(func(*[16]uint32) {})
		g.steps(t, "a PC in no frame", 3, c, c, api.Trap{Cause: api.Illegal})
	}
}

// someContexts are programs at which nothing shall be done.
func someContexts() []api.Context {
	l := []api.Context{{}, {Reg: [16]uint32{5, 1, 15: 0xFFFFFFFF}, PC: 64}}
	for _, pc := range edges {
		l = append(l, api.Context{Reg: [16]uint32{3: pc}, PC: pc})
	}
	return l
}

func TestNil(t *testing.T) {
	var x *CPU
	for _, space := range []int{0, 1, -1, math.MaxInt, math.MinInt} {
		for _, c := range someContexts() {
			if then, trap := x.Step(space, c); then != c || trap != (api.Trap{Cause: api.Illegal}) {
				t.Errorf("a nil one: %v %v, want %v and Illegal", then, trap, c)
			}
		}
	}
}

// TestOfNil: a nil memory has no frames, and a nil TLB no entries.
func TestOfNil(t *testing.T) {
	for _, x := range []struct {
		name    string
		cpu     *CPU
		entries bool
	}{
		{"no memory", New(nil, twoPages()), true}, {"no memory, no entries", New(nil, &tlb.TLB{}), false},
		{"no TLB", New(frames.New(3), nil), false}, {"neither", New(nil, nil), false}, {"the zero one", &CPU{}, false},
	} {
		if x.cpu == nil {
			t.Fatalf("%s: New is nil", x.name)
		}
		for _, c := range someContexts() {
			want := api.Trap{Cause: api.Align}
			if c.PC%4 == 0 {
				want = api.Trap{Cause: api.Miss, Page: int(c.PC / 64)}
			}
			if c.PC%4 == 0 && x.entries && c.PC/64 < 2 {
				want = api.Trap{Cause: api.Illegal}
			}
			if then, trap := x.cpu.Step(0, c); then != c || trap != want {
				t.Errorf("%s: %v of %v: %v, want %v", x.name, then, c, trap, want)
			}
		}
	}
}

// twoPages tells a TLB with entries of pages 0 and 1.
func twoPages() *tlb.TLB {
	y := &tlb.TLB{}
	y.Put(tlb.Entry{Page: 0, Frame: 0, Write: true})
	y.Put(tlb.Entry{Page: 1, Frame: 1, Write: true})
	return y
}

// TestUsedAsItIs: a CPU uses the memory and the TLB that it was made of, as they are then.
func TestUsedAsItIs(t *testing.T) {
	m, y := frames.New(2), &tlb.TLB{}
	x, other := New(m, y), New(m, y)
	if _, trap := x.Step(0, api.Context{}); trap.Cause != api.Miss {
		t.Fatalf("no entry yet: %v", trap)
	}
	y.Put(tlb.Entry{Page: 0, Frame: 1, Write: true})
	if _, trap := x.Step(0, api.Context{}); trap.Cause != api.Illegal {
		t.Fatalf("no instruction yet: %v", trap)
	}
	m.Put(1, 0, 0x0F120000) // store r1 r2 0: over itself
	c, trap := x.Step(0, api.Context{Reg: [16]uint32{1: 0x01100007}})
	if w, _ := m.Get(1, 0); w != 0x01100007 || trap != (api.Trap{}) || c.PC != 4 {
		t.Fatalf("a store: %x, %v %v", w, c, trap)
	}
	if c, trap := other.Step(0, api.Context{}); c.Reg[1] != 7 || trap != (api.Trap{}) {
		t.Errorf("what was stored is not done: %v %v", c, trap)
	}
	y.DropFrame(1)
	if _, trap := x.Step(0, api.Context{}); trap != (api.Trap{Cause: api.Miss}) {
		t.Errorf("an entry that is gone is used: %v", trap)
	}
}

func TestCPUsAreApart(t *testing.T) {
	a, b := newRig(), newRig()
	a.lay(t, "store r1 r2 0")
	b.lay(t, "load r1 r2 0")
	c := a.program(func(r *[16]uint32) { r[2] = open })
	then := c
	then.PC = code + 4
	a.steps(t, "store r1 r2 0", 3, c, then, api.Trap{}, change{2, 0, c.Reg[1]})
	then.Reg[1] = first(2, 0)
	b.steps(t, "load r1 r2 0", 3, c, then, api.Trap{})
}

// TestSameAgain: a step hangs on nothing that was done ahead, but for what it changed.
func TestSameAgain(t *testing.T) {
	for _, line := range []string{"add r1 r2", "load r1 r2 0", "store r1 r2 0", "call 5", "sys 3", "div r1 r3", "load r1 r3 0"} {
		g := newRig()
		g.lay(t, line)
		c := g.program(func(r *[16]uint32) { r[2], r[3] = open, 0 })
		one, why := g.cpu.Step(3, c)
		for range 20 {
			if two, trap := g.cpu.Step(3, c); two != one || trap != why {
				t.Fatalf("%q: %v %v, then %v %v", line, one, why, two, trap)
			}
		}
	}
}

// Promise 6.2.

// confined asks whether only a frame was changed that an entry of the space names, and that may be written; none with a trap.
func confined(t *testing.T, before *frames.Mem, g *rig, space int, trap api.Trap) {
	t.Helper()
	var may []int
	for _, e := range g.tlb.All() {
		if e.Space == space && e.Write && trap == (api.Trap{}) {
			may = append(may, e.Frame)
		}
	}
	if !frames.Others(before, g.mem, may...) {
		t.Fatalf("space %d changed a frame that is none of %v (trap %v)", space, may, trap)
	}
}

// do does a line's instruction, at code, which must have no trap.
func (g *rig) do(t *testing.T, line string, c api.Context) api.Context {
	t.Helper()
	g.lay(t, line)
	c.PC = code
	then, trap := g.cpu.Step(3, c)
	if trap != (api.Trap{}) || then.PC != code+4 {
		t.Fatalf("%q: %v %v", line, then, trap)
	}
	return then
}

func TestStoredIsLoaded(t *testing.T) {
	g := newRig()
	for _, page := range []uint32{open, top, 0} {
		for at := range uint32(16) {
			for _, w := range edges {
				c := g.program(func(r *[16]uint32) { r[1], r[2] = w, page+4*at })
				c = g.do(t, "load r3 r2 0", g.do(t, "store r1 r2 0", c))
				if c.Reg[3] != w {
					t.Fatalf("%x was stored at %x, %x loaded", w, page+4*at, c.Reg[3])
				}
				for k, line := range []string{"loadb r3 r2 0", "loadb r3 r2 1", "loadb r3 r2 2", "loadb r3 r2 3"} {
					if c = g.do(t, line, c); c.Reg[3] != w>>(8*k)&255 {
						t.Fatalf("%x was stored at %x, its byte %d is %x", w, page+4*at, k, c.Reg[3])
					}
				}
			}
		}
	}
}

func TestStoredBytesAreLoaded(t *testing.T) {
	for _, page := range []uint32{open, top, 0} {
		g := newRig()
		b := func(at uint32) uint32 { return (at*37 + 11) & 255 }
		for k := range uint32(64) { // not one behind the other, so that none lies where it does by what came ahead
			at := k * 29 % 64
			c := g.program(func(r *[16]uint32) { r[1], r[2] = 0xABCDEF00|b(at), page+at })
			if c = g.do(t, "loadb r3 r2 0", g.do(t, "storeb r1 r2 0", c)); c.Reg[3] != b(at) {
				t.Fatalf("%x was stored at %x, %x loaded", b(at), page+at, c.Reg[3])
			}
		}
		for at := range uint32(16) {
			c := g.program(func(r *[16]uint32) { r[2] = page + 4*at })
			want := b(4*at) | b(4*at+1)<<8 | b(4*at+2)<<16 | b(4*at+3)<<24
			if c = g.do(t, "load r3 r2 0", c); c.Reg[3] != want {
				t.Fatalf("the word at %x is %x, want %x", page+4*at, c.Reg[3], want)
			}
		}
	}
}

// TestStoredThroughAnotherPage: two pages of one frame, also of unlike spaces, are one.
func TestStoredThroughAnotherPage(t *testing.T) {
	g := newRig()
	g.tlb.Put(tlb.Entry{Space: 3, Page: absent / 64, Frame: 2})
	g.tlb.DropSpace(4)
	g.tlb.Put(tlb.Entry{Space: 4, Page: code / 64, Frame: 1})
	g.tlb.Put(tlb.Entry{Space: 4, Page: 9, Frame: 2})
	c := g.program(func(r *[16]uint32) { r[1], r[2], r[4], r[5] = 77, open+8, absent+8, 9*64+8 })
	c = g.do(t, "store r1 r2 0", c)
	if c = g.do(t, "load r3 r4 0", c); c.Reg[3] != 77 {
		t.Errorf("through another page: %d, want 77", c.Reg[3])
	}
	g.lay(t, "load r3 r5 0")
	c.PC, c.Reg[3] = code, 0
	if c, trap := g.cpu.Step(4, c); c.Reg[3] != 77 || trap != (api.Trap{}) {
		t.Errorf("through another space: %d %v, want 77", c.Reg[3], trap)
	}
	g.lay(t, "store r1 r4 0")
	c = g.program(func(r *[16]uint32) { r[4] = absent + 8 })
	g.steps(t, "store r1 r4 0", 3, c, c, api.Trap{Cause: api.Guard, Page: absent / 64, Write: true})
}

// TestOnlyStoresChange: no other instruction changes the memory, also where it might write.
func TestOnlyStoresChange(t *testing.T) {
	for op := isa.Set; op <= isa.SysCall; op++ {
		g := newRig()
		g.mem.Put(1, 3, wordOf(op, 1, 2, 4))
		before := g.mem.Twin()
		g.cpu.Step(3, g.program(func(r *[16]uint32) { r[2] = open }))
		stores := op == isa.Store || op == isa.StoreB
		if changed := !frames.Others(before, g.mem); changed != stores {
			t.Errorf("Op %d: changed is %v", op, changed)
		}
		if !frames.Others(before, g.mem, 2) {
			t.Errorf("Op %d changed another frame", op)
		}
	}
}

// TestRun runs a program that adds up numbers, keeps them, and calls.
func TestRun(t *testing.T) {
	l, _, err := asm.Read("set r1 10\nset r2 64\nl: call add\nstoreb r3 r2 0\naddi r2 1\naddi r1 -1\njnz r1 l\nset r2 64\nload r4 r2 4\nsys 1\nadd: add r3 r1\nret r15\n")
	if err != api.OK {
		t.Fatal(err)
	}
	m, y := frames.New(2), &tlb.TLB{}
	for at, w := range l {
		m.Put(0, at, w)
	}
	y.Put(tlb.Entry{Page: 0, Frame: 0})
	y.Put(tlb.Entry{Page: 1, Frame: 1, Write: true})
	x, c, trap, n := New(m, y), api.Context{}, api.Trap{}, 0
	for ; trap == (api.Trap{}) && n < 1000; n++ {
		c, trap = x.Step(0, c)
	}
	if trap != (api.Trap{Cause: api.Sys, Call: 1}) || n != 2+10*7+3 || c.PC != 40 || c.Reg[3] != 55 || c.Reg[4] != 0x34312D28 {
		t.Errorf("%d steps, %x %v", n, c, trap)
	}
	p, _ := m.Page(1)
	if want := (frames.Page{0x221B130A, 0x34312D28, 0x3736}); p != want {
		t.Errorf("the page is %x, want %x", p, want)
	}
}
