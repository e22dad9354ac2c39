package cpu

import (
	"math/rand"
	"testing"

	"onionskin/api"
	"onionskin/frames"
	"onionskin/isa"
	"onionskin/tlb"
)

// model is a machine that is reckoned otherwise: memory is bytes, and numbers have no bounds.
type model struct {
	bytes   [][64]int64 // by frames
	entries map[[2]int]tlb.Entry
	misses  int
}

// modelOf tells the model of a machine as it is.
func modelOf(g *rig) *model {
	o := &model{make([][64]int64, g.mem.Len()), map[[2]int]tlb.Entry{}, g.tlb.Misses()}
	for frame := range g.mem.Len() {
		p, _ := g.mem.Page(frame)
		for at, w := range p {
			o.lay(frame, 4*at, int64(w), 4)
		}
	}
	for _, e := range g.tlb.All() {
		o.entries[[2]int{e.Space, e.Page}] = e
	}
	return o
}

// holds tells whether a memory is what the model says.
func (o *model) holds(m *frames.Mem) bool {
	for frame := range o.bytes {
		p, ok := m.Page(frame)
		for at, w := range p {
			if !ok || int64(w) != o.number(frame, 4*at) {
				return false
			}
		}
	}
	return m.Len() == len(o.bytes)
}

// power tells 2 to the n.
func power(n int64) int64 { return 1 << n }

// around tells n modulo 2^32.
func around(n int64) int64 { return (n%power(32) + power(32)) % power(32) }

// signed tells a number, one of 2^31 and more being itself less 2^32.
func signed(n int64) int64 {
	if n >= power(31) {
		return n - power(32)
	}
	return n
}

// byteAt tells a byte; 0, if there is no such frame.
func (o *model) byteAt(frame, at int) int64 {
	if frame < 0 || frame >= len(o.bytes) {
		return 0
	}
	return o.bytes[frame][at]
}

// number tells the four bytes from a place on, as a number.
func (o *model) number(frame, at int) int64 {
	n := int64(0)
	for k := range 4 {
		n += o.byteAt(frame, at+k) * power(8*int64(k))
	}
	return n
}

// lay lays a number's lowest bytes, as many as are said, where there is such a frame.
func (o *model) lay(frame, at int, n int64, many int) {
	if frame < 0 || frame >= len(o.bytes) {
		return
	}
	for k := range many {
		o.bytes[frame][at+k] = n / power(8*int64(k)) % 256
	}
}

// find tells the frame, and the byte in that, of an address.
func (o *model) find(space int, address int64, write bool, many int64) (int, int, api.Trap) {
	if address%many != 0 {
		return 0, 0, api.Trap{Cause: api.Align}
	}
	page := int(address / 64)
	e, ok := o.entries[[2]int{space, page}]
	switch {
	case !ok:
		o.misses++
		return 0, 0, api.Trap{Cause: api.Miss, Page: page, Write: write}
	case write && !e.Write:
		return 0, 0, api.Trap{Cause: api.Guard, Page: page, Write: true}
	}
	return e.Frame, int(address % 64), api.Trap{}
}

// bits lays two numbers together bit by bit.
func bits(a, b int64, rule func(x, y int64) int64) int64 {
	n := int64(0)
	for k := range int64(32) {
		n += rule(a/power(k)%2, b/power(k)%2) * power(k)
	}
	return n
}

// product tells a and b multiplied, modulo 2^32, by halves, so that nothing is too great.
func product(a, b int64) int64 { return around(around(a*(b/65536))*65536 + a*(b%65536)) }

// reckon tells what A shall be; false: the instruction does something else.
func reckon(op int, a, b, imm int64) (int64, bool) {
	switch op {
	case isa.Set:
		return around(imm), true
	case isa.High:
		return a%65536 + around(imm)%65536*65536, true
	case isa.Mov:
		return b, true
	case isa.Add:
		return around(a + b), true
	case isa.Sub:
		return around(a - b), true
	case isa.Mul:
		return product(a, b), true
	case isa.And:
		return bits(a, b, func(x, y int64) int64 { return x * y }), true
	case isa.Or:
		return bits(a, b, func(x, y int64) int64 { return max(x, y) }), true
	case isa.Xor:
		return bits(a, b, func(x, y int64) int64 { return (x + y) % 2 }), true
	case isa.Shl:
		return product(a, power(b%32)), true
	case isa.Shr:
		return a / power(b%32), true
	case isa.AddI:
		return around(a + imm), true
	}
	return 0, false
}

// step tells what Step shall answer, and does it.
func (o *model) step(space int, c api.Context) (api.Context, api.Trap) {
	frame, at, trap := o.find(space, int64(c.PC), false, 4)
	if trap != (api.Trap{}) {
		return c, trap
	}
	i, ok := new(isa.Table).Decode(uint32(o.number(frame, at)))
	if !ok {
		return c, api.Trap{Cause: api.Illegal}
	}
	then := c
	then.PC = uint32(around(int64(c.PC) + 4))
	a, b, imm := int64(c.Reg[i.A]), int64(c.Reg[i.B]), int64(i.Imm)
	if n, ok := reckon(i.Op, a, b, imm); ok {
		then.Reg[i.A] = uint32(n)
		return then, api.Trap{}
	}
	jumps := false
	switch i.Op {
	case isa.Div:
		if b == 0 {
			return c, api.Trap{Cause: api.Divide}
		}
		then.Reg[i.A] = uint32(a / b)
	case isa.Load, isa.Store, isa.LoadB, isa.StoreB:
		return o.reach(space, c, then, i)
	case isa.SysCall:
		return then, api.Trap{Cause: api.Sys, Call: int((imm + 65536) % 65536)}
	case isa.Ret:
		then.PC = c.Reg[i.A]
	case isa.Call:
		then.Reg[15] = then.PC
		jumps = true
	case isa.Jmp:
		jumps = true
	case isa.Jz:
		jumps = a == 0
	case isa.Jnz:
		jumps = a != 0
	case isa.Jlt:
		jumps = signed(a) < signed(b)
	}
	if jumps {
		then.PC = uint32(around(int64(c.PC) + 4*imm))
	}
	return then, api.Trap{}
}

// reach does what loads or stores.
func (o *model) reach(space int, was, then api.Context, i isa.Instr) (api.Context, api.Trap) {
	many := int64(4)
	if i.Op == isa.LoadB || i.Op == isa.StoreB {
		many = 1
	}
	write := i.Op == isa.Store || i.Op == isa.StoreB
	frame, at, trap := o.find(space, around(int64(was.Reg[i.B])+int64(i.Imm)), write, many)
	switch {
	case trap != (api.Trap{}):
		return was, trap
	case write:
		o.lay(frame, at, int64(was.Reg[i.A]), int(many))
	case many == 4:
		then.Reg[i.A] = uint32(o.number(frame, at))
	default:
		then.Reg[i.A] = uint32(o.byteAt(frame, at))
	}
	return then, api.Trap{}
}

// compare does a step on a machine and on its model, and holds all that can be told against each other.
func compare(t *testing.T, g *rig, o *model, space int, c api.Context) (api.Context, api.Trap) {
	t.Helper()
	entries, w := g.tlb.All(), g.at(space, c.PC)
	then, trap := g.cpu.Step(space, c)
	if want, why := o.step(space, c); then != want || trap != why {
		t.Fatalf("%08x in space %d of %x: %x %v, want %x %v", w, space, c, then, trap, want, why)
	}
	if !o.holds(g.mem) {
		t.Fatalf("%08x in space %d of %x: the memory is another one", w, space, c)
	}
	if g.tlb.Misses() != o.misses {
		t.Fatalf("%08x in space %d of %x: %d misses, want %d", w, space, c, g.tlb.Misses(), o.misses)
	}
	sameEntries(t, g.tlb, entries)
	return then, trap
}

// edges are numbers of 32 bits at which something may go wrong.
var edges = []uint32{
	0, 1, 2, 3, 4, 31, 32, 33, 63, 64, 255, 256, 0x7FFF, 0x8000, 0xFFFF, 0x10000, 0x12345678, 0x7FFFFFFF, 0x80000000,
	0x80000001, 0xDEADBEEF, 0xFFFF0000, 0xFFFF7FFF, 0xFFFF8000, 0xFFFFFFFC, 0xFFFFFFFE, 0xFFFFFFFF,
}

// numbers are Imms at which something may go wrong.
var numbers = []int{-32768, -32767, -256, -64, -5, -4, -3, -2, -1, 0, 1, 2, 3, 4, 5, 63, 64, 255, 256, 32766, 32767}

// wordOf tells an Op's word, of these registers and this Imm as far as it has them.
func wordOf(op, a, b, imm int) uint32 {
	for _, i := range []isa.Instr{
		{Op: op, A: a, B: b, Imm: imm}, {Op: op, A: a, Imm: imm}, {Op: op, A: a, B: b}, {Op: op, Imm: imm}, {Op: op, A: a},
	} {
		if w, ok := new(isa.Table).Encode(i); ok {
			return w
		}
	}
	return 0
}

// compareAtCode lays a word at code, in a machine and in its model, and compares a step of it.
func compareAtCode(t *testing.T, g *rig, o *model, w uint32, change func(r *[16]uint32)) {
	t.Helper()
	g.mem.Put(1, 3, w)
	o.lay(1, 12, int64(w), 4)
	compare(t, g, o, 3, g.program(change))
}

// TestEdgesByModel does each Op at all edges, of two registers and of one.
func TestEdgesByModel(t *testing.T) {
	for op := isa.Set; op <= isa.SysCall; op++ {
		g := newRig()
		o := modelOf(g)
		for k, imm := range numbers {
			w, same := wordOf(op, 1, 2, imm), wordOf(op, 7, 7, imm)
			if k > 0 && w == wordOf(op, 1, 2, numbers[0]) { // it has no Imm
				break
			}
			for _, a := range edges {
				for _, b := range edges {
					compareAtCode(t, g, o, w, func(r *[16]uint32) { r[1], r[2] = a, b })
				}
				compareAtCode(t, g, o, same, func(r *[16]uint32) { r[7] = a })
			}
		}
	}
}

// TestRegistersByModel does each Op with each two registers, also with one alone.
func TestRegistersByModel(t *testing.T) {
	for op := isa.Set; op <= isa.SysCall; op++ {
		g := newRig()
		o := modelOf(g)
		for a := range 16 {
			for b := range 16 {
				for _, imm := range []int{4, 0, -4, 1} {
					compareAtCode(t, g, o, wordOf(op, a, b, imm), func(r *[16]uint32) { r[b] = open + 8 })
				}
			}
		}
	}
}

// chanceWord tells a word: mostly an instruction's, of any registers and an Imm that may be an edge.
func chanceWord(r *rand.Rand) uint32 {
	if r.Intn(40) == 0 {
		return r.Uint32()
	}
	imm := r.Intn(17) - 8
	switch r.Intn(8) {
	case 0:
		imm = numbers[r.Intn(len(numbers))]
	case 1:
		imm = r.Intn(65536) - 32768
	}
	return wordOf(1+r.Intn(24), r.Intn(16), r.Intn(16), imm)
}

// chancePlace tells an address: in one of the pages that may have an entry, or anywhere.
func chancePlace(r *rand.Rand) uint32 {
	switch r.Intn(8) {
	case 0:
		return edges[r.Intn(len(edges))]
	case 1:
		return r.Uint32()
	}
	return uint32(chancePage(r)*64 + r.Intn(64))
}

// chancePage tells one of the pages that may have an entry, the last one among them.
func chancePage(r *rand.Rand) int {
	if page := r.Intn(4); page < 3 {
		return page
	}
	return 1<<26 - 1
}

// chanceRig tells a machine whose memory and entries are by chance, in spaces 0 and 1.
func chanceRig(r *rand.Rand) *rig {
	g := &rig{mem: frames.New(5), tlb: &tlb.TLB{}}
	for frame := range 5 {
		for at := range 16 {
			g.mem.Put(frame, at, chanceWord(r))
		}
	}
	for range 7 {
		frame := r.Intn(5)
		if r.Intn(20) == 0 {
			frame = 5 + r.Intn(3)
		}
		g.tlb.Put(tlb.Entry{Space: r.Intn(2), Page: chancePage(r), Frame: frame, Write: r.Intn(3) > 0})
	}
	g.cpu = New(g.mem, g.tlb)
	return g
}

// TestChanceByModel runs programs by chance, which may change themselves.
func TestChanceByModel(t *testing.T) {
	causes := map[int]int{}
	for seed := range int64(400) {
		r := rand.New(rand.NewSource(seed))
		g := chanceRig(r)
		o := modelOf(g)
		var c api.Context
		for range 60 {
			space := r.Intn(2)
			c.Reg[r.Intn(16)] = chancePlace(r)
			if r.Intn(4) == 0 {
				c.PC = chancePlace(r) / 4 * 4
			}
			var trap api.Trap
			before := g.mem.Twin()
			c, trap = compare(t, g, o, space, c)
			confined(t, before, g, space, trap)
			causes[trap.Cause]++
			if r.Intn(3) == 0 {
				frame, at, w := r.Intn(5), r.Intn(16), chanceWord(r)
				g.mem.Put(frame, at, w)
				o.lay(frame, 4*at, int64(w), 4)
			}
		}
	}
	for cause := api.None; cause < api.Tick; cause++ {
		if causes[cause] < 20 {
			t.Errorf("cause %d came %d times alone", cause, causes[cause])
		}
	}
	if causes[api.Tick] != 0 {
		t.Errorf("Tick is no trap of Step's")
	}
}
