package exo

import (
	"fmt"
	"maps"
	"math"
	"math/rand"
	"slices"
	"testing"

	"onionskin/abi"
	"onionskin/api"
	"onionskin/disk"
	"onionskin/frames"
	"onionskin/isa"
	"onionskin/tlb"
)

// thing is one of what is shared out, page one of a space, lies where that is, write one that waits for a block, and want a name that is taken at a turn.
type (
	thing struct{ kind, n int }
	had   struct{ env, name int }
	page  struct{ space, n int }
	lies  struct {
		frame int
		write bool
	}
	write struct {
		block int
		data  [64]byte
	}
	want struct{ env, kind, name, due int }
)

// plain is a machine that is as plain as can be: who has what stands in one map by the things, and every question is answered by looking at all of it. What an exo does is held against it.
type plain struct {
	many    [4]int
	owners  map[thing]had
	there   [16]bool
	spent   [16]int
	frames  map[int][16]uint32
	lasting map[int][64]byte
	waiting []write
	queues  map[int][]uint32
	bound   map[page]lies
	entries []tlb.Entry
	wants   []want
	now     int
}

// newPlain makes one of so many frames and blocks.
func newPlain(size, blocks int) *plain {
	return &plain{
		many: [4]int{size, blocks, 64, 32}, owners: map[thing]had{}, frames: map[int][16]uint32{},
		lasting: map[int][64]byte{}, queues: map[int][]uint32{}, bound: map[page]lies{},
	}
}

// nobody tells the things of a kind that nobody has, rising.
func (o *plain) nobody(kind int) []int {
	var l []int
	if kind < 0 || kind > 3 {
		return nil
	}
	for n := range o.many[kind] {
		if _, is := o.owners[thing{kind, n}]; !is {
			l = append(l, n)
		}
	}
	return l
}

// names tells what an environment's names of a kind mean.
func (o *plain) names(e, kind int) map[int]int {
	l := map[int]int{}
	for th, who := range o.owners {
		if who.env == e && th.kind == kind {
			l[who.name] = th.n
		}
	}
	return l
}

// pages tells the pages of an environment's spaces that are bound, by its names.
func (o *plain) pages(e int) []page {
	var l []page
	for p := range o.bound {
		if who := o.owners[thing{api.Space, p.space}]; who.env == e {
			l = append(l, page{who.name, p.n})
		}
	}
	slices.SortFunc(l, func(p, q page) int { return 32*(p.space-q.space) + p.n - q.n })
	return l
}

// lives tells whether an environment is there.
func (o *plain) lives(e int) bool { return e >= 0 && e < 16 && o.there[e] }

// give gives an environment the n least things of a kind, each under the least name that means nothing.
func (o *plain) give(e, kind, n int) {
	for _, th := range o.nobody(kind)[:n] {
		name := 0
		for l := o.names(e, kind); ; name++ {
			if _, is := l[name]; !is {
				break
			}
		}
		o.owners[thing{kind, th}] = had{e, name}
	}
}

// enter does what Enter is to do.
func (o *plain) enter(sizes [4]int) (int, api.Errno) {
	for _, n := range sizes {
		if n < 0 {
			return 0, api.EARG
		}
	}
	for kind, n := range sizes {
		if n > len(o.nobody(kind)) {
			return 0, api.ENOMEM
		}
	}
	for e := range 16 {
		if !o.there[e] {
			o.there[e] = true
			for kind, n := range sizes {
				o.give(e, kind, n)
			}
			return e, api.OK
		}
	}
	return 0, api.EAGAIN
}

// grant does what Grant is to do.
func (o *plain) grant(e, kind, n int) (int, api.Errno) {
	switch {
	case !o.lives(e):
		return 0, api.EDEAD
	case kind < 0 || kind > 3 || n < 0:
		return 0, api.EARG
	case n > len(o.nobody(kind)):
		return 0, api.ENOMEM
	}
	o.give(e, kind, n)
	return len(o.names(e, kind)), api.OK
}

// without tells the entries that are not meant.
func (o *plain) without(meant func(e tlb.Entry) bool) []tlb.Entry {
	var l []tlb.Entry
	for _, e := range o.entries {
		if !meant(e) {
			l = append(l, e)
		}
	}
	return l
}

// loosen unbinds all pages that are meant, of which the TLB has no entry then: how many.
func (o *plain) loosen(meant func(p page, l lies) bool) int {
	n := 0
	for p, l := range o.bound {
		if meant(p, l) {
			n++
			delete(o.bound, p)
			o.entries = o.without(func(e tlb.Entry) bool { return e.Space == p.space && e.Page == p.n })
		}
	}
	return n
}

// revoke does what Revoke is to do.
func (o *plain) revoke(e, kind, name int) api.Errno {
	switch {
	case !o.lives(e):
		return api.EDEAD
	case kind < 0 || kind > 3:
		return api.EARG
	}
	n, is := o.names(e, kind)[name]
	if !is {
		return api.ENOENT
	}
	delete(o.owners, thing{kind, n})
	o.wants = slices.DeleteFunc(o.wants, func(w want) bool { return w.env == e && w.kind == kind && w.name == name })
	switch kind {
	case api.Frame:
		delete(o.frames, n)
		o.loosen(func(_ page, l lies) bool { return l.frame == n })
	case api.Space:
		o.loosen(func(p page, _ lies) bool { return p.space == n })
	case api.Port:
		delete(o.queues, n)
	}
	return api.OK
}

// leave does what Leave is to do.
func (o *plain) leave(e int) api.Errno {
	if !o.lives(e) {
		return api.EDEAD
	}
	for kind := range 4 {
		for name := range o.names(e, kind) {
			o.revoke(e, kind, name)
		}
	}
	o.there[e], o.spent[e] = false, 0
	return api.OK
}

// ask does what Ask is to do.
func (o *plain) ask(e, kind, name, turns int) api.Errno {
	if !o.lives(e) {
		return api.EDEAD
	}
	if _, is := o.names(e, kind)[name]; !is {
		return api.ENOENT
	}
	if turns < 1 || turns > 100 {
		return api.EARG
	}
	for _, w := range o.wants {
		if w.env == e && w.kind == kind && w.name == name {
			return api.EEXIST
		}
	}
	if len(o.wants) == 64 {
		return api.EAGAIN
	}
	o.wants = append(o.wants, want{e, kind, name, o.now + turns})
	return api.OK
}

// turn does what Turn is to do.
func (o *plain) turn() int {
	o.now++
	n := 0
	for _, w := range slices.Clone(o.wants) {
		if w.due == o.now {
			o.revoke(w.env, w.kind, w.name)
			n++
		}
	}
	return n
}

// holds tells what a block holds.
func (o *plain) holds(block int) [64]byte {
	for k := len(o.waiting) - 1; k >= 0; k-- {
		if o.waiting[k].block == block {
			return o.waiting[k].data
		}
	}
	return o.lasting[block]
}

// settle makes the writes that wait and are meant last.
func (o *plain) settle(meant func(place, block int) bool, others bool) {
	var wait []write
	for place, w := range o.waiting {
		if meant(place, w.block) {
			o.lasting[w.block] = w.data
		} else if others {
			wait = append(wait, w)
		}
	}
	o.waiting = wait
}

// asWords and asBytes tell bytes as words, and words as bytes, the lowest byte first.
func asWords(b [64]byte) (l [16]uint32) {
	for k, c := range b {
		l[k/4] += uint32(c) << (8 * (k % 4))
	}
	return l
}

func asBytes(l [16]uint32) (b [64]byte) {
	for k := range b {
		b[k] = byte(l[k/4] >> (8 * (k % 4)))
	}
	return b
}

// letters are the numbers of the calls, as chapter 14 tells them.
var letters = [41]string{
	1: "fa", 2: "faw", 3: "f", 4: "f", 5: "ff", 6: "f", 7: "ff", 8: "f", 9: "fw", 10: "ff",
	11: "sgft", 12: "sg", 13: "sg", 14: "s", 15: "s", 16: "sg", 17: "su", 18: "sw", 19: "sww", 20: "f",
	21: "b", 22: "b", 23: "b", 24: "b", 25: "bf", 26: "fb", 27: "b", 28: "bb",
	29: "pw", 30: "p", 31: "p", 32: "p", 33: "kn", 34: "k", 35: "kn", 36: "k", 37: "kn",
}

// kindsOf are the kinds of the letters that are names.
var kindsOf = map[byte]int{'f': 0, 'b': 1, 's': 2, 'p': 3}

// call does what Call is to do.
func (o *plain) call(e int, c api.Call) api.Reply {
	if !o.lives(e) {
		return api.Reply{Err: api.EDEAD}
	}
	if abi.Check(c) != api.OK {
		return api.Reply{Err: api.EARG}
	}
	if c.Op >= 33 {
		return o.ofNames(e, c)
	}
	for at := range len(letters[c.Op]) {
		kind, is := kindsOf[letters[c.Op][at]]
		if !is {
			continue
		}
		n, means := o.names(e, kind)[c.Arg[at]]
		if !means {
			return api.Reply{Err: api.EPERM}
		}
		c.Arg[at] = n
	}
	switch {
	case c.Op <= 10:
		return o.ofFrames(c)
	case c.Op <= 20:
		return o.ofSpaces(e, c)
	}
	return o.ofOthers(c)
}

// one tells 1 if something is so, else 0.
func one(so bool) api.Reply {
	if so {
		return api.Reply{N: 1}
	}
	return api.Reply{}
}

// ofNames answers calls 33 to 40.
func (o *plain) ofNames(e int, c api.Call) api.Reply {
	l := o.names(e, c.Arg[0])
	least := func(from int, may func(name int) bool) api.Reply {
		for name := from; name < 512; name++ {
			if may(name) {
				return api.Reply{N: name}
			}
		}
		return api.Reply{Err: api.ENOENT}
	}
	named := func(name int) bool { _, is := l[name]; return is }
	switch c.Op {
	case api.CHas:
		return one(named(c.Arg[1]))
	case api.CCount:
		return api.Reply{N: len(l)}
	case api.CNext:
		return least(c.Arg[1], named)
	case api.CWanted:
		return least(0, func(name int) bool {
			return slices.ContainsFunc(o.wants, func(w want) bool { return w.env == e && w.kind == c.Arg[0] && w.name == name })
		})
	case api.CGive:
		return api.Reply{Err: o.revoke(e, c.Arg[0], c.Arg[1])}
	case api.CDepth:
		return api.Reply{N: 5}
	}
	return api.Reply{}
}

// ofFrames answers calls 1 to 10, which have frames for names.
func (o *plain) ofFrames(c api.Call) api.Reply {
	f, g, n := c.Arg[0], c.Arg[1], 0
	l := o.frames[f]
	switch c.Op {
	case api.CGet:
		return api.Reply{N: int(l[g])}
	case api.CPut:
		l[g] = uint32(c.Arg[2])
		o.frames[f] = l
	case api.CPage:
		return api.Reply{Words: l}
	case api.CLay:
		o.frames[f] = c.Words
	case api.CCopy:
		o.frames[f] = o.frames[g]
	case api.CClear:
		delete(o.frames, f)
	case api.CSame:
		return one(l == o.frames[g])
	case api.CSum:
		for _, w := range l {
			n = (n + int(w)) % (1 << 32)
		}
		return api.Reply{N: n}
	case api.CFind:
		for at, w := range l {
			if int(w) == g {
				return api.Reply{N: at}
			}
		}
		return api.Reply{Err: api.ENOENT}
	case api.CSwap:
		o.frames[f], o.frames[g] = o.frames[g], l
	}
	return api.Reply{}
}

// ofSpaces answers calls 11 to 20, which have spaces and frames for names.
func (o *plain) ofSpaces(e int, c api.Call) api.Reply {
	p := page{c.Arg[0], c.Arg[1]}
	l, is := o.bound[p]
	mine := func(q page, _ lies) bool { return q.space == p.space }
	n := 0
	switch c.Op {
	case api.CUnbind, api.CBound, api.CGuard:
		if !is {
			return api.Reply{Err: api.ENOENT}
		}
	}
	switch c.Op {
	case api.CBind:
		o.loosen(func(q page, _ lies) bool { return q == p })
		o.bound[p] = lies{c.Arg[2], c.Arg[3] == 1}
	case api.CUnbind:
		o.loosen(func(q page, _ lies) bool { return q == p })
	case api.CGuard:
		o.loosen(func(q page, _ lies) bool { return q == p })
		o.bound[p] = lies{l.frame, false}
	case api.CBound:
		return api.Reply{N: 2*o.owners[thing{0, l.frame}].name + one(l.write).N}
	case api.CEmpty:
		return api.Reply{N: o.loosen(mine)}
	case api.CPages:
		for q, m := range o.bound {
			n += one(mine(q, m)).N
		}
		return api.Reply{N: n}
	case api.CUses:
		for _, m := range o.bound {
			n += one(m.frame == c.Arg[0]).N
		}
		return api.Reply{N: n}
	case api.CRun:
		return o.run(e, c.Arg[0], c.Arg[1], c.Program)
	default:
		return o.peek(c.Arg[0], c.Arg[1], c.Arg[2], c.Op == api.CPoke)
	}
	return api.Reply{}
}

// peek does Peek and Poke.
func (o *plain) peek(space, address, w int, poke bool) api.Reply {
	l, is := o.bound[page{space, address / 64}]
	switch {
	case address%4 != 0:
		return api.Reply{Err: api.EARG}
	case !is || poke && !l.write:
		return api.Reply{Err: api.EFAULT}
	}
	holds := o.frames[l.frame]
	if !poke {
		return api.Reply{N: int(holds[address%64/4])}
	}
	holds[address%64/4] = uint32(w)
	o.frames[l.frame] = holds
	return api.Reply{}
}

// ofOthers answers calls 21 to 32, which have blocks and ports for names, and frames.
func (o *plain) ofOthers(c api.Call) api.Reply {
	a, b := c.Arg[0], c.Arg[1]
	writes := func(block int, l [16]uint32) { o.waiting = append(o.waiting, write{block, asBytes(l)}) }
	switch c.Op {
	case api.CRead:
		return api.Reply{Words: asWords(o.holds(a))}
	case api.CWrite:
		writes(a, c.Words)
	case api.CZero:
		writes(a, [16]uint32{})
	case api.CFetch:
		o.frames[b] = asWords(o.holds(a))
	case api.CSave:
		writes(b, o.frames[a])
	case api.CFlush:
		o.settle(func(_, block int) bool { return block == a }, true)
	case api.CWaits:
		return one(slices.ContainsFunc(o.waiting, func(w write) bool { return w.block == a }))
	case api.CAlike:
		return one(o.holds(a) == o.holds(b))
	case api.CQueued:
		return api.Reply{N: len(o.queues[a])}
	case api.CDrain:
		n := len(o.queues[a])
		delete(o.queues, a)
		return api.Reply{N: n}
	case api.CSend:
		if len(o.queues[a]) == 64 {
			return api.Reply{Err: api.EAGAIN}
		}
		o.queues[a] = append(o.queues[a], uint32(b))
	case api.CReceive:
		l := o.queues[a]
		if len(l) == 0 {
			return api.Reply{Err: api.EAGAIN}
		}
		o.queues[a] = l[1:]
		return api.Reply{N: int(l[0])}
	}
	return api.Reply{}
}

// again is no cause: an entry was laid, and the instruction is to be begun anew.
const again = -1

// run does Run.
func (o *plain) run(e, space, steps int, c api.Context) api.Reply {
	r := api.Reply{Program: c, Trap: api.Trap{Cause: api.Tick}}
	for r.N < steps {
		then, trap := o.step(space, r.Program)
		if trap.Cause == again {
			continue
		}
		r.Program = then
		if trap.Cause == api.None || trap.Cause == api.Sys {
			r.N++
		}
		if trap.Cause != api.None {
			r.Trap = trap
			break
		}
	}
	o.spent[e] += r.N
	return r
}

// find tells where an address lies: an entry that is needed, and missing, is laid, behind those that there are, of which there are eight at most.
func (o *plain) find(space int, address, many uint32, write bool) (frame, at int, trap api.Trap) {
	if address%many != 0 {
		return 0, 0, api.Trap{Cause: api.Align}
	}
	p := page{space, int(address / 64)}
	l, is := o.bound[p]
	if !is {
		return 0, 0, api.Trap{Cause: api.Miss, Page: p.n, Write: write}
	}
	if !slices.ContainsFunc(o.entries, func(e tlb.Entry) bool { return e.Space == space && e.Page == p.n }) {
		if len(o.entries) == 8 {
			o.entries = slices.Clone(o.entries[1:])
		}
		o.entries = append(o.entries, tlb.Entry{Space: space, Page: p.n, Frame: l.frame, Write: l.write})
		return 0, 0, api.Trap{Cause: again}
	}
	if write && !l.write {
		return 0, 0, api.Trap{Cause: api.Guard, Page: p.n, Write: true}
	}
	return l.frame, int(address % 64), api.Trap{}
}

// step does an instruction.
func (o *plain) step(space int, c api.Context) (api.Context, api.Trap) {
	frame, at, trap := o.find(space, c.PC, 4, false)
	if trap.Cause != api.None {
		return c, trap
	}
	i, ok := new(isa.Table).Decode(o.frames[frame][at/4])
	if !ok {
		return c, api.Trap{Cause: api.Illegal}
	}
	then, imm := c, uint32(i.Imm)
	a, b := &then.Reg[i.A], c.Reg[i.B]
	then.PC += 4
	jumps := i.Op == isa.Jmp || i.Op == isa.Call || i.Op == isa.Jz && *a == 0 || i.Op == isa.Jnz && *a != 0 || i.Op == isa.Jlt && int32(*a) < int32(b)
	switch i.Op {
	case isa.Set:
		*a = imm
	case isa.High:
		*a = imm<<16 | *a&0xFFFF
	case isa.Mov:
		*a = b
	case isa.Add:
		*a += b
	case isa.Sub:
		*a -= b
	case isa.Mul:
		*a *= b
	case isa.And:
		*a &= b
	case isa.Or:
		*a |= b
	case isa.Xor:
		*a ^= b
	case isa.Shl:
		*a <<= b % 32
	case isa.Shr:
		*a >>= b % 32
	case isa.AddI:
		*a += imm
	case isa.Div:
		if b == 0 {
			return c, api.Trap{Cause: api.Divide}
		}
		*a /= b
	case isa.Load, isa.Store, isa.LoadB, isa.StoreB:
		if trap := o.move(space, i.Op, a, b+imm); trap.Cause != api.None {
			return c, trap
		}
	case isa.Call:
		then.Reg[15] = then.PC
	case isa.Ret:
		then.PC = *a
	case isa.SysCall:
		return then, api.Trap{Cause: api.Sys, Call: int(imm % 65536)}
	}
	if jumps {
		then.PC = c.PC + 4*imm
	}
	return then, api.Trap{}
}

// move does what loads and stores.
func (o *plain) move(space, op int, a *uint32, address uint32) api.Trap {
	many := uint32(4)
	if op == isa.LoadB || op == isa.StoreB {
		many = 1
	}
	frame, at, trap := o.find(space, address, many, op == isa.Store || op == isa.StoreB)
	if trap.Cause != api.None {
		return trap
	}
	b := asBytes(o.frames[frame])
	if op == isa.Load || op == isa.LoadB {
		*a = 0
	}
	for k := range int(many) {
		if op == isa.Load || op == isa.LoadB {
			*a += uint32(b[at+k]) << (8 * k)
		} else {
			b[at+k] = byte(*a >> (8 * k))
		}
	}
	o.frames[frame] = asWords(b)
	return api.Trap{}
}

// pair is an exo and the plain machine that it is held against.
type pair struct {
	x *Exo
	o *plain
	d *disk.Disk
}

// newPair makes both, of so many frames and blocks.
func newPair(size, blocks int) pair {
	d := disk.New(blocks)
	return pair{New(size, d), newPlain(size, blocks), d}
}

// check holds all that an exo tells, and that changes nothing, against the plain machine.
func (p pair) check(t *testing.T) {
	t.Helper()
	all := map[thing]had{}
	for e := range 16 {
		for kind := range 4 {
			l := p.x.Names(e, kind)
			for _, name := range l.Names() {
				n, _ := l.Get(name)
				if other, is := all[thing{kind, n}]; is {
					t.Fatalf("%v and %v mean the same", other, had{e, name})
				}
				all[thing{kind, n}] = had{e, name}
			}
		}
		if got := p.x.Spent(e); got != p.o.spent[e] {
			t.Fatalf("Spent(%d): %d, not %d", e, got, p.o.spent[e])
		}
	}
	if len(all) != len(p.o.owners) {
		t.Fatalf("had: %v, not %v", all, p.o.owners)
	}
	for th, who := range p.o.owners {
		if all[th] != who {
			t.Fatalf("%v is had by %v, not %v", th, all[th], who)
		}
	}
	for kind := range 4 {
		if got := p.x.Free(kind); got != len(p.o.nobody(kind)) {
			t.Fatalf("Free(%d): %d, not %d", kind, got, len(p.o.nobody(kind)))
		}
	}
	if got := p.x.Entries(); !slices.Equal(got, p.o.entries) {
		t.Fatalf("Entries: %v, not %v", got, p.o.entries)
	}
	p.checkMemory(t)
	p.checkDisk(t)
}

// checkMemory holds the memory against the plain machine's.
func (p pair) checkMemory(t *testing.T) {
	t.Helper()
	m := p.x.Memory()
	for f := range p.o.many[0] {
		if got, ok := m.Page(f); !ok || got != frames.Page(p.o.frames[f]) {
			t.Fatalf("frame %d: %v, not %v", f, got, p.o.frames[f])
		}
	}
	if m.Len() != p.o.many[0] {
		t.Fatalf("%d frames", m.Len())
	}
}

// checkDisk holds the disk against the plain machine's.
func (p pair) checkDisk(t *testing.T) {
	t.Helper()
	if p.x.Disk() != p.d {
		t.Fatal("another disk")
	}
	for b := range p.o.many[1] {
		if got, ok := p.d.Read(b); !ok || got != disk.Data(p.o.holds(b)) {
			t.Fatalf("block %d: %v, not %v", b, got, p.o.holds(b))
		}
	}
	var waits []int
	for _, w := range p.o.waiting {
		waits = append(waits, w.block)
	}
	if got := p.d.Waiting(); !slices.Equal(got, waits) {
		t.Fatalf("%v waits, not %v", got, waits)
	}
}

// checkCalls holds what is told by calls alone, and changes nothing, against the plain machine: bindings, ports, wants.
func (p pair) checkCalls(t *testing.T) {
	t.Helper()
	for th, who := range p.o.owners {
		switch th.kind {
		case api.Frame:
			p.call(t, who.env, api.Call{Op: api.CUses, Arg: [4]int{who.name}})
		case api.Space:
			p.call(t, who.env, api.Call{Op: api.CPages, Arg: [4]int{who.name}})
			for n := range 32 {
				p.call(t, who.env, api.Call{Op: api.CBound, Arg: [4]int{who.name, n}})
			}
		case api.Port:
			p.call(t, who.env, api.Call{Op: api.CQueued, Arg: [4]int{who.name}})
		}
	}
	for e := range 16 {
		for kind := range 4 {
			p.call(t, e, api.Call{Op: api.CWanted, Arg: [4]int{kind}})
		}
	}
}

// empty receives all words of all ports.
func (p pair) empty(t *testing.T) {
	t.Helper()
	for th, who := range p.o.owners {
		for th.kind == api.Port && p.call(t, who.env, api.Call{Op: api.CReceive, Arg: [4]int{who.name}}).Err == api.OK {
		}
	}
}

// call does a call on both.
func (p pair) call(t *testing.T, e int, c api.Call) api.Reply {
	t.Helper()
	got, want := p.x.Call(e, c), p.o.call(e, c)
	if got != want {
		t.Fatalf("Call(%d, %v): %v, not %v", e, c, got, want)
	}
	return got
}

// noNumbers are numbers that are none of an environment, a kind or a name; many are alike in their lowest bits to such as are.
var noNumbers = []int{
	-1, -2, -16, -512, 512, 513, 1024, 1 << 16, -1 << 16, math.MaxInt32, math.MinInt32, 1 << 32, 1<<32 + 1, -1 << 32,
	math.MaxInt, math.MaxInt - 1, math.MinInt, math.MinInt + 1,
}

// chance draws what is done.
type chance struct {
	*rand.Rand
	o *plain
}

// of tells one of some numbers.
func (r chance) of(l ...int) int { return l[r.Intn(len(l))] }

// env tells an environment, mostly one that is there.
func (r chance) env() int {
	switch r.Intn(40) {
	case 0:
		return r.of(noNumbers...)
	case 1, 2:
		return r.Intn(18)
	}
	var l []int
	for e, is := range r.o.there {
		if is {
			l = append(l, e)
		}
	}
	return r.of(append(l, 0)...)
}

// name tells a name of a kind, mostly one that the environment has.
func (r chance) name(e, kind int) int {
	switch r.Intn(60) {
	case 0:
		return r.of(noNumbers...)
	case 1:
		return r.Intn(512)
	}
	if l := slices.Sorted(maps.Keys(r.o.names(e, kind))); len(l) > 0 && r.Intn(12) > 0 {
		return r.of(l...)
	}
	return r.Intn(6)
}

// word tells a word, often one at which something may go wrong.
func (r chance) word() int {
	switch r.Intn(4) {
	case 0:
		return r.of(0, 1, 1<<31-1, 1<<31, 1<<32-1, 1<<32-2, 0xFFFF, 0x10000)
	case 1:
		return int(r.Uint32())
	}
	return r.Intn(4)
}

// pageOf tells a page, mostly one of few.
func (r chance) pageOf() int {
	if r.Intn(12) == 0 {
		return r.of(31, 30, 16)
	}
	return r.Intn(5)
}

// address tells an address in one of the pages that may be bound, or not far from these.
func (r chance) address() int {
	if r.Intn(30) == 0 {
		return r.word()
	}
	return 64*r.pageOf() + r.of(0, 4, 8, 12, 16, 32, 56, 60, 60, 60, 61, 62, 63, 1)
}

// number tells a number of a call by its letter.
func (r chance) number(letter byte, e, op int) int {
	if kind, is := kindsOf[letter]; is {
		return r.name(e, kind)
	}
	if r.Intn(120) == 0 {
		return r.of(slices.Concat(noNumbers, []int{2, 4, 16, 32, 4097})...)
	}
	switch letter {
	case 'a':
		return r.Intn(16)
	case 'g':
		return r.pageOf()
	case 't':
		return r.Intn(2)
	case 'u':
		return r.of(1, 1, 2, 3, 8, 20, 60, 4096)
	case 'k':
		return r.Intn(4)
	case 'n':
		return r.Intn(6)
	}
	if op == api.CPeek || op == api.CPoke {
		return r.address()
	}
	return r.word()
}

// wordOf tells an instruction of few registers, as far as it has them.
func (r chance) wordOf() uint32 {
	op, a, b := 1+r.Intn(24), r.Intn(4), r.Intn(4)
	if r.Intn(4) == 0 {
		op = r.of(isa.Div, isa.Store, isa.StoreB, isa.Load)
	}
	imm := r.of(0, 4, -4, 8, 1, 2, 3, -1, -2, -3, 60, 64, 128)
	if op == isa.Set {
		imm = r.address() % 32768
	}
	for _, i := range []isa.Instr{
		{Op: op, A: a, B: b, Imm: imm}, {Op: op, A: a, Imm: imm}, {Op: op, A: a, B: b}, {Op: op, Imm: imm}, {Op: op, A: a},
	} {
		if w, ok := new(isa.Table).Encode(i); ok {
			return w
		}
	}
	return 0
}

// words tells what a frame may hold: mostly instructions.
func (r chance) words() (l api.Words) {
	for k := range l {
		l[k] = r.wordOf()
		if r.Intn(30) == 0 {
			l[k] = r.Uint32()
		}
	}
	return l
}

// call tells a call of an environment.
func (r chance) call(e int) api.Call {
	c := api.Call{Op: 1 + r.Intn(40)}
	switch r.Intn(12) {
	case 0, 1:
		c.Op = api.CLay
	case 2:
		c.Op = api.CBind
	case 3, 4:
		c.Op = api.CRun
	case 5:
		c.Op = 11 + r.Intn(10)
	}
	for at := range len(letters[c.Op]) {
		c.Arg[at] = r.number(letters[c.Op][at], e, c.Op)
	}
	if c.Op == api.CHas || c.Op == api.CNext || c.Op == api.CGive {
		c.Arg[1] = r.name(e, c.Arg[0])
	}
	if c.Op == api.CLay || c.Op == api.CWrite || r.Intn(200) == 0 {
		c.Words = r.words()
	}
	if c.Op == api.CRun || r.Intn(200) == 0 {
		c.Program.PC = uint32(r.address())
		for k := range 4 {
			c.Program.Reg[k] = uint32(r.address() * r.of(0, 1, 1, 1))
		}
		if r.Intn(4) > 0 {
			c.Program.PC &^= 3
		}
	}
	if l := r.o.pages(e); len(l) > 0 && r.Intn(4) > 0 {
		r.aim(&c, l[r.Intn(len(l))])
	}
	if r.Intn(300) == 0 {
		c.Op = r.of(0, -1, 41, 256+c.Op, math.MinInt, math.MaxInt)
	}
	if r.Intn(300) == 0 {
		c.Arg[r.Intn(4)] = r.of(noNumbers...)
	}
	return c
}

// aim lays a page that is bound into a call that has to do with one.
func (r chance) aim(c *api.Call, p page) {
	switch c.Op {
	case api.CUnbind, api.CBound, api.CGuard:
		c.Arg[0], c.Arg[1] = p.space, p.n
	case api.CPeek, api.CPoke:
		c.Arg[0], c.Arg[1] = p.space, 64*p.n+4*r.Intn(16)
	case api.CRun:
		c.Arg[0], c.Program.PC = p.space, uint32(64*p.n+4*r.Intn(16))
	}
}

// other does something but a call on both: what it was, and the two answers.
func (r chance) other(p pair) (string, [2]any, [2]any) {
	e, kind := r.env(), r.of(0, 1, 2, 3, 0, 1, 2, 3, 0, 1, 2, 3, -1, 4)
	name := r.name(e, kind)
	switch r.Intn(15) {
	case 0, 1, 2, 14:
		sizes := [4]int{r.of(0, 2, 3, 4), r.of(0, 1, 2), r.of(0, 1, 2, 3), r.of(0, 1, 2)}
		if r.Intn(6) == 0 {
			sizes[r.Intn(4)] = r.of(-1, 9, 40, math.MinInt, math.MaxInt)
		}
		n, err := p.x.Enter(sizes)
		m, want := p.o.enter(sizes)
		return fmt.Sprint("Enter", sizes), [2]any{n, err}, [2]any{m, want}
	case 3, 4, 5, 12, 13:
		many := r.of(0, 1, 1, 1, 2, 2, 2, 3, -1, 40, math.MaxInt, math.MinInt)
		n, err := p.x.Grant(e, kind, many)
		m, want := p.o.grant(e, kind, many)
		return fmt.Sprint("Grant ", e, kind, many), [2]any{n, err}, [2]any{m, want}
	case 6:
		return fmt.Sprint("Revoke ", e, kind, name), [2]any{p.x.Revoke(e, kind, name)}, [2]any{p.o.revoke(e, kind, name)}
	case 7:
		if r.Intn(4) > 0 {
			return "", [2]any{}, [2]any{}
		}
		return fmt.Sprint("Leave ", e), [2]any{p.x.Leave(e)}, [2]any{p.o.leave(e)}
	case 8, 9:
		turns := r.of(1, 2, 3, 5, 100, 0, 101, -1)
		return fmt.Sprint("Ask ", e, kind, name, turns), [2]any{p.x.Ask(e, kind, name, turns)}, [2]any{p.o.ask(e, kind, name, turns)}
	case 10:
		return "Turn", [2]any{p.x.Turn()}, [2]any{p.o.turn()}
	}
	keep := make([]bool, r.Intn(8))
	for k := range keep {
		keep[k] = r.Intn(2) == 0
	}
	p.d.Crash(keep)
	p.o.settle(func(place, _ int) bool { return place < len(keep) && keep[place] }, false)
	return "Crash", [2]any{}, [2]any{}
}

// seen counts what came.
type seen map[[3]int]int

// TestChanceByPlain does much by chance, on an exo and on a plain machine.
func TestChanceByPlain(t *testing.T) {
	came := seen{}
	for seed := range int64(150) {
		r := chance{rand.New(rand.NewSource(seed)), nil}
		p := newPair(12+r.Intn(6), 5+r.Intn(3))
		r.o = p.o
		for n := range 400 {
			if r.Intn(6) == 0 || n < 3 {
				what, got, want := r.other(p)
				if got != want {
					t.Fatalf("%s: %v, not %v", what, got, want)
				}
			} else {
				e := r.env()
				c := r.call(e)
				reply := p.call(t, e, c)
				came[[3]int{c.Op, int(reply.Err), reply.Trap.Cause}]++
			}
			p.check(t)
			if n%50 == 0 {
				p.checkCalls(t)
			}
		}
		p.checkCalls(t)
		p.empty(t)
	}
	came.enough(t)
}

// enough tells whether all calls came, with all errors and traps that they may have.
func (l seen) enough(t *testing.T) {
	t.Helper()
	need := func(op int, err api.Errno, cause int) {
		if l[[3]int{op, int(err), cause}] < 5 {
			t.Errorf("call %d, error %d, trap %d came %d times alone", op, err, cause, l[[3]int{op, int(err), cause}])
		}
	}
	for op := 1; op <= 40; op++ {
		if op != api.CRun {
			need(op, api.OK, api.None)
		}
		need(op, api.EDEAD, api.None)
		if op < 33 {
			need(op, api.EPERM, api.None)
		}
	}
	for cause := api.Miss; cause <= api.Tick; cause++ {
		need(api.CRun, api.OK, cause)
	}
	for op, err := range map[int]api.Errno{
		api.CFind: api.ENOENT, api.CUnbind: api.ENOENT, api.CGuard: api.ENOENT, api.CBound: api.ENOENT, api.CNext: api.ENOENT,
		api.CWanted: api.ENOENT, api.CGive: api.ENOENT, api.CReceive: api.EAGAIN, api.CPeek: api.EFAULT, api.CPoke: api.EFAULT,
		api.CGet: api.EARG, api.CRun: api.EARG, api.CBind: api.EARG,
	} {
		need(op, err, api.None)
	}
}
