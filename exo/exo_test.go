package exo

import (
	"maps"
	"math"
	"slices"
	"testing"

	"onionskin/abort"
	"onionskin/api"
	"onionskin/asm"
	"onionskin/bind"
	"onionskin/disk"
	"onionskin/frames"
	"onionskin/names"
	"onionskin/port"
	"onionskin/tlb"
)

// picture is all that an exo has, but how often the TLB was asked.
type picture struct {
	mem      []frames.Page
	entries  []tlb.Entry
	bindings map[page]bind.Binding
	holds    []disk.Data
	lasts    []disk.Data
	waiting  []int
	ports    [32]port.Port
	envs     [16]env
	free     [4][]int
	wants    abort.List
	spent    [16]int
}

// blocksOf tells what a disk's blocks hold.
func blocksOf(d *disk.Disk) []disk.Data {
	var l []disk.Data
	for b := range d.Len() {
		data, _ := d.Read(b)
		l = append(l, data)
	}
	return l
}

// pictureOf takes a picture of an exo.
func pictureOf(x *Exo) *picture {
	p := &picture{bindings: map[page]bind.Binding{}, ports: x.ports, envs: x.envs, wants: x.wants}
	for f := range x.mem.Len() {
		words, _ := x.mem.Page(f)
		p.mem = append(p.mem, words)
	}
	p.entries, p.holds, p.waiting = x.tlb.All(), blocksOf(x.disk), x.disk.Waiting()
	after := x.disk.Twin()
	after.Crash(nil)
	p.lasts = blocksOf(after)
	for space := range 64 {
		for n := range 32 {
			if b, ok := x.bindings.Get(space, n); ok {
				p.bindings[page{space, n}] = b
			}
		}
	}
	for kind := range 4 {
		p.free[kind] = x.free[kind].All()
	}
	for e := range 16 {
		p.spent[e] = x.Spent(e)
	}
	return p
}

// is tells whether two pictures are of the same.
func (p *picture) is(q *picture) bool {
	for kind := range 4 {
		if !slices.Equal(p.free[kind], q.free[kind]) {
			return false
		}
	}
	return slices.Equal(p.mem, q.mem) && slices.Equal(p.entries, q.entries) && maps.Equal(p.bindings, q.bindings) &&
		slices.Equal(p.holds, q.holds) && slices.Equal(p.lasts, q.lasts) && slices.Equal(p.waiting, q.waiting) &&
		p.ports == q.ports && p.envs == q.envs && p.wants == q.wants && p.spent == q.spent
}

// unchanged tells whether what is done leaves an exo as it was.
func unchanged(t *testing.T, x *Exo, what func()) {
	t.Helper()
	before := pictureOf(x)
	what()
	if !pictureOf(x).is(before) {
		t.Error("something has changed")
	}
}

// newRig makes an exo of 12 frames and 8 blocks, with environments 0, of 3 frames, 2 blocks, 2 spaces and 1 port, and 1, of 4, 3, 2 and 2.
// Of 1 the names mean other numbers than they are: the frames 3 to 6, the blocks 2 to 4, the spaces 2 and 3, the ports 1 and 2.
func newRig(t *testing.T) *Exo {
	t.Helper()
	x := New(12, disk.New(8))
	enter(t, x, 0, [4]int{3, 2, 2, 1})
	enter(t, x, 1, [4]int{4, 3, 2, 2})
	return x
}

// enter makes an environment, which has to be this one.
func enter(t *testing.T, x *Exo, e int, sizes [4]int) {
	t.Helper()
	if got, err := x.Enter(sizes); got != e || err != api.OK {
		t.Fatalf("Enter(%v): %d %d, not %d", sizes, got, err, e)
	}
}

// grant gives an environment more, of which it has so many then.
func grant(t *testing.T, x *Exo, e, kind, n, want int) {
	t.Helper()
	if got, err := x.Grant(e, kind, n); got != want || err != api.OK {
		t.Fatalf("Grant(%d, %d, %d): %d %d, not %d", e, kind, n, got, err, want)
	}
}

// revoke takes names.
func revoke(t *testing.T, x *Exo, e, kind int, l ...int) {
	t.Helper()
	for _, name := range l {
		if err := x.Revoke(e, kind, name); err != api.OK {
			t.Fatalf("Revoke(%d, %d, %d): %d", e, kind, name, err)
		}
	}
}

// callOf makes a call of an Op and numbers.
func callOf(op int, args ...int) api.Call {
	c := api.Call{Op: op}
	copy(c.Arg[:], args)
	return c
}

// expect does a call, which has to answer this.
func expect(t *testing.T, x *Exo, e int, want api.Reply, op int, args ...int) {
	t.Helper()
	if got := x.Call(e, callOf(op, args...)); got != want {
		t.Errorf("call %d %v of %d: %v, not %v", op, args, e, got, want)
	}
}

// number and failed of the program make what has to be answered, too; done answers nothing.
var done = api.Reply{}

// meant tells what an environment's names mean, from 0 on; -1 is nothing.
func meant(x *Exo, e, kind int) []int {
	l := x.Names(e, kind)
	all := l.Names()
	if len(all) == 0 {
		return nil
	}
	tells := make([]int, all[len(all)-1]+1)
	for name := range tells {
		n, ok := l.Get(name)
		if !ok {
			n = -1
		}
		tells[name] = n
	}
	return tells
}

// mean tells whether an environment's names mean these, from 0 on.
func mean(t *testing.T, x *Exo, e, kind int, want ...int) {
	t.Helper()
	if got := meant(x, e, kind); !slices.Equal(got, want) {
		t.Errorf("the names of %d of kind %d: %v, not %v", e, kind, got, want)
	}
}

// row tells the numbers from one on, ahead of another one.
func row(from, to int) []int {
	var l []int
	for n := from; n < to; n++ {
		l = append(l, n)
	}
	return l
}

// Promise 18.1: a nil one has nobody, and stays so.

func TestNil(t *testing.T) {
	var x *Exo
	for range 2 {
		for _, kind := range slices.Concat([]int{0, 1, 2, 3, 4}, noNumbers) {
			if n := x.Free(kind); n != 0 {
				t.Errorf("Free(%d): %d", kind, n)
			}
			for _, e := range slices.Concat(row(0, 17), noNumbers) {
				nilAbout(t, x, e, kind)
			}
		}
		for sizes, want := range map[[4]int]api.Errno{
			{}: api.EAGAIN, {1}: api.ENOMEM, {0, 1}: api.ENOMEM, {0, 0, 1}: api.ENOMEM, {0, 0, 0, 1}: api.ENOMEM,
			{math.MaxInt}: api.ENOMEM, {-1}: api.EARG, {1, 0, 0, -1}: api.EARG, {math.MinInt}: api.EARG,
		} {
			if n, err := x.Enter(sizes); n != 0 || err != want {
				t.Errorf("Enter(%v): %d %d, not %d", sizes, n, err, want)
			}
		}
		if x.Turn() != 0 || x.Disk() != nil || x.Memory() != nil || len(x.Entries()) != 0 {
			t.Error("a nil exo has something")
		}
	}
}

// nilAbout asks a nil exo about an environment.
func nilAbout(t *testing.T, x *Exo, e, kind int) {
	t.Helper()
	n, err := x.Grant(e, kind, 0)
	if n != 0 || err != api.EDEAD || x.Revoke(e, kind, 0) != api.EDEAD || x.Leave(e) != api.EDEAD || x.Ask(e, kind, 0, 1) != api.EDEAD {
		t.Errorf("environment %d of a nil exo is there", e)
	}
	if x.Names(e, kind) != (names.Table{}) || x.Spent(e) != 0 {
		t.Errorf("environment %d of a nil exo has something", e)
	}
	for _, op := range slices.Concat(row(-1, 42), noNumbers) {
		if r := x.Call(e, callOf(op)); r != failed(api.EDEAD) {
			t.Errorf("call %d of %d of a nil exo: %v", op, e, r)
		}
	}
}

// TestZero asks of the zero exo alone that it panics nowhere, and has nothing to give.
func TestZero(t *testing.T) {
	x := &Exo{}
	for kind := range 5 {
		if n := x.Free(kind); n != 0 {
			t.Errorf("Free(%d): %d", kind, n)
		}
	}
	e, _ := x.Enter([4]int{})
	x.Enter([4]int{1})
	for op := range 42 {
		x.Call(e, callOf(op))
		x.Call(e, callOf(op, 0, 1))
	}
	x.Grant(e, 0, 1)
	x.Revoke(e, 0, 0)
	x.Ask(e, 0, 0, 1)
	x.Turn()
	x.Leave(e)
	if x.Disk() != nil || x.Memory().Len() != 0 || len(x.Entries()) != 0 {
		t.Error("the zero exo has something")
	}
}

// Promise 18.1: New.

func TestNew(t *testing.T) {
	for _, size := range []int{1, 2, 12, 255, 256} {
		for _, blocks := range []int{1, 7, 512} {
			d := disk.New(blocks)
			x := New(size, d)
			if x == nil {
				t.Fatalf("New(%d) is nil", size)
			}
			for kind, want := range []int{size, blocks, 64, 32} {
				if n := x.Free(kind); n != want {
					t.Errorf("New(%d), %d blocks: Free(%d): %d", size, blocks, kind, n)
				}
			}
			if x.Disk() != d || !frames.Others(x.Memory(), frames.New(size)) || len(x.Entries()) != 0 || x.Turn() != 0 {
				t.Errorf("New(%d), %d blocks, has something", size, blocks)
			}
			for e := range 16 {
				expect(t, x, e, failed(api.EDEAD), api.CNop)
				if x.Spent(e) != 0 {
					t.Errorf("%d spent something", e)
				}
			}
		}
	}
}

func TestNewOfNone(t *testing.T) {
	d := disk.New(3)
	for _, size := range slices.Concat([]int{0, 257, 258, 259, 4096}, noNumbers) {
		if New(size, d) != nil || New(size, nil) != nil {
			t.Errorf("New(%d) is one", size)
		}
	}
	for _, size := range []int{1, 12, 256} {
		if New(size, nil) != nil {
			t.Errorf("New(%d) without a disk is one", size)
		}
	}
}

// TestNewOfUsed makes one over a disk that was used: what it holds is there.
func TestNewOfUsed(t *testing.T) {
	d := disk.New(2)
	d.Write(0, disk.Data{1, 2, 3, 4, 5})
	d.Flush()
	d.Write(1, disk.Data{63: 9})
	x := New(1, d)
	enter(t, x, 0, [4]int{0, 2})
	expect(t, x, 0, api.Reply{Words: api.Words{0x04030201, 5}}, api.CRead, 0)
	expect(t, x, 0, api.Reply{Words: api.Words{15: 9 << 24}}, api.CRead, 1)
	expect(t, x, 0, number(0), api.CWaits, 0)
	expect(t, x, 0, number(1), api.CWaits, 1)
}

// TestTwo makes two, which have nothing in common.
func TestTwo(t *testing.T) {
	x, y := newRig(t), newRig(t)
	unchanged(t, y, func() {
		expect(t, x, 0, done, api.CPut, 0, 0, 7)
		expect(t, x, 0, done, api.CBind, 0, 0, 0, 1)
		expect(t, x, 0, done, api.CSend, 0, 7)
		expect(t, x, 0, done, api.CSave, 0, 0)
		x.Call(0, callOf(api.CRun, 0, 9))
		x.Ask(0, 0, 0, 1)
		x.Leave(1)
		x.Turn()
	})
}

// Promise 18.1: Free, Names.

func TestFreeAndNames(t *testing.T) {
	x := newRig(t)
	for kind, want := range []int{5, 3, 60, 29} {
		if n := x.Free(kind); n != want {
			t.Errorf("Free(%d): %d, not %d", kind, n, want)
		}
	}
	for _, kind := range slices.Concat([]int{4, 5, 16}, noNumbers) {
		if n := x.Free(kind); n != 0 {
			t.Errorf("Free(%d): %d", kind, n)
		}
		if x.Names(0, kind) != (names.Table{}) {
			t.Errorf("Names(0, %d) has names", kind)
		}
	}
	for kind, want := range [][]int{{3, 4, 5, 6}, {2, 3, 4}, {2, 3}, {1, 2}} {
		mean(t, x, 1, kind, want...)
		mean(t, x, 0, kind, row(0, want[0])...)
		for _, e := range slices.Concat(row(2, 18), noNumbers) {
			if x.Names(e, kind) != (names.Table{}) {
				t.Errorf("Names(%d, %d) has names", e, kind)
			}
		}
	}
}

// Promise 18.1: Enter.

// full is how much there is of each kind in an exo of 12 frames and 8 blocks.
var full = [4]int{12, 8, 64, 32}

func TestEnterOfEachKind(t *testing.T) {
	for kind, many := range full {
		for _, n := range []int{0, 1, 2, many - 1, many} {
			x := New(12, disk.New(8))
			var sizes [4]int
			sizes[kind] = n
			enter(t, x, 0, sizes)
			for k := range 4 {
				mean(t, x, 0, k, row(0, sizes[k])...)
				if x.Free(k) != full[k]-sizes[k] {
					t.Errorf("Free(%d) behind Enter(%v): %d", k, sizes, x.Free(k))
				}
			}
		}
	}
	x := New(12, disk.New(8))
	enter(t, x, 0, full)
	enter(t, x, 1, [4]int{})
	for kind, many := range full {
		mean(t, x, 0, kind, row(0, many)...)
		mean(t, x, 1, kind)
	}
}

func TestEnterOfMost(t *testing.T) {
	x := New(256, disk.New(512))
	enter(t, x, 0, [4]int{256, 512, 64, 32})
	for kind, many := range []int{256, 512, 64, 32} {
		mean(t, x, 0, kind, row(0, many)...)
	}
	expect(t, x, 0, done, api.CSave, 255, 511)
	expect(t, x, 0, number(1), api.CWaits, 511)
}

func TestEnterRefused(t *testing.T) {
	x := newRig(t)
	unchanged(t, x, func() {
		for kind, free := range []int{5, 3, 60, 29} {
			for _, n := range []int{free + 1, full[kind], full[kind] + 1, 513, 1 << 32, 1<<32 + 1, math.MaxInt} {
				var sizes [4]int
				sizes[kind] = n
				refused(t, x, sizes, api.ENOMEM)
				sizes[(kind+1)%4] = 1
				refused(t, x, sizes, api.ENOMEM)
				sizes[(kind+3)%4] = -1
				refused(t, x, sizes, api.EARG)
			}
			for _, n := range []int{-1, -2, -64, math.MinInt, math.MinInt + 1, -1 << 32} {
				var sizes [4]int
				sizes[kind] = n
				refused(t, x, sizes, api.EARG)
				sizes[(kind+1)%4] = 1
				refused(t, x, sizes, api.EARG)
				sizes[(kind+2)%4] = 65
				refused(t, x, sizes, api.EARG)
			}
		}
	})
	enter(t, x, 2, [4]int{5, 3, 60, 29})
	enter(t, x, 3, [4]int{})
}

// refused asks to enter, which has to be refused.
func refused(t *testing.T, x *Exo, sizes [4]int, want api.Errno) {
	t.Helper()
	if e, err := x.Enter(sizes); e != 0 || err != want {
		t.Errorf("Enter(%v): %d %d, not %d", sizes, e, err, want)
	}
}

func TestEnterOfAllEnvironments(t *testing.T) {
	x := New(12, disk.New(8))
	for e := range 15 {
		enter(t, x, e, [4]int{e % 2, 0, 1, 0})
	}
	enter(t, x, 15, [4]int{0, 1})
	unchanged(t, x, func() {
		refused(t, x, [4]int{}, api.EAGAIN)
		refused(t, x, [4]int{1, 1, 1, 1}, api.EAGAIN)
		refused(t, x, [4]int{5, 7, 49, 32}, api.EAGAIN)
		refused(t, x, [4]int{6}, api.ENOMEM)
		refused(t, x, [4]int{0, 8}, api.ENOMEM)
		refused(t, x, [4]int{6, 0, 0, -1}, api.EARG)
		refused(t, x, [4]int{-1}, api.EARG)
	})
	for _, e := range []int{9, 4, 15, 0} {
		if err := x.Leave(e); err != api.OK {
			t.Fatal(e, err)
		}
	}
	for _, e := range []int{0, 4, 9, 15} {
		enter(t, x, e, [4]int{})
	}
	refused(t, x, [4]int{}, api.EAGAIN)
}

// TestEnterInGaps enters where what is free has gaps.
func TestEnterInGaps(t *testing.T) {
	x := New(12, disk.New(8))
	enter(t, x, 0, [4]int{10, 8, 7, 6})
	revoke(t, x, 0, api.Frame, 8, 1, 4, 5)
	revoke(t, x, 0, api.Block, 7, 0)
	revoke(t, x, 0, api.Space, 3)
	revoke(t, x, 0, api.Port, 2, 0, 5)
	enter(t, x, 1, [4]int{3, 1, 2, 4})
	mean(t, x, 1, api.Frame, 1, 4, 5)
	mean(t, x, 1, api.Block, 0)
	mean(t, x, 1, api.Space, 3, 7)
	mean(t, x, 1, api.Port, 0, 2, 5, 6)
	mean(t, x, 0, api.Frame, 0, -1, 2, 3, -1, -1, 6, 7, -1, 9)
	enter(t, x, 2, [4]int{3, 1, 1, 1})
	mean(t, x, 2, api.Frame, 8, 10, 11)
	mean(t, x, 2, api.Block, 7)
	mean(t, x, 2, api.Space, 8)
	mean(t, x, 2, api.Port, 7)
}

// TestEnterAnew asks that an environment that is there again has nothing of what it had.
func TestEnterAnew(t *testing.T) {
	x := newRig(t)
	expect(t, x, 0, done, api.CBind, 0, 0, 0, 1)
	x.Call(0, callOf(api.CRun, 0, 1))
	if err := x.Leave(0); err != api.OK {
		t.Fatal(err)
	}
	enter(t, x, 0, [4]int{1})
	mean(t, x, 0, api.Frame, 0)
	for kind := 1; kind < 4; kind++ {
		mean(t, x, 0, kind)
	}
}

// Promise 18.1: Grant.

func TestGrant(t *testing.T) {
	for kind, free := range []int{5, 3, 60, 29} {
		had := []int{4, 3, 2, 2}[kind]
		first := full[kind] - free // all behind it are free
		for _, n := range []int{0, 1, 2, free - 1, free} {
			x := newRig(t)
			grant(t, x, 1, kind, n, had+n)
			mean(t, x, 1, kind, append(row(first-had, first), row(first, first+n)...)...)
			mean(t, x, 0, kind, row(0, first-had)...)
			for k := range 4 {
				want := []int{5, 3, 60, 29}[k]
				if k == kind {
					want -= n
				}
				if x.Free(k) != want {
					t.Errorf("Free(%d) behind Grant(1, %d, %d): %d, not %d", k, kind, n, x.Free(k), want)
				}
			}
		}
	}
}

// TestGrantInGaps grants where names, and what is free, have gaps: the least ones of both are taken.
func TestGrantInGaps(t *testing.T) {
	for kind := range 4 {
		x := New(12, disk.New(12))
		enter(t, x, 0, [4]int{5, 5, 5, 5})
		enter(t, x, 1, [4]int{5, 5, 5, 5})
		revoke(t, x, 0, kind, 3, 1)
		revoke(t, x, 1, kind, 4, 0, 2)
		mean(t, x, 1, kind, -1, 6, -1, 8)
		grant(t, x, 1, kind, 0, 2)
		mean(t, x, 1, kind, -1, 6, -1, 8)
		grant(t, x, 1, kind, 1, 3)
		mean(t, x, 1, kind, 1, 6, -1, 8)
		grant(t, x, 1, kind, 3, 6)
		mean(t, x, 1, kind, 1, 6, 3, 8, 5, 7)
		grant(t, x, 0, kind, 2, 5)
		mean(t, x, 0, kind, 0, 9, 2, 10, 4)
	}
}

func TestGrantRefused(t *testing.T) {
	x := newRig(t)
	unchanged(t, x, func() {
		for kind, free := range []int{5, 3, 60, 29} {
			for _, n := range []int{free + 1, full[kind], 513, 1 << 32, math.MaxInt} {
				grantRefused(t, x, 1, kind, n, api.ENOMEM)
				grantRefused(t, x, 2, kind, n, api.EDEAD)
			}
			for _, n := range []int{-1, -2, -64, math.MinInt, -1 << 32} {
				grantRefused(t, x, 1, kind, n, api.EARG)
				grantRefused(t, x, 15, kind, n, api.EDEAD)
			}
			for _, e := range slices.Concat([]int{2, 15, 16, 17}, noNumbers) {
				grantRefused(t, x, e, kind, 1, api.EDEAD)
				grantRefused(t, x, e, kind, 0, api.EDEAD)
			}
		}
		for _, kind := range slices.Concat([]int{4, 5, 16}, noNumbers) {
			for _, n := range []int{0, 1, 1000, -1} {
				grantRefused(t, x, 1, kind, n, api.EARG)
				grantRefused(t, x, 2, kind, n, api.EDEAD)
			}
		}
	})
}

// grantRefused asks for more, which has to be refused.
func grantRefused(t *testing.T, x *Exo, e, kind, n int, want api.Errno) {
	t.Helper()
	if got, err := x.Grant(e, kind, n); got != 0 || err != want {
		t.Errorf("Grant(%d, %d, %d): %d %d, not %d", e, kind, n, got, err, want)
	}
}

// Promise 18.2: what is given is clean.

// soil does all with what environment 1 of a rig has that can be done: each frame is written and bound, in both spaces, and has entries; each port has words; each block is written, and the first one of these lasts.
func soil(t *testing.T, x *Exo) {
	t.Helper()
	for f := range x.Names(1, api.Frame).Len() {
		expect(t, x, 1, done, api.CPut, f, f%16, 0x0D000000+f) // addi r0 ..
		expect(t, x, 1, done, api.CPut, f, 15, 0x0D00FFFF)
		for s := range x.Names(1, api.Space).Len() {
			expect(t, x, 1, done, api.CBind, s, 31-f, f, f%2)
		}
	}
	for _, space := range []int{1, 0} {
		for f := range x.Names(1, api.Frame).Len() {
			c := callOf(api.CRun, space, 1)
			c.Program.PC = uint32(64*(31-f) + 60)
			if r := x.Call(1, c); r.N != 1 {
				t.Fatal(r)
			}
		}
	}
	for p := range x.Names(1, api.Port).Len() {
		for w := range 64 {
			expect(t, x, 1, done, api.CSend, p, w+1)
		}
		expect(t, x, 1, number(1), api.CReceive, p)
	}
	for b := range x.Names(1, api.Block).Len() {
		c := callOf(api.CWrite, b)
		c.Words = api.Words{uint32(b) + 100, 5}
		if r := x.Call(1, c); r != done {
			t.Fatal(r)
		}
	}
	expect(t, x, 1, done, api.CFlush, 0)
}

// clean tells whether all that is free is clean, and whatever the TLB and the bindings name is had.
func clean(t *testing.T, x *Exo) {
	t.Helper()
	p := pictureOf(x)
	for _, f := range p.free[api.Frame] {
		if p.mem[f] != (frames.Page{}) {
			t.Errorf("frame %d is free, and holds %v", f, p.mem[f])
		}
	}
	for _, n := range p.free[api.Port] {
		if x.ports[n].Len() != 0 {
			t.Errorf("port %d is free, and %d words wait", n, x.ports[n].Len())
		}
	}
	free := func(kind, n int) bool { return slices.Contains(p.free[kind], n) }
	for at, b := range p.bindings {
		if free(api.Space, at.space) || free(api.Frame, b.Frame) {
			t.Errorf("what is free is bound: %v to %v", at, b)
		}
	}
	for _, e := range p.entries {
		if free(api.Space, e.Space) || free(api.Frame, e.Frame) {
			t.Errorf("what is free has an entry: %v", e)
		}
	}
}

func TestGivenIsClean(t *testing.T) {
	x := newRig(t)
	soil(t, x)
	if len(x.Entries()) != 8 {
		t.Fatal(x.Entries())
	}
	if err := x.Leave(1); err != api.OK {
		t.Fatal(err)
	}
	clean(t, x)
	enter(t, x, 1, [4]int{4, 3, 2, 2})
	given(t, x, 4, 2, 2)
	for b := range 3 {
		expect(t, x, 1, api.Reply{Words: api.Words{uint32(b) + 100, 5}}, api.CRead, b)
		expect(t, x, 1, number(one(b > 0).N), api.CWaits, b)
	}
}

func TestGrantedIsClean(t *testing.T) {
	x := newRig(t)
	soil(t, x)
	for kind, many := range []int{4, 3, 2, 2} {
		for name := range many {
			revoke(t, x, 1, kind, name)
			clean(t, x)
		}
	}
	for kind, many := range []int{4, 3, 2, 2} {
		grant(t, x, 1, kind, many, many)
	}
	given(t, x, 4, 2, 2)
	for b := range 3 {
		expect(t, x, 1, api.Reply{Words: api.Words{uint32(b) + 100, 5}}, api.CRead, b)
		expect(t, x, 1, number(one(b > 0).N), api.CWaits, b)
	}
}

// given tells whether environment 1 has so many frames, spaces and ports, and nothing in them.
func given(t *testing.T, x *Exo, manyFrames, spaces, ports int) {
	t.Helper()
	for f := range manyFrames {
		expect(t, x, 1, done, api.CPage, f)
		expect(t, x, 1, number(0), api.CUses, f)
	}
	for s := range spaces {
		expect(t, x, 1, number(0), api.CPages, s)
		for n := range 32 {
			expect(t, x, 1, failed(api.ENOENT), api.CBound, s, n)
			r := x.Call(1, api.Call{Op: api.CRun, Arg: [4]int{s, 1}, Program: api.Context{PC: uint32(64 * n)}})
			if r.Trap.Cause != api.Miss {
				t.Errorf("page %d of space %d: %v", n, s, r)
			}
		}
	}
	for n := range ports {
		expect(t, x, 1, number(0), api.CQueued, n)
		expect(t, x, 1, failed(api.EAGAIN), api.CReceive, n)
	}
	if len(x.Entries()) != 0 {
		t.Error(x.Entries())
	}
}

// TestGivenIsCleanedWhoeverSoiled asks that what is given is cleaned when it is given, too: here it was soiled while nobody had it.
func TestGivenIsCleanedWhoeverSoiled(t *testing.T) {
	for _, give := range []func(x *Exo){
		func(x *Exo) { x.Enter([4]int{2, 0, 1, 1}) },
		func(x *Exo) {
			x.Enter([4]int{})
			x.Grant(2, api.Frame, 2)
			x.Grant(2, api.Space, 1)
			x.Grant(2, api.Port, 1)
		},
	} {
		x := newRig(t)
		for f := 7; f < 10; f++ {
			x.mem.Put(f, 3, 9)
			x.bindings.Put(0, f, bind.Binding{Frame: f})
			x.tlb.Put(tlb.Entry{Space: 0, Page: f, Frame: f})
			x.bindings.Put(f-3, 1, bind.Binding{Frame: 1})
			x.tlb.Put(tlb.Entry{Space: f - 3, Page: 1, Frame: 1})
			x.ports[f-4].Send(7)
		}
		give(x)
		p := pictureOf(x)
		if p.mem[7] != (frames.Page{}) || p.mem[8] != (frames.Page{}) || p.mem[9] == (frames.Page{}) {
			t.Error(p.mem)
		}
		if want := []tlb.Entry{{Space: 5, Page: 1, Frame: 1}, {Space: 0, Page: 9, Frame: 9}, {Space: 6, Page: 1, Frame: 1}}; !slices.Equal(p.entries, want) {
			t.Error(p.entries)
		}
		if len(p.bindings) != 3 || p.bindings[page{0, 9}].Frame != 9 || p.bindings[page{5, 1}].Frame != 1 || p.bindings[page{6, 1}].Frame != 1 {
			t.Error(p.bindings)
		}
		if x.ports[3].Len() != 0 || x.ports[4].Len() != 1 {
			t.Error("ports")
		}
	}
}

// Promise 18.2: Revoke.

func TestRevoke(t *testing.T) {
	x := newRig(t)
	soil(t, x)
	for kind, first := range []int{3, 2, 2, 1} {
		before := x.Free(kind)
		others := pictureOf(x)
		revoke(t, x, 1, kind, 1)
		after := pictureOf(x)
		want := row(first, first+[]int{4, 3, 2, 2}[kind])
		want[1] = -1
		if want[len(want)-1] == -1 { // the last name: meant tells none behind the last one that means something
			want = want[:len(want)-1]
		}
		mean(t, x, 1, kind, want...)
		if x.Free(kind) != before+1 || !slices.Contains(after.free[kind], first+1) {
			t.Errorf("kind %d: %v is free", kind, after.free[kind])
		}
		for k := range 4 {
			if k != kind && (!slices.Equal(after.free[k], others.free[k]) || after.envs[1].names[k] != others.envs[1].names[k]) {
				t.Errorf("Revoke of kind %d has changed kind %d", kind, k)
			}
			if after.envs[0] != others.envs[0] {
				t.Errorf("Revoke has changed environment 0")
			}
		}
		unchanged(t, x, func() {
			if err := x.Revoke(1, kind, 1); err != api.ENOENT {
				t.Errorf("Revoke twice: %d", err)
			}
		})
		clean(t, x)
	}
}

// TestRevokeCleansOneAlone asks what else stays as it was.
func TestRevokeCleansOneAlone(t *testing.T) {
	x := newRig(t)
	soil(t, x)
	before := pictureOf(x)
	revoke(t, x, 1, api.Frame, 2) // frame 5: page 29 of spaces 2 and 3
	p := pictureOf(x)
	for f := range 12 {
		if f != 5 && p.mem[f] != before.mem[f] {
			t.Errorf("frame %d is %v", f, p.mem[f])
		}
	}
	if p.mem[5] != (frames.Page{}) || len(p.bindings) != 6 || len(p.entries) != 6 {
		t.Error(p.mem[5], p.bindings, p.entries)
	}
	for at, b := range p.bindings {
		if at.n == 29 || b != before.bindings[at] {
			t.Error(at, b)
		}
	}
	if !slices.Equal(p.holds, before.holds) || !slices.Equal(p.waiting, before.waiting) || p.ports != before.ports {
		t.Error("blocks or ports have changed")
	}
	revoke(t, x, 1, api.Space, 0) // space 2
	p = pictureOf(x)
	for at := range p.bindings {
		if at.space != 3 {
			t.Error(at)
		}
	}
	for _, e := range p.entries {
		if e.Space != 3 {
			t.Error(e)
		}
	}
	if len(p.bindings) != 3 || len(p.entries) != 3 {
		t.Error(p.bindings, p.entries)
	}
	revoke(t, x, 1, api.Port, 0) // port 1
	if x.ports[1].Len() != 0 || x.ports[2].Len() != 63 {
		t.Error("ports")
	}
	before = pictureOf(x)
	revoke(t, x, 1, api.Block, 0, 1, 2)
	p = pictureOf(x)
	if !slices.Equal(p.holds, before.holds) || !slices.Equal(p.lasts, before.lasts) || !slices.Equal(p.waiting, before.waiting) {
		t.Error("blocks have changed")
	}
}

func TestRevokeRefused(t *testing.T) {
	x := newRig(t)
	soil(t, x)
	unchanged(t, x, func() {
		for kind, many := range []int{4, 3, 2, 2} {
			for _, name := range slices.Concat([]int{many, many + 1, 16, 255, 256, 511}, noNumbers) {
				if err := x.Revoke(1, kind, name); err != api.ENOENT {
					t.Errorf("Revoke(1, %d, %d): %d", kind, name, err)
				}
			}
			for _, e := range slices.Concat(row(2, 18), noNumbers) {
				if err := x.Revoke(e, kind, 0); err != api.EDEAD {
					t.Errorf("Revoke(%d, %d, 0): %d", e, kind, err)
				}
			}
		}
		for _, kind := range slices.Concat([]int{4, 5, 16}, noNumbers) {
			for _, name := range []int{0, 1, 600, -1} {
				if err := x.Revoke(1, kind, name); err != api.EARG {
					t.Errorf("Revoke(1, %d, %d): %d", kind, name, err)
				}
				if err := x.Revoke(2, kind, name); err != api.EDEAD {
					t.Errorf("Revoke(2, %d, %d): %d", kind, name, err)
				}
			}
		}
	})
}

// TestRevokeOfWanted asks that what is revoked is wanted no more: neither told by Wanted, nor taken, when the name means something anew.
func TestRevokeOfWanted(t *testing.T) {
	for kind := range 4 {
		for _, give := range []func(x *Exo) api.Errno{
			func(x *Exo) api.Errno { return x.Revoke(1, kind, 0) },
			func(x *Exo) api.Errno { return x.Call(1, callOf(api.CGive, kind, 0)).Err },
		} {
			x := newRig(t)
			ask(t, x, 1, kind, 0, 2)
			ask(t, x, 1, kind, 1, 3)
			ask(t, x, 0, kind, 0, 3)
			ask(t, x, 1, (kind+1)%4, 0, 3)
			if err := give(x); err != api.OK {
				t.Fatal(err)
			}
			expect(t, x, 1, number(1), api.CWanted, kind)
			grant(t, x, 1, kind, 1, []int{4, 3, 2, 2}[kind])
			turns(t, x, 0, 0, 3, 0)
			expect(t, x, 1, number(1), api.CHas, kind, 0)
			expect(t, x, 1, number(0), api.CHas, kind, 1)
			expect(t, x, 0, number(0), api.CHas, kind, 0)
			expect(t, x, 1, number(0), api.CHas, (kind+1)%4, 0)
		}
	}
}

// ask wants a name back.
func ask(t *testing.T, x *Exo, e, kind, name, turns int) {
	t.Helper()
	if err := x.Ask(e, kind, name, turns); err != api.OK {
		t.Fatalf("Ask(%d, %d, %d, %d): %d", e, kind, name, turns, err)
	}
}

// turns lets turns go by, of which each has to take so much.
func turns(t *testing.T, x *Exo, want ...int) {
	t.Helper()
	for k, w := range want {
		if n := x.Turn(); n != w {
			t.Errorf("turn %d took %d, not %d", k+1, n, w)
		}
	}
}

// Promise 18.2: Leave.

func TestLeave(t *testing.T) {
	x := newRig(t)
	soil(t, x)
	grant(t, x, 0, api.Frame, 1, 4) // frame 7
	expect(t, x, 0, done, api.CPut, 3, 0, 7)
	expect(t, x, 0, done, api.CBind, 1, 5, 3, 1)
	expect(t, x, 0, done, api.CSend, 0, 77)
	x.Call(0, api.Call{Op: api.CRun, Arg: [4]int{1, 1}, Program: api.Context{PC: 5*64 + 4}})
	for kind := range 4 {
		ask(t, x, 1, kind, 0, 1)
		ask(t, x, 0, kind, 0, 2)
	}
	before := pictureOf(x)
	if before.spent[1] != 8 || len(before.bindings) != 9 {
		t.Fatal(before.spent, before.bindings)
	}
	if err := x.Leave(1); err != api.OK {
		t.Fatal(err)
	}
	p := pictureOf(x)
	if p.envs[1] != (env{}) || p.envs[0] != before.envs[0] || p.spent != [16]int{} || x.Spent(1) != 0 {
		t.Error("somebody is there, or has spent something")
	}
	for kind, first := range []int{8, 5, 4, 3} {
		want := append(row(first-[]int{5, 3, 2, 2}[kind], first), row(first, full[kind])...)
		if kind == api.Frame {
			want = append(row(3, 7), row(8, 12)...)
		}
		if !slices.Equal(p.free[kind], want) {
			t.Errorf("kind %d: %v is free, not %v", kind, p.free[kind], want)
		}
	}
	if len(p.bindings) != 1 || p.bindings[page{1, 5}] != (bind.Binding{Frame: 7, Write: true}) {
		t.Error(p.bindings)
	}
	if want := []tlb.Entry{{Space: 1, Page: 5, Frame: 7, Write: true}}; !slices.Equal(p.entries, want) {
		t.Error(p.entries)
	}
	if p.mem[7][0] != 7 || x.ports[0].Len() != 1 || !slices.Equal(p.holds, before.holds) || !slices.Equal(p.waiting, before.waiting) {
		t.Error("what others have has changed")
	}
	clean(t, x)
	unchanged(t, x, func() {
		for _, e := range slices.Concat(row(1, 18), noNumbers) {
			if err := x.Leave(e); err != api.EDEAD {
				t.Errorf("Leave(%d): %d", e, err)
			}
		}
	})
	enter(t, x, 1, [4]int{1, 1, 1, 1})
	for kind := range 4 {
		expect(t, x, 1, failed(api.ENOENT), api.CWanted, kind)
	}
	turns(t, x, 0, 4)
	for kind := range 4 {
		expect(t, x, 1, number(1), api.CCount, kind)
		expect(t, x, 0, number(0), api.CHas, kind, 0)
	}
}

// Promise 18.2: Ask, Turn.

func TestAsk(t *testing.T) {
	x := newRig(t)
	for kind := range 4 {
		expect(t, x, 1, failed(api.ENOENT), api.CWanted, kind)
		ask(t, x, 1, kind, 1, 100)
		expect(t, x, 1, number(1), api.CWanted, kind)
		expect(t, x, 0, failed(api.ENOENT), api.CWanted, kind)
		ask(t, x, 1, kind, 0, 1)
		expect(t, x, 1, number(0), api.CWanted, kind)
	}
	unchanged(t, x, func() {
		for kind, many := range []int{4, 3, 2, 2} {
			for _, e := range slices.Concat(row(2, 18), noNumbers) {
				askRefused(t, x, e, kind, 0, 5, api.EDEAD)
				askRefused(t, x, e, 4, -1, 0, api.EDEAD)
			}
			for _, name := range slices.Concat([]int{many, 511}, noNumbers) {
				askRefused(t, x, 1, kind, name, 5, api.ENOENT)
				askRefused(t, x, 1, kind, name, 0, api.ENOENT)
			}
			for _, turns := range slices.Concat([]int{0, 101, 102, 256, 257}, noNumbers) {
				askRefused(t, x, 1, kind, 0, turns, api.EARG) // though it is wanted already
				askRefused(t, x, 0, kind, 0, turns, api.EARG)
			}
			askRefused(t, x, 1, kind, 0, 5, api.EEXIST)
			askRefused(t, x, 1, kind, 1, 100, api.EEXIST)
		}
		for _, kind := range slices.Concat([]int{4, 5, 16}, noNumbers) {
			askRefused(t, x, 1, kind, 0, 5, api.ENOENT)
			askRefused(t, x, 1, kind, 0, 0, api.ENOENT)
		}
	})
}

// askRefused wants a name back, which has to be refused.
func askRefused(t *testing.T, x *Exo, e, kind, name, turns int, want api.Errno) {
	t.Helper()
	if err := x.Ask(e, kind, name, turns); err != want {
		t.Errorf("Ask(%d, %d, %d, %d): %d, not %d", e, kind, name, turns, err, want)
	}
}

func TestAskOfMost(t *testing.T) {
	x := New(256, disk.New(512))
	enter(t, x, 0, [4]int{0, 40})
	enter(t, x, 1, [4]int{30, 30})
	for name := range 40 {
		ask(t, x, 0, api.Block, name, 2)
	}
	for name := range 24 {
		ask(t, x, 1, api.Frame, name, 2)
	}
	unchanged(t, x, func() {
		askRefused(t, x, 1, api.Frame, 24, 2, api.EAGAIN)
		askRefused(t, x, 1, api.Block, 0, 2, api.EAGAIN)
		askRefused(t, x, 1, api.Frame, 0, 2, api.EEXIST)
		askRefused(t, x, 1, api.Frame, 24, 0, api.EARG)
		askRefused(t, x, 1, api.Frame, 30, 2, api.ENOENT)
		askRefused(t, x, 2, api.Frame, 24, 2, api.EDEAD)
	})
	revoke(t, x, 0, api.Block, 39)
	ask(t, x, 1, api.Frame, 24, 1)
	turns(t, x, 1, 63, 0)
	expect(t, x, 0, number(0), api.CCount, api.Block)
	expect(t, x, 1, number(5), api.CCount, api.Frame)
	expect(t, x, 1, number(30), api.CCount, api.Block)
}

// TestTurn asks that what is wanted is taken in just the turn that was said, once.
func TestTurn(t *testing.T) {
	x := newRig(t)
	soil(t, x)
	unchanged(t, x, func() { turns(t, x, 0, 0) })
	ask(t, x, 1, api.Frame, 0, 1)
	ask(t, x, 1, api.Frame, 3, 3)
	ask(t, x, 0, api.Frame, 1, 3)
	ask(t, x, 1, api.Space, 1, 3)
	ask(t, x, 1, api.Block, 2, 4)
	turns(t, x, 1)
	mean(t, x, 1, api.Frame, -1, 4, 5, 6)
	clean(t, x)
	ask(t, x, 0, api.Port, 0, 2)
	turns(t, x, 0)
	mean(t, x, 1, api.Frame, -1, 4, 5, 6)
	grant(t, x, 1, api.Frame, 1, 4) // name 0 again: what was taken is wanted no more
	turns(t, x, 4)
	mean(t, x, 1, api.Frame, 3, 4, 5)
	mean(t, x, 0, api.Frame, 0, -1, 2)
	mean(t, x, 1, api.Space, 2)
	mean(t, x, 0, api.Port)
	mean(t, x, 1, api.Block, 2, 3, 4)
	clean(t, x)
	turns(t, x, 1, 0, 0)
	mean(t, x, 1, api.Block, 2, 3)
	for kind := range 4 {
		expect(t, x, 1, failed(api.ENOENT), api.CWanted, kind)
	}
}

func TestTurnOfMostPatience(t *testing.T) {
	x := newRig(t)
	ask(t, x, 1, api.Frame, 1, 100)
	for range 99 {
		turns(t, x, 0)
	}
	expect(t, x, 1, number(1), api.CHas, api.Frame, 1)
	expect(t, x, 1, number(1), api.CWanted, api.Frame)
	turns(t, x, 1)
	expect(t, x, 1, number(0), api.CHas, api.Frame, 1)
	turns(t, x, 0)
}

// Promise 18.5: Disk, Memory, Entries.

func TestDisk(t *testing.T) {
	d := disk.New(8)
	x := New(12, d)
	enter(t, x, 0, [4]int{1, 4})
	if x.Disk() != d {
		t.Fatal("another disk")
	}
	expect(t, x, 0, done, api.CPut, 0, 0, 0x01020304)
	expect(t, x, 0, done, api.CSave, 0, 3)
	if b, _ := d.Read(3); b != (disk.Data{4, 3, 2, 1}) || !slices.Equal(d.Waiting(), []int{3}) {
		t.Error(b)
	}
	d.Write(2, disk.Data{1})
	expect(t, x, 0, number(1), api.CWaits, 2)
	expect(t, x, 0, api.Reply{Words: api.Words{1}}, api.CRead, 2)
	x.Disk().Crash([]bool{false, true})
	expect(t, x, 0, number(0), api.CWaits, 2)
	expect(t, x, 0, done, api.CRead, 3)
	expect(t, x, 0, api.Reply{Words: api.Words{1}}, api.CRead, 2)
}

func TestMemory(t *testing.T) {
	x := newRig(t)
	expect(t, x, 1, done, api.CPut, 2, 9, 1<<32-1)
	was := x.Memory()
	if w, ok := was.Get(5, 9); w != 1<<32-1 || !ok || was.Len() != 12 {
		t.Error(w, ok, was.Len())
	}
	unchanged(t, x, func() {
		for f := range 12 {
			was.Lay(f, frames.Page{1, 2, 3})
		}
	})
	was = x.Memory()
	expect(t, x, 1, done, api.CPut, 2, 9, 5)
	if w, _ := was.Get(5, 9); w != 1<<32-1 {
		t.Error("a memory that was told has changed")
	}
	if w, _ := x.Memory().Get(5, 9); w != 5 {
		t.Error(w)
	}
}

func TestEntries(t *testing.T) {
	x := newRig(t)
	if l := x.Entries(); len(l) != 0 {
		t.Error(l)
	}
	soil(t, x)
	want := []tlb.Entry{
		{Space: 3, Page: 31, Frame: 3, Write: false}, {Space: 3, Page: 30, Frame: 4, Write: true},
		{Space: 3, Page: 29, Frame: 5, Write: false}, {Space: 3, Page: 28, Frame: 6, Write: true},
		{Space: 2, Page: 31, Frame: 3, Write: false}, {Space: 2, Page: 30, Frame: 4, Write: true},
		{Space: 2, Page: 29, Frame: 5, Write: false}, {Space: 2, Page: 28, Frame: 6, Write: true},
	}
	l := x.Entries()
	if !slices.Equal(l, want) {
		t.Error(l)
	}
	unchanged(t, x, func() {
		clear(l[:cap(l)])
		_ = append(l[:0], tlb.Entry{Page: 1})
	})
	kept := x.Entries()
	if err := x.Leave(1); err != api.OK || !slices.Equal(kept, want) || len(x.Entries()) != 0 {
		t.Error(err, kept, x.Entries())
	}
}

// lay lays a program into a frame.
func lay(t *testing.T, x *Exo, e, frame int, text string) {
	t.Helper()
	l, line, err := asm.Read(text)
	if err != api.OK || len(l) > 16 {
		t.Fatal(line, err)
	}
	c := callOf(api.CLay, frame)
	copy(c.Words[:], l)
	if r := x.Call(e, c); r != done {
		t.Fatal(r)
	}
}

// Promise 18.6.

// TestConfined lets environment 1 make many calls, which may change nothing of what 0 has, nor what is free.
func TestConfined(t *testing.T) {
	x := newRig(t)
	soil(t, x)
	for f := range 3 {
		expect(t, x, 0, done, api.CPut, f, 1, 70+f)
		expect(t, x, 0, done, api.CBind, f%2, f, f, 1)
	}
	expect(t, x, 0, done, api.CSave, 0, 1)
	expect(t, x, 0, done, api.CSend, 0, 5)
	mine := func(at page) bool { return at.space == 2 || at.space == 3 }
	for op := 1; op <= 40; op++ {
		if op == api.CRun { // a program that stores to one page after the other one
			lay(t, x, 1, 0, "l: store r1 r1 32\naddi r1 64\njmp l")
			for n := range 8 {
				expect(t, x, 1, done, api.CBind, n%2, n/2, n/2, 1)
			}
		}
		for _, a := range []int{0, 1, 2, 3, 4, 7, 30} {
			for _, b := range []int{0, 1, 2, 3, 4, 28, 64, 31 * 64} {
				before := pictureOf(x)
				x.Call(1, callOf(op, a, b))
				x.Call(1, callOf(op, a, b, 1))
				x.Call(1, callOf(op, a, b, b, 1))
				p := pictureOf(x)
				for f := range 12 {
					if (f < 3 || f > 6) && p.mem[f] != before.mem[f] {
						t.Fatalf("call %d %d %d: frame %d", op, a, b, f)
					}
				}
				for n := range 8 {
					if (n < 2 || n > 4) && (p.holds[n] != before.holds[n] || p.lasts[n] != before.lasts[n]) {
						t.Fatalf("call %d %d %d: block %d", op, a, b, n)
					}
				}
				for n := range 32 {
					if n != 1 && n != 2 && p.ports[n] != before.ports[n] {
						t.Fatalf("call %d %d %d: port %d", op, a, b, n)
					}
				}
				maps.DeleteFunc(p.bindings, func(at page, _ bind.Binding) bool { return mine(at) })
				maps.DeleteFunc(before.bindings, func(at page, _ bind.Binding) bool { return mine(at) })
				if !maps.Equal(p.bindings, before.bindings) || p.envs[0] != before.envs[0] || p.spent[0] != before.spent[0] {
					t.Fatalf("call %d %d %d: bindings, or environment 0", op, a, b)
				}
			}
		}
	}
	if n := x.Spent(1); n < 90 {
		t.Errorf("%d steps alone", n)
	}
}

// TestNothingIsHadTwice gives and takes, and asks each time that each thing is free, or had once.
func TestNothingIsHadTwice(t *testing.T) {
	x := New(12, disk.New(8))
	check := func() {
		t.Helper()
		for kind, many := range full {
			var all []int
			for e := range 16 {
				all = append(all, x.Names(e, kind).Meant().All()...)
			}
			free := x.free[kind].All()
			if len(free) != x.Free(kind) {
				t.Fatalf("kind %d: %d are free, %d are told", kind, len(free), x.Free(kind))
			}
			all = append(all, free...)
			slices.Sort(all)
			if !slices.Equal(all, row(0, many)) {
				t.Fatalf("kind %d: %v", kind, all)
			}
		}
	}
	check()
	for n := range 300 {
		e, kind := n*7%5, n*3%4
		switch n % 6 {
		case 0:
			x.Enter([4]int{n % 4, n % 3, n % 5, n % 2})
		case 1, 2:
			x.Grant(e, kind, n%3)
		case 3:
			x.Revoke(e, kind, n%4)
		case 4:
			x.Call(e, callOf(api.CGive, kind, n%5))
		case 5:
			if n%4 == 0 {
				x.Leave(e)
			}
		}
		check()
	}
}
