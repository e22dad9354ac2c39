package disk

import (
	"fmt"
	"math"
	"math/rand"
	"slices"
	"testing"

	"onionskin/api"
)

// model is what a disk shall be: what lasts, by block (zero data, where it names none), and all writes since, which are done anew each time somebody asks.
type model struct {
	n     int
	lasts map[int]Data
	waits []waits
}

type waits struct {
	block int
	x     Data
}

func newModel(n int) *model { return &model{n: n, lasts: map[int]Data{}} }

// read tells what Read shall answer of a block that there is.
func (o *model) read(block int) Data {
	x := o.lasts[block]
	for _, w := range o.waits {
		if w.block == block {
			x = w.x
		}
	}
	return x
}

func (o *model) write(block int, x Data) { o.waits = append(o.waits, waits{block, x}) }

// waiting tells what Waiting shall answer.
func (o *model) waiting() []int {
	var l []int
	for _, w := range o.waits {
		l = append(l, w.block)
	}
	return l
}

// crash tells what Crash shall answer.
func (o *model) crash(keep []bool) int {
	n := 0
	for place, w := range o.waits {
		if place < len(keep) && keep[place] {
			o.lasts[w.block] = w.x
			n++
		}
	}
	o.waits = nil
	return n
}

// settle tells what Settle shall answer, by crashing with those alone that are meant.
func (o *model) settle(mine func(int) bool) int {
	var keep []bool
	var others []waits
	for _, w := range o.waits {
		keep = append(keep, mine(w.block))
		if !mine(w.block) {
			others = append(others, w)
		}
	}
	n := o.crash(keep)
	o.waits = others
	return n
}

// flush settles all.
func (o *model) flush() {
	o.settle(func(int) bool { return true })
}

// twin tells a model that goes on by itself.
func (o *model) twin() *model {
	t := newModel(o.n)
	for block, x := range o.lasts {
		t.lasts[block] = x
	}
	t.waits = append(t.waits, o.waits...)
	return t
}

// check holds a disk against its model: its blocks, what waits and, by twins, what any of some crashes leaves.
func check(t *testing.T, d *Disk, o *model) {
	t.Helper()
	if d.Len() != o.n {
		t.Fatalf("Len: %d, want %d", d.Len(), o.n)
	}
	checkBlocks(t, d, o)
	if l := d.Waiting(); !slices.Equal(l, o.waiting()) {
		t.Fatalf("Waiting: %v, want %v", l, o.waiting())
	}
	e := d.Twin()
	e.Crash(nil)
	p := o.twin()
	p.crash(nil)
	checkBlocks(t, e, p)
}

// checkBlocks holds what Read tells against a model.
func checkBlocks(t *testing.T, d *Disk, o *model) {
	t.Helper()
	for block := range o.n {
		holds(t, d, block, o.read(block))
	}
}

// holds asks a disk for a block that there is.
func holds(t *testing.T, d *Disk, block int, want Data) {
	t.Helper()
	if x, ok := d.Read(block); x != want || !ok {
		t.Fatalf("Read(%d): %v %v, want %v true", block, x, ok, want)
	}
}

// waitFor asks a disk for what waits.
func waitFor(t *testing.T, d *Disk, want ...int) {
	t.Helper()
	if l := d.Waiting(); !slices.Equal(l, want) {
		t.Fatalf("Waiting: %v, want %v", l, want)
	}
}

// data tells data that begin with b, and go on by three, so that no two of them, nor two neighbours in one, are alike.
func data(b int) (x Data) {
	for at := range x {
		x[at] = byte(b + 3*at)
	}
	x[0], x[63] = byte(b), byte(b>>8)
	return x
}

// put writes to a disk and its model.
func put(t *testing.T, d *Disk, o *model, block int, x Data) {
	t.Helper()
	if !d.Write(block, x) {
		t.Fatalf("Write(%d): false", block)
	}
	o.write(block, x)
}

// numbered tells a disk of n blocks, all of which last and hold other data, and its model.
func numbered(t *testing.T, n int) (*Disk, *model) {
	t.Helper()
	d, o := New(n), newModel(n)
	for block := range n {
		put(t, d, o, block, data(block+1))
	}
	d.Flush()
	o.flush()
	check(t, d, o)
	return d, o
}

// writing tells a disk of n blocks, as numbered does, where writes wait for some blocks, and its model.
func writing(t *testing.T, n int, blocks ...int) (*Disk, *model) {
	t.Helper()
	d, o := numbered(t, n)
	for i, block := range blocks {
		put(t, d, o, block, data(1000+i))
	}
	check(t, d, o)
	return d, o
}

// noBlocks are numbers of no block of a disk of n; some of them are one's in their lowest bits.
func noBlocks(n int) []int {
	return []int{
		-1, -2, -n, -n - 1, -512, n, n + 1, 512, 513, 1 << 16, 1 << 32, 1<<32 + 1, -1 << 32, 1 << 58,
		math.MaxInt, math.MaxInt - 1, math.MinInt, math.MinInt + 1,
	}
}

// subset tells the places of n whose bit is set.
func subset(bits, n int) []bool {
	keep := make([]bool, n)
	for place := range keep {
		keep[place] = bits>>place&1 == 1
	}
	return keep
}

// all and none are what Settle may be handed.
func all(int) bool  { return true }
func none(int) bool { return false }

// Promise 8.1.

func TestDataIsOfBlockBytes(t *testing.T) {
	var x [64]byte = Data{}
	if len(x) != api.BlockBytes {
		t.Errorf("data of %d bytes, want %d", len(x), api.BlockBytes)
	}
}

func TestNew(t *testing.T) {
	for _, n := range []int{0, -1, -2, -512, 513, 514, 1024, 1 << 16, 1 << 32, 1<<32 + 1, math.MaxInt, math.MinInt, math.MinInt + 1} {
		d := New(n)
		if d != nil {
			t.Errorf("New(%d): not nil", n)
		}
		if d.Len() != 0 {
			t.Errorf("New(%d), Len: %d, want 0", n, d.Len())
		}
	}
	for n := 1; n <= 512; n++ {
		d := New(n)
		if d == nil {
			t.Fatalf("New(%d): nil", n)
		}
		if d.Len() != n {
			t.Fatalf("New(%d), Len: %d", n, d.Len())
		}
		if n < 9 || n > 509 {
			check(t, d, newModel(n))
		}
	}
	if api.MaxBlocks != 512 {
		t.Errorf("MaxBlocks: %d", api.MaxBlocks)
	}
}

func TestDisksAreApart(t *testing.T) {
	a, o := writing(t, 3, 1, 2)
	b := New(3)
	check(t, b, newModel(3))
	b.Write(1, data(5))
	b.Flush()
	check(t, a, o)
}

func TestWriteAndRead(t *testing.T) {
	for _, n := range []int{1, 2, 511, 512} {
		d, o := numbered(t, n)
		for i, block := range []int{0, n - 1, n / 2} {
			put(t, d, o, block, data(2000+i))
			check(t, d, o)
		}
		if d.Len() != n {
			t.Errorf("New(%d), Write, Len: %d", n, d.Len())
		}
	}
}

func TestNoSuchBlock(t *testing.T) {
	for _, n := range []int{1, 2, 5, 511, 512} {
		d, o := writing(t, n, 0, n-1, 0)
		for _, block := range noBlocks(n) {
			if 0 <= block && block < n {
				continue
			}
			refuses(t, d, block)
		}
		check(t, d, o)
		d.Flush()
		refuses(t, d, -1)
		refuses(t, d, n)
		waitFor(t, d)
	}
}

// refuses asks a disk for a block that there is not.
func refuses(t *testing.T, d *Disk, block int) {
	t.Helper()
	was := d.Waiting()
	if x, ok := d.Read(block); x != (Data{}) || ok {
		t.Errorf("Read(%d): %v %v, want the zero data and false", block, x, ok)
	}
	if d.Write(block, data(9)) {
		t.Errorf("Write(%d): true", block)
	}
	if x, ok := d.Read(block); x != (Data{}) || ok {
		t.Errorf("Write(%d), Read(%d): %v %v, want the zero data and false", block, block, x, ok)
	}
	waitFor(t, d, was...)
}

func TestReadOfOneWrite(t *testing.T) {
	d, a := New(3), data(7)
	if !d.Write(1, a) {
		t.Fatal("Write(1): false")
	}
	for range 2 {
		holds(t, d, 0, Data{})
		holds(t, d, 1, a)
		holds(t, d, 2, Data{})
		d.Flush()
	}
}

func TestReadOfSeveralWrites(t *testing.T) {
	d := New(2)
	for i := range 5 {
		if !d.Write(1, data(i+1)) {
			t.Fatal("Write(1): false")
		}
		holds(t, d, 1, data(i+1))
		holds(t, d, 0, Data{})
	}
	d.Flush()
	holds(t, d, 1, data(5))
	d.Write(1, data(6))
	holds(t, d, 1, data(6))
	d.Write(1, data(7))
	d.Write(0, data(8))
	holds(t, d, 1, data(7))
	d.Flush()
	holds(t, d, 1, data(7))
	holds(t, d, 0, data(8))
	d.Write(1, Data{})
	holds(t, d, 1, Data{})
	d.Flush()
	holds(t, d, 1, Data{})
}

func TestEachByteStays(t *testing.T) {
	d := New(1)
	for at := range 64 {
		for _, b := range []byte{1, 128, 255} {
			var x Data
			x[at] = b
			d.Write(0, x)
			holds(t, d, 0, x)
			d.Flush()
			holds(t, d, 0, x)
		}
	}
}

func TestFlush(t *testing.T) {
	for _, blocks := range [][]int{nil, {0}, {3}, {1, 1}, {1, 2, 1}, {3, 2, 1, 0}, {0, 0, 0, 3, 3, 0}} {
		d, o := writing(t, 4, blocks...)
		for range 2 {
			d.Flush()
			o.flush()
			check(t, d, o)
			waitFor(t, d)
		}
	}
}

func TestWaiting(t *testing.T) {
	d, o := New(5), newModel(5)
	waitFor(t, d)
	var want []int
	for i, block := range []int{4, 0, 4, 4, 2, 0, 0, 3} {
		put(t, d, o, block, data(i+1))
		want = append(want, block)
		waitFor(t, d, want...)
	}
	d.Read(4)
	waitFor(t, d, want...)
	d.Flush()
	waitFor(t, d)
	d.Write(2, data(2)) // the same as lasts there: it waits none the less
	d.Write(2, data(2))
	waitFor(t, d, 2, 2)
}

func TestWaitingIsTheAskersOwn(t *testing.T) {
	d, o := writing(t, 4, 3, 1, 3)
	l, m := d.Waiting(), d.Waiting()
	l[0], l[1] = 2, -5
	l = append(l[:1], 0, 0, 0)
	if !slices.Equal(m, []int{3, 1, 3}) || l[0] != 2 {
		t.Errorf("another answer was changed: %v", m)
	}
	check(t, d, o)
	put(t, d, o, 0, data(4))
	d.Flush()
	if !slices.Equal(m, []int{3, 1, 3}) {
		t.Errorf("an answer was changed by the disk: %v", m)
	}
	o.flush()
	check(t, d, o)
}

func TestDataAreHandedOnAsValues(t *testing.T) {
	d, x := New(2), data(3)
	d.Write(1, x)
	x[5]++
	holds(t, d, 1, data(3))
	for range 2 {
		y, _ := d.Read(1)
		y[6]++
		holds(t, d, 1, data(3))
		d.Flush()
	}
}

func TestManyWrites(t *testing.T) {
	d, o := New(512), newModel(512)
	for i := range 5000 {
		put(t, d, o, i*i%512, data(i))
	}
	check(t, d, o)
	d.Flush()
	o.flush()
	check(t, d, o)
}

// Promise 8.2.

func TestExample(t *testing.T) {
	a, b, c := data(1), data(2), data(3)
	d := New(2)
	d.Write(0, a)
	d.Flush()
	d.Write(0, b)
	d.Write(1, c)
	if n := d.Crash([]bool{false, true}); n != 1 {
		t.Errorf("Crash: %d, want 1", n)
	}
	holds(t, d, 0, a)
	holds(t, d, 1, c)
	waitFor(t, d)
}

func TestExampleOfTheWhole(t *testing.T) {
	d := New(1)
	d.Write(0, data(1))
	d.Flush()
	d.Write(0, data(2))
	if n := d.Crash([]bool{false}); n != 0 {
		t.Errorf("Crash: %d, want 0", n)
	}
	holds(t, d, 0, data(1))
}

func TestCrashKeepsEverySubset(t *testing.T) {
	for _, blocks := range [][]int{nil, {0}, {2, 2}, {0, 1, 2}, {1, 2, 1, 1}, {2, 0, 2, 1, 0}} {
		for bits := range 1 << len(blocks) {
			d, o := writing(t, 3, blocks...)
			keep := subset(bits, len(blocks))
			crashes(t, d, o, keep)
		}
	}
}

// crashes lets a disk and its model crash, and holds them against each other: also behind one crash more, as nothing waits.
func crashes(t *testing.T, d *Disk, o *model, keep []bool) {
	t.Helper()
	was := slices.Clone(keep)
	n, want := d.Crash(keep), o.crash(keep)
	if n != want {
		t.Fatalf("Crash(%v): %d, want %d", keep, n, want)
	}
	if !slices.Equal(keep, was) {
		t.Fatalf("Crash changed what it was handed: %v, was %v", keep, was)
	}
	check(t, d, o)
	waitFor(t, d)
	if n := d.Crash([]bool{true, true, true}); n != 0 {
		t.Fatalf("Crash where nothing waits: %d, want 0", n)
	}
	check(t, d, o)
}

func TestCrashOfTwoWritesOfOneBlock(t *testing.T) {
	for _, c := range []struct {
		keep []bool
		n    int
		x    Data
	}{
		{[]bool{false, false}, 0, data(1)},
		{[]bool{true, false}, 1, data(2)},
		{[]bool{false, true}, 1, data(3)},
		{[]bool{true, true}, 2, data(3)},
	} {
		d := New(2)
		d.Write(1, data(1))
		d.Flush()
		d.Write(1, data(2))
		d.Write(1, data(3))
		holds(t, d, 1, data(3))
		if n := d.Crash(c.keep); n != c.n {
			t.Errorf("Crash(%v): %d, want %d", c.keep, n, c.n)
		}
		holds(t, d, 1, c.x)
		holds(t, d, 0, Data{})
		waitFor(t, d)
	}
}

func TestCrashOfListsOfOtherLengths(t *testing.T) {
	for _, keep := range [][]bool{
		nil, {}, {true}, {false}, {true, true}, {false, true}, {false, false},
		{true, true, true, true}, {false, false, false, true}, {false, true, false, true, true, true}, make([]bool, 1000),
	} {
		d, o := writing(t, 4, 2, 0, 2)
		crashes(t, d, o, keep)
	}
	d, o := writing(t, 4, 2, 0, 2)
	long := slices.Repeat([]bool{true}, 1000)
	if n := d.Twin().Crash(long); n != 3 {
		t.Errorf("Crash of 1000 kept, where three wait: %d", n)
	}
	crashes(t, d, o, long)
	d, o = writing(t, 4)
	crashes(t, d, o, long)
}

func TestCrashReadsNothingBehindTheEnd(t *testing.T) {
	d, o := writing(t, 4, 2, 0, 2)
	keep := []bool{false, true, true}
	if n := d.Twin().Crash(keep[:1]); n != 0 {
		t.Errorf("Crash of one that is not kept: %d", n)
	}
	crashes(t, d, o, keep[:1])
	if !slices.Equal(keep, []bool{false, true, true}) {
		t.Errorf("what lies behind the end was changed: %v", keep)
	}
}

func TestCrashAndOn(t *testing.T) {
	d, o := writing(t, 3, 0, 1, 2)
	crashes(t, d, o, []bool{false, true})
	put(t, d, o, 0, data(50))
	put(t, d, o, 1, data(51))
	check(t, d, o)
	waitFor(t, d, 0, 1)
	crashes(t, d, o, []bool{true})
}

// changes are what may be done to a disk of 4 blocks, where writes wait for 2, 0 and 2, by their names.
func changes() map[string]func(*Disk) {
	return map[string]func(*Disk){
		"Write":         func(d *Disk) { d.Write(0, data(77)) },
		"several":       func(d *Disk) { d.Write(3, data(77)); d.Write(2, data(78)); d.Write(1, data(79)) },
		"Flush":         func(d *Disk) { d.Flush() },
		"Crash of none": func(d *Disk) { d.Crash(nil) },
		"Crash of some": func(d *Disk) { d.Crash([]bool{true, false, true}) },
		"Settle":        func(d *Disk) { d.Settle(func(block int) bool { return block == 2 }) },
		"over and over": func(d *Disk) { d.Flush(); d.Write(0, data(77)); d.Flush(); d.Write(2, data(78)) },
	}
}

func TestTwinIsTheSameAndGoesOnByItself(t *testing.T) {
	for name, change := range changes() {
		t.Run(name, func(t *testing.T) {
			d, o := writing(t, 4, 2, 0, 2)
			e := d.Twin()
			check(t, e, o)
			change(d)
			check(t, e, o)
			crashes(t, e, o, []bool{false, true, true, true})

			d, o = writing(t, 4, 2, 0, 2)
			e = d.Twin()
			change(e)
			check(t, d, o)
			crashes(t, d, o, []bool{true, true, false, true})
		})
	}
}

func TestTwinsWriteApart(t *testing.T) {
	for waiting := range 20 { // whatever room there is behind the last write that waits
		d, o := New(4), newModel(4)
		for i := range waiting {
			put(t, d, o, i%4, data(i+1))
		}
		e, p := d.Twin(), o.twin()
		f, q := e.Twin(), p.twin()
		put(t, d, o, 1, data(100))
		put(t, e, p, 2, data(200))
		put(t, f, q, 3, data(300))
		check(t, d, o)
		check(t, e, p)
		check(t, f, q)
		d.Flush()
		o.flush()
		check(t, e, p)
		e.Flush()
		p.flush()
		check(t, d, o)
		check(t, e, p)
		check(t, f, q)
	}
}

func TestTwinOfOneOfEachLength(t *testing.T) {
	for _, n := range []int{1, 2, 512} {
		d, o := numbered(t, n)
		e := d.Twin()
		check(t, e, o)
		refuses(t, e, n)
		d.Write(n-1, Data{})
		d.Flush()
		check(t, e, o)
	}
}

// Promise 8.3.

func TestSettle(t *testing.T) {
	for _, blocks := range [][]int{nil, {0}, {2, 2}, {0, 1, 2}, {1, 2, 1, 1}, {2, 0, 2, 1, 0, 3, 3, 0}} {
		for bits := range 1 << 4 {
			mine := subset(bits, 4)
			d, o := writing(t, 4, blocks...)
			settles(t, d, o, func(block int) bool { return mine[block] })
			d.Crash(nil)
			o.crash(nil)
			check(t, d, o)
		}
	}
}

// settles lets writes of a disk and its model last, and holds them against each other: also once more, as nothing of those waits.
func settles(t *testing.T, d *Disk, o *model, mine func(int) bool) {
	t.Helper()
	n, want := d.Settle(mine), o.settle(mine)
	if n != want {
		t.Fatalf("Settle: %d, want %d", n, want)
	}
	check(t, d, o)
	if n := d.Settle(mine); n != 0 {
		t.Fatalf("Settle once more: %d, want 0", n)
	}
	check(t, d, o)
}

func TestSettleOfSome(t *testing.T) {
	d := New(4)
	for i, block := range []int{1, 3, 0, 1, 3, 1, 2} {
		d.Write(block, data(i+1))
	}
	if n := d.Settle(func(block int) bool { return block == 1 || block == 2 }); n != 4 {
		t.Errorf("Settle of 1 and 2: %d, want 4", n)
	}
	waitFor(t, d, 3, 0, 3)
	for block, want := range []Data{data(3), data(6), data(7), data(5)} {
		holds(t, d, block, want)
	}
	if n := d.Crash([]bool{true, false, false}); n != 1 {
		t.Errorf("Crash: %d, want 1", n)
	}
	for block, want := range []Data{{}, data(6), data(7), data(2)} {
		holds(t, d, block, want)
	}
}

func TestSettleOfNoneAndAll(t *testing.T) {
	blocks := []int{2, 0, 2, 1}
	d, o := writing(t, 3, blocks...)
	if n := d.Settle(none); n != 0 {
		t.Errorf("Settle of none: %d", n)
	}
	check(t, d, o)
	waitFor(t, d, blocks...)
	if n := d.Settle(all); n != 4 {
		t.Errorf("Settle of all: %d, want 4", n)
	}
	waitFor(t, d)
	o.flush()
	crashes(t, d, o, nil)
}

func TestSettleAndWriteOn(t *testing.T) {
	d, o := writing(t, 3, 0, 1, 0, 2)
	was := d.Twin()
	settles(t, d, o, func(block int) bool { return block == 0 })
	put(t, d, o, 0, data(50))
	put(t, d, o, 2, data(51))
	waitFor(t, d, 1, 2, 0, 2)
	waitFor(t, was, 0, 1, 0, 2)
	settles(t, d, o, func(block int) bool { return block == 2 })
	waitFor(t, d, 1, 0)
	crashes(t, d, o, []bool{true})
}

func TestSettleAsksOfBlocksThatThereAre(t *testing.T) {
	d, _ := writing(t, 512, 511, 0, 511)
	d.Settle(func(block int) bool {
		if block != 511 && block != 0 {
			t.Errorf("asked of %d, for which nothing waits", block)
		}
		return false
	})
	d.Flush()
	d.Settle(func(block int) bool {
		t.Errorf("asked of %d, where nothing waits", block)
		return true
	})
}

func TestSettleOfNil(t *testing.T) {
	d, o := writing(t, 3, 2, 0, 2)
	if n := d.Settle(nil); n != 0 {
		t.Errorf("Settle(nil): %d, want 0", n)
	}
	check(t, d, o)
	d.Flush()
	if n := d.Settle(nil); n != 0 {
		t.Errorf("Settle(nil), where nothing waits: %d, want 0", n)
	}
}

func TestSettleOfOneThatPanics(t *testing.T) {
	d, o := writing(t, 4, 2, 0, 3, 2, 0)
	n := d.Settle(func(block int) bool {
		if block == 0 {
			panic("of no use")
		}
		return block == 2
	})
	if n != 2 {
		t.Errorf("Settle: %d, want 2", n)
	}
	o.settle(func(block int) bool { return block == 2 })
	check(t, d, o)
}

// However mine wavers, Read tells what was written last.
func TestSettleOfOneThatWavers(t *testing.T) {
	for _, first := range []bool{false, true} {
		d, o := writing(t, 2, 1, 1, 1, 1)
		told := !first
		n := d.Settle(func(int) bool { told = !told; return told })
		holds(t, d, 1, data(1003))
		if n != 0 && n != 4 || n+len(d.Waiting()) != 4 {
			t.Errorf("Settle: %d, and %v wait: of one block all writes go the same way", n, d.Waiting())
		}
		d.Flush()
		o.flush()
		check(t, d, o)
	}
}

// A mine that itself uses the disk ends, and nothing that was written is lost.
func TestSettleOfOneThatUsesTheDisk(t *testing.T) {
	t.Run("Write", func(t *testing.T) {
		d, _ := writing(t, 4, 2, 0)
		d.Settle(func(block int) bool {
			d.Write(block, data(40+block))
			d.Write(3, data(99))
			return block == 2
		})
		waitFor(t, d, 0, 3, 0, 3)
		for block, want := range []Data{data(40), data(2), data(42), data(99)} {
			holds(t, d, block, want)
		}
		d.Crash(nil)
		for block, want := range []Data{data(1), data(2), data(42), data(4)} {
			holds(t, d, block, want)
		}
	})
	for name, change := range changes() {
		if name == "Write" || name == "several" {
			continue
		}
		t.Run(name, func(t *testing.T) {
			d, _ := writing(t, 4, 2, 0, 2)
			e := d.Twin()
			change(e)
			e.Settle(none)
			done := false
			d.Settle(func(int) bool {
				if !done {
					done = true
					change(d)
				}
				return false
			})
			for block := range 4 {
				want, _ := e.Read(block)
				holds(t, d, block, want)
			}
			waitFor(t, d, e.Waiting()...)
		})
	}
}

// Promise 8.4.

func TestWhatWasFlushedStays(t *testing.T) {
	const n = 4
	for bits := range 1 << 5 {
		d, o := numbered(t, n)
		since := []int{3, 1, 3, 3, 1} // never 0 and 2
		for i, block := range since {
			put(t, d, o, block, data(60+i))
		}
		keep := subset(bits, 5)
		crashes(t, d, o, keep)
		holds(t, d, 0, data(1))
		holds(t, d, 2, data(3))
		if !keep[1] && !keep[4] {
			holds(t, d, 1, data(2))
		}
		if !keep[0] && !keep[2] && !keep[3] {
			holds(t, d, 3, data(4))
		}
	}
}

func TestWhatWasFlushedStaysCrashByCrash(t *testing.T) {
	d := New(2)
	for i := range 50 {
		d.Write(0, data(i))
		d.Flush()
		d.Write(1, data(100+i))
		d.Crash(subset(i, 1))
		d.Crash(nil)
		holds(t, d, 0, data(i))
	}
}

func TestWhatSettledStays(t *testing.T) {
	d, _ := writing(t, 3, 0, 1, 0)
	d.Settle(func(block int) bool { return block == 0 })
	d.Crash(nil)
	for block, want := range []Data{data(1002), data(2), data(3)} {
		holds(t, d, block, want)
	}
}

// P1 and the rules.

func TestNilAndZeroDisk(t *testing.T) {
	for name, d := range map[string]*Disk{"nil": nil, "zero": {}, "New(0)": New(0), "New(513)": New(513), "twin of nil": (*Disk)(nil).Twin()} {
		t.Run(name, func(t *testing.T) {
			for range 2 { // it stays so
				isNothing(t, d)
			}
			if e := d.Twin(); (e == nil) != (d == nil) {
				t.Errorf("Twin is nil: %v, of one that is nil: %v", e == nil, d == nil)
			} else {
				isNothing(t, e)
			}
		})
	}
}

// isNothing makes every call of a disk that has no blocks.
func isNothing(t *testing.T, d *Disk) {
	t.Helper()
	if d.Len() != 0 {
		t.Errorf("Len: %d", d.Len())
	}
	for _, block := range append([]int{0, 1}, noBlocks(1)...) {
		refuses(t, d, block)
	}
	d.Flush()
	waitFor(t, d)
	for _, keep := range [][]bool{nil, {}, {true}, {false, true, true}} {
		if n := d.Crash(keep); n != 0 {
			t.Errorf("Crash(%v): %d", keep, n)
		}
	}
	for name, mine := range map[string]func(int) bool{"nil": nil, "all": all, "none": none, "panics": func(int) bool { panic("asked") }} {
		if n := d.Settle(mine); n != 0 {
			t.Errorf("Settle(%s): %d", name, n)
		}
	}
	waitFor(t, d)
}

// change does to a disk and its model what chance says, and holds what is told against each other.
func change(t *testing.T, r *rand.Rand, d *Disk, o *model) string {
	t.Helper()
	block, x := r.Intn(o.n), data(r.Intn(1<<16))
	switch what := r.Intn(12); {
	case what < 8:
		put(t, d, o, block, x)
		return fmt.Sprintf("Write(%d)", block)
	case what == 8:
		d.Flush()
		o.flush()
		return "Flush"
	case what == 9:
		keep := subset(r.Intn(1<<20), r.Intn(20))
		if n, want := d.Crash(keep), o.crash(keep); n != want {
			t.Fatalf("Crash(%v): %d, want %d", keep, n, want)
		}
		return fmt.Sprintf("Crash(%v)", keep)
	default:
		bits := r.Int()
		mine := func(block int) bool { return bits>>(block%60)&1 == 1 }
		if n, want := d.Settle(mine), o.settle(mine); n != want {
			t.Fatalf("Settle(%b): %d, want %d", bits, n, want)
		}
		return fmt.Sprintf("Settle(%b)", bits)
	}
}

func TestLongRunsAgainstTheModel(t *testing.T) {
	for seed := range int64(60) {
		r := rand.New(rand.NewSource(seed))
		n := []int{1, 2, 3, 7, 30}[r.Intn(5)]
		disks, models := []*Disk{New(n)}, []*model{newModel(n)}
		for step := range 150 {
			i := r.Intn(len(disks))
			what := change(t, r, disks[i], models[i])
			if r.Intn(30) == 0 && len(disks) < 4 {
				disks, models = append(disks, disks[i].Twin()), append(models, models[i].twin())
			}
			for j := range disks {
				check(t, disks[j], models[j])
			}
			if t.Failed() {
				t.Fatalf("seed %d, step %d: behind %s", seed, step, what)
			}
		}
	}
}

func TestTheSameAgain(t *testing.T) {
	var d, e *Disk
	for _, at := range []**Disk{&d, &e} {
		r := rand.New(rand.NewSource(1))
		*at = New(9)
		o := newModel(9)
		for range 300 {
			change(t, r, *at, o)
		}
	}
	waitFor(t, d, e.Waiting()...)
	for block := range 9 {
		x, _ := e.Read(block)
		holds(t, d, block, x)
	}
}
