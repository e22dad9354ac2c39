package abi

import (
	"math"
	"math/rand"
	"slices"
	"testing"

	"onionskin/api"
)

// number is what a call's number may be: from least to most; a name of this kind, or, with a kind of -1, no name.
type number struct{ least, most, kind int }

// The numbers, as the chapter tells them.
var (
	frame  = number{0, 511, 0}
	block  = number{0, 511, 1}
	space  = number{0, 511, 2}
	port   = number{0, 511, 3}
	naming = number{0, 511, -1}
	place  = number{0, 15, -1}
	page   = number{0, 31, -1}
	word   = number{0, 4294967295, -1}
	bit    = number{0, 1, -1}
	steps  = number{1, 4096, -1}
	kind   = number{0, 3, -1}
)

// row is a call of the plain table that all is held against.
type row struct {
	op, named                    int // as the chapter numbers it, and as package api does
	numbers                      []number
	own, changes, words, program bool
}

// table is the forty calls, by their numbers.
var table = []row{
	{op: 1, named: api.CGet, numbers: []number{frame, place}},
	{op: 2, named: api.CPut, numbers: []number{frame, place, word}, changes: true},
	{op: 3, named: api.CPage, numbers: []number{frame}},
	{op: 4, named: api.CLay, numbers: []number{frame}, changes: true, words: true},
	{op: 5, named: api.CCopy, numbers: []number{frame, frame}, changes: true},
	{op: 6, named: api.CClear, numbers: []number{frame}, changes: true},
	{op: 7, named: api.CSame, numbers: []number{frame, frame}},
	{op: 8, named: api.CSum, numbers: []number{frame}},
	{op: 9, named: api.CFind, numbers: []number{frame, word}},
	{op: 10, named: api.CSwap, numbers: []number{frame, frame}, changes: true},
	{op: 11, named: api.CBind, numbers: []number{space, page, frame, bit}},
	{op: 12, named: api.CUnbind, numbers: []number{space, page}},
	{op: 13, named: api.CBound, numbers: []number{space, page}},
	{op: 14, named: api.CEmpty, numbers: []number{space}},
	{op: 15, named: api.CPages, numbers: []number{space}},
	{op: 16, named: api.CGuard, numbers: []number{space, page}},
	{op: 17, named: api.CRun, numbers: []number{space, steps}, changes: true, program: true},
	{op: 18, named: api.CPeek, numbers: []number{space, word}},
	{op: 19, named: api.CPoke, numbers: []number{space, word, word}, changes: true},
	{op: 20, named: api.CUses, numbers: []number{frame}},
	{op: 21, named: api.CRead, numbers: []number{block}},
	{op: 22, named: api.CWrite, numbers: []number{block}, changes: true, words: true},
	{op: 23, named: api.CFlush, numbers: []number{block}},
	{op: 24, named: api.CZero, numbers: []number{block}, changes: true},
	{op: 25, named: api.CFetch, numbers: []number{block, frame}, changes: true},
	{op: 26, named: api.CSave, numbers: []number{frame, block}, changes: true},
	{op: 27, named: api.CWaits, numbers: []number{block}},
	{op: 28, named: api.CAlike, numbers: []number{block, block}},
	{op: 29, named: api.CSend, numbers: []number{port, word}},
	{op: 30, named: api.CReceive, numbers: []number{port}},
	{op: 31, named: api.CQueued, numbers: []number{port}},
	{op: 32, named: api.CDrain, numbers: []number{port}},
	{op: 33, named: api.CHas, numbers: []number{kind, naming}, own: true},
	{op: 34, named: api.CCount, numbers: []number{kind}, own: true},
	{op: 35, named: api.CNext, numbers: []number{kind, naming}, own: true},
	{op: 36, named: api.CWanted, numbers: []number{kind}, own: true},
	{op: 37, named: api.CGive, numbers: []number{kind, naming}, own: true},
	{op: 38, named: api.CDepth, own: true},
	{op: 39, named: api.CYield, own: true},
	{op: 40, named: api.CNop, own: true},
}

// noOps are numbers of which there is no call: what is left of one that there is when bits are cut off among them.
var noOps = []int{0, -1, -2, -40, -41, 41, 42, 63, 64, 80, 127, 128, 255, 256, 257, 296, 1<<16 + 1, math.MinInt32, math.MaxInt32, 1 << 32, 1<<32 + 1, 1<<32 + 40, -1 << 32, -1<<32 + 40, math.MinInt, math.MinInt + 1, math.MinInt + 40, math.MaxInt}

// extremes are numbers that no call has at all.
var extremes = []int{-1, -2, -511, math.MinInt32, -1 << 32, 1 - 1<<32, math.MinInt, math.MinInt + 1, 1 << 32, 1<<32 + 1, 1 << 40, math.MaxInt - 1, math.MaxInt}

// names tells which of a row's numbers are names.
func (r row) names() []Name {
	var all []Name
	for i, n := range r.numbers {
		if n.kind >= 0 {
			all = append(all, Name{i, n.kind})
		}
	}
	return all
}

// least tells a row's call, with each of its numbers at its least, and nothing else.
func (r row) least() api.Call {
	c := api.Call{Op: r.op}
	for i, n := range r.numbers {
		c.Arg[i] = n.least
	}
	return c
}

// want tells what Check shall answer, by the table.
func want(c api.Call) api.Errno {
	for _, r := range table {
		if r.op != c.Op {
			continue
		}
		for i, n := range c.Arg {
			if i < len(r.numbers) && (n < r.numbers[i].least || n > r.numbers[i].most) {
				return api.EARG
			}
			if i >= len(r.numbers) && n != 0 {
				return api.EARG
			}
		}
		if !r.words && c.Words != (api.Words{}) || !r.program && c.Program != (api.Context{}) {
			return api.EARG
		}
		return api.OK
	}
	return api.EARG
}

// checks asks whether a call may be, twice.
func checks(t *testing.T, c api.Call, want api.Errno) {
	t.Helper()
	for range 2 {
		if err := Check(c); err != want {
			t.Fatalf("Check(%v): %d, want %d", c, err, want)
		}
	}
}

// held asks whether a call may be, and holds the answer against the table.
func held(t *testing.T, c api.Call) {
	t.Helper()
	checks(t, c, want(c))
}

// with tells a call with another number.
func with(c api.Call, arg, n int) api.Call {
	c.Arg[arg] = n
	return c
}

// full tells a call with four numbers, Words and a Program, none of which is nought: Renamed asks of none of them whether it may be.
func full(op int) api.Call {
	c := api.Call{Op: op, Arg: [4]int{101, -102, 1003, math.MaxInt}}
	for i := range c.Words {
		c.Words[i] = uint32(i + 7)
	}
	for i := range c.Program.Reg {
		c.Program.Reg[i] = uint32(i + 70)
	}
	c.Program.PC = 700
	return c
}

// ask is what a mean was asked.
type ask struct{ kind, name int }

// renamed renames a call by mean, and tells what was answered, and what mean was asked, in order. The call that was handed in stays as it is.
func renamed(t *testing.T, c api.Call, mean func(kind, name int) (int, bool)) (api.Call, bool, []ask) {
	t.Helper()
	was := c
	var asked []ask
	to, ok := Renamed(c, func(kind, name int) (int, bool) {
		asked = append(asked, ask{kind, name})
		return mean(kind, name)
	})
	if c != was {
		t.Fatalf("Renamed(%v) changed what was handed in: %v", was, c)
	}
	return to, ok, asked
}

// asks tells what mean shall be asked of a call, in order.
func (r row) asks(c api.Call) []ask {
	var all []ask
	for _, n := range r.names() {
		all = append(all, ask{n.Kind, c.Arg[n.Arg]})
	}
	return all
}

// itself means by each name what it is.
func itself(kind, name int) (int, bool) { return name, true }

// 14.4: the table has the forty calls of package api.

func TestTable(t *testing.T) {
	if len(table) != 40 {
		t.Fatalf("%d calls, want 40", len(table))
	}
	for i, r := range table {
		if r.op != i+1 || r.named != i+1 {
			t.Errorf("call %d: %d, %d", i+1, r.op, r.named)
		}
	}
}

// 14.1: which calls there are.

func TestKnown(t *testing.T) {
	there := 0
	for op := -3000; op <= 3000; op++ {
		if got := Known(op); got != (op >= 1 && op <= 40) {
			t.Errorf("Known(%d): %v", op, got)
		} else if got {
			there++
		}
	}
	if there != 40 {
		t.Errorf("%d calls, want 40", there)
	}
	for _, r := range table {
		if !Known(r.named) {
			t.Errorf("Known(%d): false", r.named)
		}
	}
	for _, op := range noOps {
		if Known(op) {
			t.Errorf("Known(%d): true", op)
		}
	}
}

// 14.1: which calls may be.

func TestEachNumber(t *testing.T) {
	for _, r := range table {
		checks(t, r.least(), api.OK)
		for i, n := range r.numbers {
			checks(t, with(r.least(), i, n.least), api.OK)
			checks(t, with(r.least(), i, n.least+1), api.OK)
			checks(t, with(r.least(), i, n.most-1), api.OK)
			checks(t, with(r.least(), i, n.most), api.OK)
			checks(t, with(r.least(), i, n.least-1), api.EARG)
			checks(t, with(r.least(), i, n.most+1), api.EARG)
			for _, bad := range extremes {
				checks(t, with(r.least(), i, bad), api.EARG)
			}
			for _, about := range []int{0, 1, 2, 3, 4, 15, 16, 31, 32, 63, 64, 255, 256, 511, 512, 1023, 4095, 4096, 4097, 65535, 65536, math.MaxInt32, math.MaxInt32 + 1, math.MaxUint32, math.MaxUint32 + 1} {
				held(t, with(r.least(), i, about))
			}
		}
	}
}

func TestAllSmallNumbers(t *testing.T) {
	for _, r := range table {
		for i := range 4 {
			for n := -20; n <= 5000; n++ {
				if c := with(r.least(), i, n); Check(c) != want(c) {
					t.Fatalf("Check(%v): %d", c, Check(c))
				}
			}
		}
	}
}

func TestNumbersThatACallHasNot(t *testing.T) {
	for _, r := range table {
		for i := len(r.numbers); i < 4; i++ {
			checks(t, with(r.least(), i, 0), api.OK)
			for _, n := range append([]int{1, 2, 15, 511, 4096, math.MaxInt32}, extremes...) {
				checks(t, with(r.least(), i, n), api.EARG)
			}
		}
	}
}

// All numbers of a call at their edges, together: one that may not be is enough, wherever it stands.
func TestNumbersTogether(t *testing.T) {
	for _, r := range table {
		var edges [4][]int
		for i := range edges {
			edges[i] = []int{0, 1, -1}
			if i < len(r.numbers) {
				n := r.numbers[i]
				edges[i] = []int{n.least, n.most, n.least - 1, n.most + 1}
			}
		}
		for _, a := range edges[0] {
			for _, b := range edges[1] {
				for _, c := range edges[2] {
					for _, d := range edges[3] {
						held(t, api.Call{Op: r.op, Arg: [4]int{a, b, c, d}})
					}
				}
			}
		}
	}
}

func TestSteps(t *testing.T) {
	for n, want := range map[int]api.Errno{-1: api.EARG, 0: api.EARG, 1: api.OK, 2: api.OK, 4095: api.OK, 4096: api.OK, 4097: api.EARG} {
		checks(t, api.Call{Op: api.CRun, Arg: [4]int{0, n}}, want)
	}
}

func TestWord(t *testing.T) {
	for n, want := range map[int]api.Errno{-1: api.EARG, 0: api.OK, 3: api.OK, 1<<31 - 1: api.OK, 1 << 31: api.OK, 1<<32 - 1: api.OK, 1 << 32: api.EARG, 1<<32 + 1: api.EARG, 1 << 33: api.EARG} {
		checks(t, api.Call{Op: api.CPut, Arg: [4]int{511, 15, n}}, want)
		checks(t, api.Call{Op: api.CFind, Arg: [4]int{511, n}}, want)
		checks(t, api.Call{Op: api.CPeek, Arg: [4]int{511, n}}, want)
		checks(t, api.Call{Op: api.CPoke, Arg: [4]int{511, n}}, want)
		checks(t, api.Call{Op: api.CPoke, Arg: [4]int{511, 0, n}}, want)
		checks(t, api.Call{Op: api.CSend, Arg: [4]int{511, n}}, want)
	}
}

// errno tells OK, if this may be, else EARG.
func errno(may bool) api.Errno {
	if may {
		return api.OK
	}
	return api.EARG
}

func TestWords(t *testing.T) {
	for _, r := range table {
		for i := range api.PageWords {
			for _, w := range []uint32{1, 256, 1 << 31, math.MaxUint32} {
				c := r.least()
				c.Words[i] = w
				checks(t, c, errno(r.op == 4 || r.op == 22))
			}
		}
		c := r.least()
		c.Words = full(r.op).Words
		checks(t, c, errno(r.op == 4 || r.op == 22))
	}
}

func TestProgram(t *testing.T) {
	for _, r := range table {
		for _, w := range []uint32{1, 2, 4, 256, 1 << 31, math.MaxUint32} {
			for i := range api.Registers {
				c := r.least()
				c.Program.Reg[i] = w
				checks(t, c, errno(r.op == 17))
			}
			c := r.least()
			c.Program.PC = w
			checks(t, c, errno(r.op == 17))
		}
		c := r.least()
		c.Program = full(r.op).Program
		checks(t, c, errno(r.op == 17))
	}
}

// Words, a Program and a number: each that may not be is enough.
func TestWrongTogether(t *testing.T) {
	for _, r := range table {
		for bits := range 16 {
			c := r.least()
			if bits&1 > 0 {
				c.Words[3] = 5
			}
			if bits&2 > 0 {
				c.Program.Reg[3] = 5
			}
			if bits&4 > 0 {
				c.Arg[0] = -1
			}
			if bits&8 > 0 {
				c.Arg[3] = 2 // at its greatest, no call has more than 0 or 1 there
			}
			held(t, c)
			if bits&12 > 0 {
				checks(t, c, api.EARG)
			}
		}
	}
}

func TestCheckOfNoCall(t *testing.T) {
	for _, op := range noOps {
		checks(t, api.Call{Op: op}, api.EARG)
		checks(t, full(op), api.EARG)
		for i := range 4 {
			for _, n := range []int{1, 15, 511} {
				checks(t, with(api.Call{Op: op}, i, n), api.EARG)
			}
		}
		checks(t, api.Call{Op: op, Arg: [4]int{0, 1}}, api.EARG)
		checks(t, api.Call{Op: op, Words: api.Words{1}}, api.EARG)
		checks(t, api.Call{Op: op, Program: api.Context{PC: 4}}, api.EARG)
	}
}

// 14.2: which numbers are names.

func TestNames(t *testing.T) {
	for _, r := range table {
		if got := Names(r.op); !slices.Equal(got, r.names()) {
			t.Errorf("Names(%d): %v, want %v", r.op, got, r.names())
		}
	}
	for op := -100; op <= 1000; op++ {
		if op < 1 || op > 40 {
			if got := Names(op); len(got) != 0 {
				t.Errorf("Names(%d): %v, want none", op, got)
			}
		}
	}
	for _, op := range noOps {
		if got := Names(op); len(got) != 0 {
			t.Errorf("Names(%d): %v, want none", op, got)
		}
	}
}

func TestNamesWrittenOut(t *testing.T) {
	for op, want := range map[int][]Name{
		api.CGet:   {{0, api.Frame}},
		api.CCopy:  {{0, api.Frame}, {1, api.Frame}},
		api.CBind:  {{0, api.Space}, {2, api.Frame}},
		api.CPoke:  {{0, api.Space}},
		api.CFetch: {{0, api.Block}, {1, api.Frame}},
		api.CSave:  {{0, api.Frame}, {1, api.Block}},
		api.CAlike: {{0, api.Block}, {1, api.Block}},
		api.CSend:  {{0, api.Port}},
		api.CGive:  nil,
		api.CNop:   nil,
	} {
		if got := Names(op); !slices.Equal(got, want) {
			t.Errorf("Names(%d): %v, want %v", op, got, want)
		}
	}
}

// What Names answers is the asker's own: what is written to it changes no other answer, neither an older one nor a later one, nor what Renamed does.
func TestNamesAreTheAskersOwn(t *testing.T) {
	for _, r := range table {
		older, mine := Names(r.op), Names(r.op)
		for i := range mine {
			mine[i] = Name{-7, -7}
		}
		mine = append(mine, Name{-8, -8})
		for _, other := range table {
			if got := Names(other.op); !slices.Equal(got, other.names()) {
				t.Fatalf("Names(%d), behind what was written to those of %d: %v, want %v", other.op, r.op, got, other.names())
			}
		}
		if !slices.Equal(older, r.names()) {
			t.Errorf("older Names(%d): %v, want %v", r.op, older, r.names())
		}
		if c, ok, asked := renamed(t, full(r.op), itself); c != full(r.op) || !ok || !slices.Equal(asked, r.asks(full(r.op))) {
			t.Errorf("Renamed(%d): %v, %v, asked %v", r.op, c, ok, asked)
		}
	}
}

// 14.2: which calls are about names alone, and which may change something.

func TestOwn(t *testing.T) {
	for op := -300; op <= 300; op++ {
		if got := Own(op); got != (op >= 33 && op <= 40) {
			t.Errorf("Own(%d): %v", op, got)
		}
	}
	for _, op := range noOps {
		if Own(op) {
			t.Errorf("Own(%d): true", op)
		}
	}
	for _, r := range table {
		if Own(r.named) != r.own {
			t.Errorf("Own(%d): %v", r.named, !r.own)
		}
	}
}

func TestChanges(t *testing.T) {
	changing := []int{2, 4, 5, 6, 10, 17, 19, 22, 24, 25, 26}
	for op := -300; op <= 300; op++ {
		if got := Changes(op); got != slices.Contains(changing, op) {
			t.Errorf("Changes(%d): %v", op, got)
		}
	}
	for _, op := range noOps {
		if Changes(op) {
			t.Errorf("Changes(%d): true", op)
		}
	}
	for _, r := range table {
		if Changes(r.named) != r.changes {
			t.Errorf("Changes(%d): %v", r.named, !r.changes)
		}
	}
}

// 14.3, 14.4: what is renamed by what means itself stays as it is.

func TestRenamedByItself(t *testing.T) {
	for _, r := range table {
		for _, c := range []api.Call{full(r.op), r.least(), {Op: r.op, Arg: [4]int{511, 511, 511, 511}}, {Op: r.op, Arg: [4]int{-1, math.MinInt, math.MaxInt, 7}}} {
			to, ok, asked := renamed(t, c, itself)
			if to != c || !ok || !slices.Equal(asked, r.asks(c)) {
				t.Errorf("Renamed(%v): %v, %v, asked %v", c, to, ok, asked)
			}
		}
	}
}

// other means another name by each kind and name, and by each kind its own.
func other(kind, name int) (int, bool) { return 1000*(kind+1) - 3*name, true }

func TestRenamed(t *testing.T) {
	for _, r := range table {
		c := full(r.op)
		c.Arg[3] = 5
		want := c
		for _, n := range r.names() {
			want.Arg[n.Arg] = 1000*(n.Kind+1) - 3*c.Arg[n.Arg]
		}
		to, ok, asked := renamed(t, c, other)
		if to != want || !ok || !slices.Equal(asked, r.asks(c)) {
			t.Errorf("Renamed(%v): %v, %v, asked %v, want %v", c, to, ok, asked, want)
		}
	}
}

// Names are what mean tells, also such as no call may have.
func TestRenamedToAnything(t *testing.T) {
	for _, r := range table {
		for _, name := range []int{0, -1, 512, math.MinInt, math.MaxInt} {
			want := full(r.op)
			for _, n := range r.names() {
				want.Arg[n.Arg] = name
			}
			to, ok, _ := renamed(t, full(r.op), func(int, int) (int, bool) { return name, true })
			if to != want || !ok {
				t.Errorf("Renamed(%d) to %d: %v, %v, want %v", r.op, name, to, ok, want)
			}
		}
	}
}

// Two names of one kind that are the same are asked one behind the other, and each is what is told of it then; what is told of the first is not asked of again.
func TestRenamedInOrder(t *testing.T) {
	for _, r := range table {
		c := full(r.op)
		c.Arg = [4]int{9, 9, 9, 9}
		want := c
		for i, n := range r.names() {
			want.Arg[n.Arg] = 20 + i
		}
		next := 19
		to, ok, asked := renamed(t, c, func(int, int) (int, bool) {
			next++
			return next, true
		})
		if to != want || !ok || !slices.Equal(asked, r.asks(c)) {
			t.Errorf("Renamed(%v): %v, %v, asked %v, want %v", c, to, ok, asked, want)
		}
	}
}

// unless means other, but false at the how manieth time it is asked (0: the first time), whatever it tells beside.
func unless(when int) func(kind, name int) (int, bool) {
	asked := 0
	return func(kind, name int) (int, bool) {
		asked++
		to, _ := other(kind, name)
		return to, asked-1 != when
	}
}

func TestRenamedByNothing(t *testing.T) {
	for _, r := range table {
		names := r.names()
		for when := range 4 {
			to, ok, asked := renamed(t, full(r.op), unless(when))
			if when < len(names) {
				if to != (api.Call{}) || ok || !slices.Equal(asked, r.asks(full(r.op))[:when+1]) {
					t.Errorf("Renamed(%d), name %d means nothing: %v, %v, asked %v", r.op, when, to, ok, asked)
				}
			} else if !ok || !slices.Equal(asked, r.asks(full(r.op))) {
				t.Errorf("Renamed(%d): %v, %v, asked %v", r.op, to, ok, asked)
			}
		}
		to, ok, _ := renamed(t, full(r.op), func(kind, name int) (int, bool) { return name, false })
		if len(names) > 0 && (to != (api.Call{}) || ok) || len(names) == 0 && (to != full(r.op) || !ok) {
			t.Errorf("Renamed(%d), nothing means anything: %v, %v", r.op, to, ok)
		}
	}
}

// By one kind alone: false, if a name of another kind is there.
func TestRenamedByOneKind(t *testing.T) {
	for _, r := range table {
		for k := range api.Kinds {
			ok := !slices.ContainsFunc(r.names(), func(n Name) bool { return n.Kind != k })
			want := api.Call{}
			if ok {
				want, _ = Renamed(full(r.op), other)
			}
			to, is, _ := renamed(t, full(r.op), func(kind, name int) (int, bool) {
				to, _ := other(kind, name)
				return to, kind == k
			})
			if to != want || is != ok {
				t.Errorf("Renamed(%d) by kind %d: %v, %v, want %v, %v", r.op, k, to, is, want, ok)
			}
		}
	}
}

// Calls without names, and what is no call, stay as they are, and nobody is asked, whatever is handed in.
func TestRenamedWithoutNames(t *testing.T) {
	ops := slices.Clone(noOps)
	for op := 33; op <= 40; op++ {
		ops = append(ops, op)
	}
	for _, op := range ops {
		for _, c := range []api.Call{full(op), {Op: op}} {
			for _, mean := range []func(kind, name int) (int, bool){itself, other, func(int, int) (int, bool) { return 0, false }, func(int, int) (int, bool) { panic("asked") }} {
				if to, ok, asked := renamed(t, c, mean); to != c || !ok || len(asked) != 0 {
					t.Errorf("Renamed(%v): %v, %v, asked %v", c, to, ok, asked)
				}
			}
			if to, ok := Renamed(c, nil); to != c || !ok {
				t.Errorf("Renamed(%v) by nil: %v, %v", c, to, ok)
			}
		}
	}
}

// P1: a nil function, and one that panics, means nothing.
func TestRenamedByWhatCannotBeAsked(t *testing.T) {
	for _, r := range table {
		if len(r.names()) == 0 {
			continue
		}
		if to, ok := Renamed(full(r.op), nil); to != (api.Call{}) || ok {
			t.Errorf("Renamed(%d) by nil: %v, %v", r.op, to, ok)
		}
		for when := range r.names() {
			for _, what := range []any{"asked", 7, nil} {
				mean := unless(-1)
				asked := 0
				to, ok := Renamed(full(r.op), func(kind, name int) (int, bool) {
					asked++
					if asked-1 == when {
						panic(what)
					}
					return mean(kind, name)
				})
				if to != (api.Call{}) || ok || asked != when+1 {
					t.Errorf("Renamed(%d), the function panics: %v, %v, asked %d times", r.op, to, ok, asked)
				}
			}
		}
	}
}

// What is renamed may be renamed again: one behind the other is both at once.
func TestRenamedTwice(t *testing.T) {
	back := func(kind, name int) (int, bool) { return (1000*(kind+1) - name) / 3, true }
	for _, r := range table {
		c := r.least()
		c.Arg[0] = 77
		once, ok := Renamed(c, other)
		twice, is := Renamed(once, back)
		if twice != c || !ok || !is {
			t.Errorf("Renamed(%v): %v, %v, and back: %v, %v", c, once, ok, twice, is)
		}
	}
}

// About any calls: Check against the table, and Renamed against its names.

// nearly tells a number that is mostly one that may be, often at an edge.
func nearly(r *rand.Rand, n number) int {
	switch r.Intn(10) {
	case 0:
		return n.least
	case 1:
		return n.most
	case 2:
		return n.most + 1 - r.Intn(2)*(n.most-n.least+2)
	case 3:
		return int(r.Uint64() >> r.Intn(64))
	}
	return n.least + r.Intn(n.most-n.least+1)
}

func TestAnyCalls(t *testing.T) {
	r := rand.New(rand.NewSource(14))
	may := 0
	for range 200000 {
		row := table[r.Intn(len(table))]
		c := api.Call{Op: row.op}
		for i, n := range row.numbers {
			c.Arg[i] = nearly(r, n)
		}
		if r.Intn(8) == 0 {
			c.Arg[r.Intn(4)] = r.Intn(5) - 1
		}
		if r.Intn(4) == 0 {
			c.Words[r.Intn(16)] = r.Uint32() >> r.Intn(32)
		}
		if r.Intn(4) == 0 {
			c.Program.Reg[r.Intn(16)] = r.Uint32() >> r.Intn(32)
		}
		if r.Intn(8) == 0 {
			c.Program.PC = r.Uint32() >> r.Intn(32)
		}
		if r.Intn(40) == 0 {
			c.Op = r.Intn(50) - 5
		}
		held(t, c)
		if want(c) == api.OK {
			may++
		}
		if to, ok := Renamed(c, itself); to != c || !ok {
			t.Fatalf("Renamed(%v) by itself: %v, %v", c, to, ok)
		}
	}
	if may < 50000 {
		t.Errorf("only %d of the calls may be", may)
	}
}

// The chapter's examples.

func TestExamples(t *testing.T) {
	if got := Names(api.CBind); !slices.Equal(got, []Name{{Arg: 0, Kind: api.Space}, {Arg: 2, Kind: api.Frame}}) {
		t.Errorf("Names of Bind: %v", got)
	}
	checks(t, api.Call{Op: api.CGet, Arg: [4]int{3, 16}}, api.EARG)
	checks(t, api.Call{Op: api.CGet, Arg: [4]int{3, 15}}, api.OK)
}
