package abort

import (
	"fmt"
	"math"
	"math/rand"
	"slices"
	"testing"

	"onionskin/api"
)

// key is what is wanted back of whom.
type key struct{ env, kind, name int }

// note is which want of all it was, and behind how many turns in all the name is taken.
type note struct{ came, due int }

// book is what is wanted, and how many wants and turns there were: what a list is held against. Nothing changes it, either.
type book struct {
	notes     map[key]note
	came, now int
}

// keys are what is wanted, in the order in which it came.
func (b book) keys() []key {
	var l []key
	for k := range b.notes {
		l = append(l, k)
	}
	slices.SortFunc(l, func(j, k key) int { return b.notes[j].came - b.notes[k].came })
	return l
}

// only tells the book in which there is nothing but what is to stay.
func (b book) only(stays func(key, note) bool) book {
	c := book{map[key]note{}, b.came, b.now}
	for k, n := range b.notes {
		if stays(k, n) {
			c.notes[k] = n
		}
	}
	return c
}

// asked tells the book with one more, and the error.
func (b book) asked(w Want) (book, api.Errno) {
	k := key{w.Env, w.Kind, w.Name}
	_, is := b.notes[k]
	switch {
	case w.Env < 0 || w.Env > 15 || w.Kind < 0 || w.Kind > 3 || w.Name < 0 || w.Name > 511 || w.Left < 1 || w.Left > 100:
		return b, api.EARG
	case is:
		return b, api.EEXIST
	case len(b.notes) >= 64:
		return b, api.EAGAIN
	}
	c := b.only(func(key, note) bool { return true })
	c.came++
	c.notes[k] = note{c.came, c.now + w.Left}
	return c, api.OK
}

// back tells the book without one.
func (b book) back(env, kind, name int) (book, bool) {
	c := b.only(func(k key, _ note) bool { return k != key{env, kind, name} })
	return c, len(c.notes) < len(b.notes)
}

// gone tells the book without all that is wanted of an environment.
func (b book) gone(env int) book {
	return b.only(func(k key, _ note) bool { return k.env != env })
}

// turned tells the book one turn on, and what was due then.
func (b book) turned() (book, []Want) {
	c := b.only(func(_ key, n note) bool { return n.due > b.now+1 })
	c.now++
	var due []Want
	for _, k := range b.keys() {
		if _, stays := c.notes[k]; !stays {
			due = append(due, Want{k.env, k.kind, k.name, 0})
		}
	}
	return c, due
}

// firsts tells the least name of each environment and kind of which any is wanted.
func (b book) firsts() map[[2]int]int {
	l := map[[2]int]int{}
	for k := range b.notes {
		if least, is := l[[2]int{k.env, k.kind}]; !is || k.name < least {
			l[[2]int{k.env, k.kind}] = k.name
		}
	}
	return l
}

// all tells the wants, in the order in which they came.
func (b book) all() []Want {
	var l []Want
	for _, k := range b.keys() {
		l = append(l, Want{k.env, k.kind, k.name, b.notes[k].due - b.now})
	}
	return l
}

// noNumbers are numbers that are none of an environment, a kind or a name, and no turns that may be left; many are alike in their lowest bits to such as may be.
var noNumbers = []int{
	-1, -2, -3, -15, -16, -17, -100, -256, -512, -1024, 512, 513, 514, 515, 1023, 1024, 1025, 1 << 16, 1<<16 + 1, -1 << 16,
	math.MaxInt32, math.MinInt32, 1 << 32, 1<<32 + 1, 1<<32 + 3, -1 << 32, -1<<32 + 1, math.MaxInt, math.MaxInt - 1, math.MinInt, math.MinInt + 1,
}

// The environments and the kinds that there may be.
var (
	sixteen = []int{0, 1, 2, 3, 4, 5, 6, 7, 8, 9, 10, 11, 12, 13, 14, 15}
	four    = []int{0, 1, 2, 3}
)

// anyEnvs are all environments that there may be, and numbers that none has.
func anyEnvs() []int {
	return slices.Concat(sixteen, noNumbers, []int{16, 17, 31, 32, 255, 256, 257, 511})
}

// anyKinds are all kinds that there are, and numbers that none has.
func anyKinds() []int {
	return slices.Concat(four, noNumbers, []int{4, 5, 6, 7, 8, 16, 256, 257, 511})
}

// check holds all that a list tells about itself against a book.
func check(t *testing.T, x List, want book) {
	t.Helper()
	if got := x.All(); !slices.Equal(got, want.all()) {
		t.Fatalf("All: %v, not %v", got, want.all())
	}
	checkFirst(t, x, want, sixteen, four)
}

// checkFirst holds First against a book.
func checkFirst(t *testing.T, x List, want book, envs, kinds []int) {
	t.Helper()
	firsts := want.firsts()
	for _, env := range envs {
		for _, kind := range kinds {
			name, is := firsts[[2]int{env, kind}]
			if got, ok := x.First(env, kind); got != name || ok != is {
				t.Fatalf("First(%d, %d) of %v: %d %v, not %d %v", env, kind, want.all(), got, ok, name, is)
			}
		}
	}
}

// checkAsk holds Ask against a book, and tells both behind it; the list ahead of it stays as it was.
func checkAsk(t *testing.T, x List, want book, w Want) (List, book) {
	t.Helper()
	y, e := x.Ask(w)
	asked, err := want.asked(w)
	if e != err {
		t.Fatalf("Ask(%v) of %v: %v, not %v", w, want.all(), e, err)
	}
	if e != api.OK && y != x {
		t.Fatalf("Ask(%v) of %v is refused, and the list is %v", w, want.all(), y.All())
	}
	check(t, y, asked)
	check(t, x, want)
	return y, asked
}

// checkBack holds Back against a book, and tells both behind it; the list ahead of it stays as it was.
func checkBack(t *testing.T, x List, want book, env, kind, name int) (List, book) {
	t.Helper()
	y, ok := x.Back(env, kind, name)
	left, was := want.back(env, kind, name)
	if ok != was {
		t.Fatalf("Back(%d, %d, %d) of %v: %v", env, kind, name, want.all(), ok)
	}
	if !ok && y != x {
		t.Fatalf("Back(%d, %d, %d) of %v: false, and the list is %v", env, kind, name, want.all(), y.All())
	}
	check(t, y, left)
	check(t, x, want)
	return y, left
}

// checkGone holds Gone against a book, and tells both behind it; the list ahead of it stays as it was.
func checkGone(t *testing.T, x List, want book, env int) (List, book) {
	t.Helper()
	y, left := x.Gone(env), want.gone(env)
	if len(left.notes) == len(want.notes) && y != x {
		t.Fatalf("Gone(%d) of %v: %v", env, want.all(), y.All())
	}
	check(t, y, left)
	check(t, x, want)
	return y, left
}

// checkTurn holds Turn against a book, and tells both behind it; the list ahead of it stays as it was.
func checkTurn(t *testing.T, x List, want book) (List, book) {
	t.Helper()
	y, taken := x.Turn()
	left, due := want.turned()
	if !slices.Equal(taken, due) {
		t.Fatalf("Turn of %v takes %v, not %v", want.all(), taken, due)
	}
	check(t, y, left)
	check(t, x, want)
	return y, left
}

// checkCalls holds all calls against a book.
func checkCalls(t *testing.T, x List, want book) {
	t.Helper()
	check(t, x, want)
	checkFirst(t, x, want, anyEnvs(), anyKinds())
	for _, env := range anyEnvs() {
		checkGone(t, x, want, env)
	}
	for _, w := range want.all() {
		checkAsk(t, x, want, w)
		checkBack(t, x, want, w.Env, w.Kind, w.Name)
		checkBack(t, x, want, w.Env, w.Kind, (w.Name+1)%512)
		checkBack(t, x, want, w.Env, (w.Kind+1)%4, w.Name)
		checkBack(t, x, want, (w.Env+1)%16, w.Kind, w.Name)
	}
	checkTurn(t, x, want)
}

// of makes a list of wants that may be, and the book of the same.
func of(t *testing.T, l ...Want) (List, book) {
	t.Helper()
	var x List
	var want book
	for _, w := range l {
		y, e := x.Ask(w)
		b, err := want.asked(w)
		if e != api.OK || err != api.OK {
			t.Fatalf("Ask(%v) of %v: %v %v", w, x.All(), e, err)
		}
		x, want = y, b
	}
	check(t, x, want)
	return x, want
}

// full is as many wants as there may be, of each environment and kind.
func full() []Want {
	var l []Want
	for i := range 64 {
		l = append(l, Want{i * 5 % 16, i * 7 / 16 % 4, 511 - i*i%509, 1 + i*37%100})
	}
	return l
}

// several are lists of wants that may be: none, one, the least and the greatest of all, alike in all but one number, of one environment and of many, and all.
func several() [][]Want {
	return [][]Want{
		nil,
		{{0, 0, 0, 1}},
		{{15, 3, 511, 100}},
		{{1, 0, 5, 2}, {1, 0, 2, 1}, {2, 0, 5, 3}},
		{{3, 1, 7, 1}, {3, 2, 7, 1}, {4, 1, 7, 1}, {3, 1, 8, 1}},
		{{0, 0, 9, 5}, {0, 0, 0, 5}, {0, 0, 511, 5}, {0, 0, 4, 4}, {0, 1, 1, 6}},
		{{7, 3, 2, 1}, {8, 3, 1, 2}, {7, 3, 1, 1}, {8, 3, 2, 2}, {7, 3, 0, 3}},
		full()[:63], full(),
	}
}

// Promise 17.1.

func TestZero(t *testing.T) {
	var x List
	checkCalls(t, x, book{})
	if l := x.All(); len(l) != 0 {
		t.Errorf("All: %v", l)
	}
	if y, taken := x.Turn(); y != (List{}) || len(taken) != 0 {
		t.Errorf("Turn: %v %v", y.All(), taken)
	}
	for _, env := range anyEnvs() {
		if y := x.Gone(env); y != (List{}) {
			t.Errorf("Gone(%d): %v", env, y.All())
		}
		for _, kind := range anyKinds() {
			if name, ok := x.First(env, kind); name != 0 || ok {
				t.Errorf("First(%d, %d): %d %v", env, kind, name, ok)
			}
			if y, ok := x.Back(env, kind, 0); y != (List{}) || ok {
				t.Errorf("Back(%d, %d, 0): %v %v", env, kind, y.All(), ok)
			}
		}
	}
}

func TestLimits(t *testing.T) {
	if Most != 64 || Patience != 100 {
		t.Errorf("Most %d, Patience %d", Most, Patience)
	}
	if api.MaxEnvs != 16 || api.Kinds != 4 || api.MaxBlocks != 512 {
		t.Fatal("other limits")
	}
}

func TestAskAtTheEdges(t *testing.T) {
	ordinary := Want{7, 1, 300, 50}
	for _, c := range []struct {
		with            func(n int) Want
		least, greatest int
	}{
		{func(n int) Want { w := ordinary; w.Env = n; return w }, 0, 15},
		{func(n int) Want { w := ordinary; w.Kind = n; return w }, 0, 3},
		{func(n int) Want { w := ordinary; w.Name = n; return w }, 0, 511},
		{func(n int) Want { w := ordinary; w.Left = n; return w }, 1, 100},
	} {
		for n := c.least; n <= c.greatest; n++ {
			x, e := List{}.Ask(c.with(n))
			if e != api.OK || !slices.Equal(x.All(), []Want{c.with(n)}) {
				t.Errorf("Ask(%v): %v %v", c.with(n), x.All(), e)
			}
		}
		for _, n := range append(slices.Clone(noNumbers), c.least-1, c.greatest+1, c.greatest+2) {
			for _, l := range several() {
				x, _ := of(t, l...)
				if y, e := x.Ask(c.with(n)); e != api.EARG || y != x {
					t.Errorf("Ask(%v): %v %v", c.with(n), y.All(), e)
				}
			}
		}
	}
}

func TestAskOfTheEdgesTogether(t *testing.T) {
	var least, greatest List
	least, e := least.Ask(Want{0, 0, 0, 1})
	if name, ok := least.First(0, 0); e != api.OK || name != 0 || !ok {
		t.Errorf("the least of all: %v, First %d %v", e, name, ok)
	}
	greatest, e = greatest.Ask(Want{15, 3, 511, 100})
	if name, ok := greatest.First(15, 3); e != api.OK || name != 511 || !ok {
		t.Errorf("the greatest of all: %v, First %d %v", e, name, ok)
	}
	if y, e := (List{}).Ask(Want{}); e != api.EARG || y != (List{}) {
		t.Errorf("the zero want: %v %v", y.All(), e)
	}
}

func TestAskTwice(t *testing.T) {
	for _, l := range several() {
		x, want := of(t, l...)
		for _, w := range l {
			for _, left := range []int{1, w.Left, w.Left%100 + 1, 100} {
				again := Want{w.Env, w.Kind, w.Name, left}
				if y, e := x.Ask(again); e != api.EEXIST || y != x {
					t.Errorf("Ask(%v) of %v: %v %v", again, l, y.All(), e)
				}
				checkAsk(t, x, want, again)
			}
		}
	}
}

func TestAskAlikeInAllButOne(t *testing.T) {
	x, want := of(t, Want{3, 1, 7, 9})
	for _, w := range []Want{{3, 2, 7, 9}, {3, 0, 7, 9}, {4, 1, 7, 9}, {2, 1, 7, 9}, {3, 1, 8, 9}, {3, 1, 6, 9}, {1, 3, 7, 9}} {
		x, want = checkAsk(t, x, want, w)
	}
	if n := len(x.All()); n != 8 {
		t.Errorf("%d wants", n)
	}
}

func TestAskStandsLast(t *testing.T) {
	for _, l := range several()[:7] {
		x, _ := of(t, l...)
		for _, w := range []Want{{9, 0, 0, 1}, {9, 3, 511, 100}, {0, 2, 0, 1}} {
			y, e := x.Ask(w)
			if e != api.OK || !slices.Equal(y.All(), append(slices.Clone(l), w)) {
				t.Errorf("Ask(%v) of %v: %v %v", w, l, y.All(), e)
			}
		}
	}
}

func TestAskOfAsManyAsMayBe(t *testing.T) {
	var x List
	var want book
	for i := range 80 {
		w := Want{i % 16, i / 16 % 4, i, 100}
		y, e := x.Ask(w)
		if should := i >= 64; (e == api.EAGAIN) != should || (e == api.OK) == should {
			t.Fatalf("Ask of number %d: %v", i, e)
		}
		if e != api.OK && y != x {
			t.Fatalf("Ask of number %d is refused, and the list is %v", i, y.All())
		}
		x, want = checkAsk(t, x, want, w)
	}
	if n := len(x.All()); n != 64 {
		t.Errorf("%d wants", n)
	}
}

func TestAskWhichError(t *testing.T) {
	l := full()
	x, _ := of(t, l...)
	some, _ := of(t, l[:3]...)
	for _, c := range []struct {
		list List
		w    Want
		e    api.Errno
	}{
		{x, Want{l[0].Env, l[0].Kind, l[0].Name, 0}, api.EARG},   // wanted already, full, and may not be
		{x, Want{l[0].Env, l[0].Kind, l[0].Name, 101}, api.EARG}, // so beyond
		{x, Want{16, 0, 0, 1}, api.EARG},                         // full, and may not be
		{x, l[0], api.EEXIST},                                    // wanted already, and full
		{x, l[63], api.EEXIST},
		{x, Want{l[63].Env, l[63].Kind, l[63].Name, 100}, api.EEXIST},
		{x, Want{0, 0, 1, 1}, api.EAGAIN}, // full
		{some, Want{l[1].Env, l[1].Kind, l[1].Name, 0}, api.EARG},
		{some, Want{l[1].Env, l[1].Kind, l[1].Name, -1}, api.EARG},
		{some, Want{l[1].Env, l[1].Kind, l[1].Name, 1}, api.EEXIST},
		{some, Want{0, 0, 1, 1}, api.OK},
	} {
		y, e := c.list.Ask(c.w)
		if e != c.e || e != api.OK && y != c.list {
			t.Errorf("Ask(%v): %v, not %v", c.w, e, c.e)
		}
	}
}

func TestAskWhereThereIsRoomAgain(t *testing.T) {
	l := full()
	x, want := of(t, l...)
	more := Want{0, 0, 1, 7}
	if _, e := x.Ask(more); e != api.EAGAIN {
		t.Fatalf("a full list: %v", e)
	}
	y, b := checkBack(t, x, want, l[20].Env, l[20].Kind, l[20].Name)
	y, b = checkAsk(t, y, b, more)
	if last := y.All(); len(last) != 64 || last[63] != more {
		t.Errorf("behind Back: %v", last)
	}
	checkAsk(t, y, b, Want{0, 0, 2, 7})
	z, c := checkGone(t, x, want, 5)
	for name := 1; len(c.notes) < 64; name++ {
		z, c = checkAsk(t, z, c, Want{5, 0, name, name})
	}
	if _, e := z.Ask(Want{5, 0, 0, 1}); e != api.EAGAIN {
		t.Errorf("behind Gone, and full again: %v", e)
	}
	u, d := checkTurn(t, x, want)
	if u, e := u.Ask(more); e != api.OK || len(u.All()) != 64 {
		t.Errorf("behind Turn: %v %v", u.All(), e)
	}
	checkAsk(t, u, d, more)
}

func TestBack(t *testing.T) {
	l := []Want{{1, 0, 5, 2}, {1, 0, 2, 9}, {2, 0, 5, 3}, {1, 1, 5, 4}, {1, 0, 0, 1}}
	x, want := of(t, l...)
	for at, w := range l {
		y, left := checkBack(t, x, want, w.Env, w.Kind, w.Name)
		if others := slices.Delete(slices.Clone(l), at, at+1); !slices.Equal(y.All(), others) {
			t.Errorf("Back of %v: %v", w, y.All())
		}
		if z, ok := y.Back(w.Env, w.Kind, w.Name); ok || z != y {
			t.Errorf("Back of %v twice: %v %v", w, z.All(), ok)
		}
		checkBack(t, y, left, w.Env, w.Kind, w.Name)
	}
}

func TestBackOfTheOnlyOne(t *testing.T) {
	for _, w := range []Want{{0, 0, 0, 1}, {15, 3, 511, 100}, {6, 2, 8, 9}} {
		x, _ := of(t, w)
		if y, ok := x.Back(w.Env, w.Kind, w.Name); !ok || y != (List{}) {
			t.Errorf("Back of %v: %v %v", w, y.All(), ok)
		}
	}
}

func TestBackOfWhatIsNotWanted(t *testing.T) {
	x, want := of(t, Want{3, 1, 7, 9}, Want{0, 0, 0, 1}, Want{15, 3, 511, 100})
	for _, k := range []key{
		{3, 1, 6}, {3, 1, 8}, {3, 0, 7}, {3, 2, 7}, {2, 1, 7}, {4, 1, 7}, {1, 3, 7}, {7, 1, 3}, {3, 1, 0}, {0, 1, 7}, {3, 1, 9},
		{0, 0, 1}, {0, 1, 0}, {1, 0, 0}, {15, 3, 510}, {15, 3, 100}, {15, 2, 511}, {14, 3, 511},
	} {
		if y, ok := x.Back(k.env, k.kind, k.name); ok || y != x {
			t.Errorf("Back of %v: %v %v", k, y.All(), ok)
		}
		checkBack(t, x, want, k.env, k.kind, k.name)
	}
}

func TestBackOfNumbersThatMayNotBe(t *testing.T) {
	x, want := of(t, Want{3, 1, 7, 9}, Want{0, 0, 0, 1}, Want{15, 3, 511, 100})
	for _, n := range noNumbers {
		for _, k := range []key{
			{n, 1, 7}, {3, n, 7}, {3, 1, n}, {n, 0, 0}, {0, n, 0}, {0, 0, n}, {n, 3, 511}, {15, n, 511}, {15, 3, n}, {n, n, n}, {n, -n, 0},
		} {
			checkBack(t, x, want, k.env, k.kind, k.name)
		}
	}
	for _, k := range []key{{16, 1, 7}, {16, 0, 0}, {3, 4, 7}, {3, 5, 7}, {0, 4, 0}, {15, 4, 511}, {31, 3, 511}} {
		checkBack(t, x, want, k.env, k.kind, k.name)
	}
}

func TestGone(t *testing.T) {
	x, want := of(t, Want{1, 0, 5, 2}, Want{2, 0, 5, 3}, Want{1, 3, 2, 9}, Want{0, 1, 1, 1}, Want{1, 0, 0, 100}, Want{15, 2, 2, 2}, Want{2, 1, 1, 4})
	for _, c := range []struct {
		env  int
		want []Want
	}{
		{1, []Want{{2, 0, 5, 3}, {0, 1, 1, 1}, {15, 2, 2, 2}, {2, 1, 1, 4}}},
		{2, []Want{{1, 0, 5, 2}, {1, 3, 2, 9}, {0, 1, 1, 1}, {1, 0, 0, 100}, {15, 2, 2, 2}}},
		{0, []Want{{1, 0, 5, 2}, {2, 0, 5, 3}, {1, 3, 2, 9}, {1, 0, 0, 100}, {15, 2, 2, 2}, {2, 1, 1, 4}}},
		{15, []Want{{1, 0, 5, 2}, {2, 0, 5, 3}, {1, 3, 2, 9}, {0, 1, 1, 1}, {1, 0, 0, 100}, {2, 1, 1, 4}}},
		{3, want.all()},
		{5, want.all()},
	} {
		y, left := checkGone(t, x, want, c.env)
		if !slices.Equal(y.All(), c.want) {
			t.Errorf("Gone(%d): %v, not %v", c.env, y.All(), c.want)
		}
		if z := y.Gone(c.env); z != y {
			t.Errorf("Gone(%d) twice: %v", c.env, z.All())
		}
		checkGone(t, y, left, c.env)
	}
	for _, env := range anyEnvs() {
		if y := x.Gone(env); (env < 0 || env > 15) && y != x {
			t.Errorf("Gone(%d): %v", env, y.All())
		}
	}
}

func TestGoneOneByOne(t *testing.T) {
	for _, l := range several() {
		x, want := of(t, l...)
		for env := range 16 {
			x, want = checkGone(t, x, want, env)
		}
		if x != (List{}) {
			t.Errorf("%v without anybody: %v", l, x.All())
		}
	}
}

func TestAllCalls(t *testing.T) {
	for _, l := range several() {
		x, want := of(t, l...)
		if got := x.All(); !slices.Equal(got, l) {
			t.Fatalf("All of %v: %v", l, got)
		}
		checkCalls(t, x, want)
	}
}

// Promise 17.2.

func TestTurn(t *testing.T) {
	x, _ := of(t, Want{1, 0, 5, 2}, Want{1, 0, 2, 1}, Want{2, 3, 5, 3}, Want{0, 1, 0, 1}, Want{15, 3, 511, 2})
	for turn, c := range []struct{ left, taken []Want }{
		{[]Want{{1, 0, 5, 1}, {2, 3, 5, 2}, {15, 3, 511, 1}}, []Want{{1, 0, 2, 0}, {0, 1, 0, 0}}},
		{[]Want{{2, 3, 5, 1}}, []Want{{1, 0, 5, 0}, {15, 3, 511, 0}}},
		{nil, []Want{{2, 3, 5, 0}}},
		{nil, nil},
		{nil, nil},
	} {
		y, taken := x.Turn()
		if !slices.Equal(y.All(), c.left) || !slices.Equal(taken, c.taken) {
			t.Errorf("turn %d: %v is left, %v is taken", turn+1, y.All(), taken)
		}
		x = y
	}
	if x != (List{}) {
		t.Errorf("at last: %v", x.All())
	}
}

func TestTurnTakesNone(t *testing.T) {
	x, _ := of(t, Want{1, 0, 5, 2}, Want{1, 0, 2, 100})
	y, taken := x.Turn()
	if len(taken) != 0 || !slices.Equal(y.All(), []Want{{1, 0, 5, 1}, {1, 0, 2, 99}}) {
		t.Errorf("%v is left, %v is taken", y.All(), taken)
	}
}

func TestTurnTakesAll(t *testing.T) {
	l := full()
	var due []Want
	for i := range l {
		l[i].Left = 1
		due = append(due, Want{l[i].Env, l[i].Kind, l[i].Name, 0})
	}
	for n := range len(l) + 1 {
		x, _ := of(t, l[:n]...)
		if y, taken := x.Turn(); y != (List{}) || !slices.Equal(taken, due[:n]) {
			t.Fatalf("of %d wants: %v is left, %v is taken", n, y.All(), taken)
		}
	}
}

func TestTurnInWhichOneIsTaken(t *testing.T) {
	for left := 1; left <= 100; left++ {
		x, want := of(t, Want{4, 2, 6, left})
		for turn := 1; turn <= 210; turn++ {
			y, taken := x.Turn()
			if should := turn == left; (len(taken) == 1) != should || len(taken) > 1 {
				t.Fatalf("one with Left %d, turn %d: %v", left, turn, taken)
			}
			if turn == left && taken[0] != (Want{4, 2, 6, 0}) {
				t.Fatalf("one with Left %d is taken as %v", left, taken[0])
			}
			if turn <= 101 && left%33 == 1 {
				checkTurn(t, x, want)
				want, _ = want.turned()
			}
			x = y
		}
		if x != (List{}) {
			t.Fatalf("one with Left %d is still there: %v", left, x.All())
		}
	}
}

func TestTurnOnAndOn(t *testing.T) {
	for _, l := range several() {
		x, want := of(t, l...)
		var taken []Want
		for range 102 {
			_, some := x.Turn()
			taken = append(taken, some...)
			x, want = checkTurn(t, x, want)
		}
		if len(taken) != len(l) || x != (List{}) {
			t.Errorf("%d wants, %d taken, %v left", len(l), len(taken), x.All())
		}
	}
}

func TestWantedAgainBehindTurn(t *testing.T) {
	x, want := of(t, Want{1, 0, 5, 1}, Want{1, 0, 6, 2})
	x, want = checkTurn(t, x, want)
	x, want = checkAsk(t, x, want, Want{1, 0, 5, 3})
	if got := x.All(); !slices.Equal(got, []Want{{1, 0, 6, 1}, {1, 0, 5, 3}}) {
		t.Errorf("asked again: %v", got)
	}
	checkAsk(t, x, want, Want{1, 0, 6, 2})
}

func TestFirst(t *testing.T) {
	x, _ := of(t, Want{1, 0, 300, 1}, Want{1, 0, 7, 9}, Want{1, 1, 2, 1}, Want{2, 0, 3, 1}, Want{1, 0, 511, 1}, Want{1, 0, 8, 1}, Want{2, 3, 511, 1}, Want{2, 2, 0, 1}, Want{0, 0, 4, 4}, Want{15, 3, 9, 1})
	has := map[[2]int]int{{1, 0}: 7, {1, 1}: 2, {2, 0}: 3, {2, 3}: 511, {2, 2}: 0, {0, 0}: 4, {15, 3}: 9}
	for _, env := range anyEnvs() {
		for _, kind := range anyKinds() {
			want, is := has[[2]int{env, kind}]
			if name, ok := x.First(env, kind); name != want || ok != is {
				t.Errorf("First(%d, %d): %d %v, not %d %v", env, kind, name, ok, want, is)
			}
		}
	}
}

func TestFirstWhateverTheOrder(t *testing.T) {
	names := []int{4, 0, 511, 2}
	for round := range 24 {
		left, rest := slices.Clone(names), round
		var x List
		least := 512
		for n := len(left); n > 0; n-- {
			at := rest % n
			rest /= n
			x, _ = x.Ask(Want{6, 2, left[at], 1 + left[at]%100})
			least = min(least, left[at])
			left = slices.Delete(left, at, at+1)
			if name, ok := x.First(6, 2); name != least || !ok {
				t.Errorf("First of %v: %d %v", x.All(), name, ok)
			}
		}
	}
}

func TestFirstOfEachName(t *testing.T) {
	for name := range 512 {
		x, _ := List{}.Ask(Want{name % 16, name % 4, name, 1 + name%100})
		if got, ok := x.First(name%16, name%4); got != name || !ok {
			t.Errorf("First of %v: %d %v", x.All(), got, ok)
		}
	}
}

func TestFirstOnAndOn(t *testing.T) {
	x, _ := of(t, Want{3, 0, 9, 5}, Want{3, 0, 0, 1}, Want{3, 0, 4, 2}, Want{3, 1, 1, 1})
	var names []int
	for {
		name, ok := x.First(3, 0)
		if !ok {
			break
		}
		names = append(names, name)
		if x, ok = x.Back(3, 0, name); !ok {
			t.Fatalf("First tells %d, and it is not wanted", name)
		}
	}
	if !slices.Equal(names, []int{0, 4, 9}) || !slices.Equal(x.All(), []Want{{3, 1, 1, 1}}) {
		t.Errorf("%v, and then %v", names, x.All())
	}
}

// Promise 17.3.

// said is in which turn a name is to be taken, of all that were asked and not given back.
type said map[key]int

// askSome asks some names that were not asked ahead.
func (s said) askSome(chance *rand.Rand, x List, turn int) List {
	for i := range chance.Intn(5) {
		w := Want{chance.Intn(3), chance.Intn(4), turn*4 + i, 1 + chance.Intn(40)}
		y, e := x.Ask(w)
		if e == api.OK {
			x, s[key{w.Env, w.Kind, w.Name}] = y, turn+w.Left
		}
	}
	return x
}

// giveBack gives one back.
func (s said) giveBack(chance *rand.Rand, x List) List {
	l := x.All()
	if len(l) == 0 {
		return x
	}
	w := l[chance.Intn(len(l))]
	delete(s, key{w.Env, w.Kind, w.Name})
	x, _ = x.Back(w.Env, w.Kind, w.Name)
	return x
}

// leave lets an environment go.
func (s said) leave(x List, env int) List {
	for k := range s {
		if k.env == env {
			delete(s, k)
		}
	}
	return x.Gone(env)
}

func TestTakenInItsTurnOnce(t *testing.T) {
	chance := rand.New(rand.NewSource(173))
	for round := range 100 {
		var x List
		s := said{}
		for turn := 1; turn <= 160; turn++ {
			if turn < 110 {
				x = s.askSome(chance, x, turn-1)
			}
			if chance.Intn(3) == 0 {
				x = s.giveBack(chance, x)
			}
			if chance.Intn(20) == 0 {
				x = s.leave(x, chance.Intn(3))
			}
			var taken []Want
			x, taken = x.Turn()
			for _, w := range taken {
				k := key{w.Env, w.Kind, w.Name}
				if s[k] != turn {
					t.Fatalf("round %d: %v is taken in turn %d, not in turn %d", round, k, turn, s[k])
				}
				delete(s, k)
			}
			for k, when := range s {
				if when <= turn {
					t.Fatalf("round %d: %v is not taken in turn %d", round, k, when)
				}
			}
		}
		if len(s) != 0 || x != (List{}) {
			t.Fatalf("round %d: never taken: %v; left: %v", round, s, x.All())
		}
	}
}

func TestTakenBesideOthers(t *testing.T) {
	for left := 1; left <= 100; left++ {
		var x List
		others := full()[:62]
		for _, w := range others[:31] {
			x, _ = x.Ask(w)
		}
		x, _ = x.Ask(Want{9, 0, 1, left})
		for _, w := range others[31:] {
			x, _ = x.Ask(w)
		}
		var when []int
		for turn := 1; turn <= 101; turn++ {
			var taken []Want
			x, taken = x.Turn()
			if slices.Contains(taken, Want{9, 0, 1, 0}) {
				when = append(when, turn)
			}
		}
		if !slices.Equal(when, []int{left}) {
			t.Errorf("one with Left %d is taken in the turns %v", left, when)
		}
	}
}

// Through all promises.

// drawn is a want that may be, at most times.
func drawn(chance *rand.Rand, envs, names int) Want {
	w := Want{chance.Intn(envs), chance.Intn(4), chance.Intn(names), 1 + chance.Intn(100)}
	if chance.Intn(4) == 0 {
		w.Left = 1 + chance.Intn(3)
	}
	odd := noNumbers[chance.Intn(len(noNumbers))]
	switch chance.Intn(40) {
	case 0:
		w.Env = odd
	case 1:
		w.Kind = odd
	case 2:
		w.Name = odd
	case 3:
		w.Left = odd
	case 4:
		w.Env, w.Name = 15, 511
	}
	return w
}

// step does one call on both.
func step(t *testing.T, chance *rand.Rand, x List, want book, w Want) (List, book) {
	t.Helper()
	switch n := chance.Intn(100); {
	case n < 70:
		return checkAsk(t, x, want, w)
	case n < 80:
		return checkBack(t, x, want, w.Env, w.Kind, w.Name)
	case n < 92:
		if l := want.all(); len(l) > 0 {
			w = l[chance.Intn(len(l))]
		}
		return checkBack(t, x, want, w.Env, w.Kind, w.Name)
	case n < 93:
		return checkGone(t, x, want, w.Env)
	}
	return checkTurn(t, x, want)
}

func TestManyCalls(t *testing.T) {
	chance := rand.New(rand.NewSource(17))
	refused := 0
	for round := range 24 {
		var x List
		var want book
		envs, names := 1+chance.Intn(16), 1+chance.Intn(512)
		for range 200 {
			w := drawn(chance, envs, names)
			if _, e := x.Ask(w); e == api.EAGAIN {
				refused++
			}
			x, want = step(t, chance, x, want, w)
		}
		if round%4 == 0 {
			checkCalls(t, x, want)
		}
	}
	if refused == 0 {
		t.Error("the list was never full")
	}
}

func TestTwoGoOnFromOne(t *testing.T) {
	chance := rand.New(rand.NewSource(171))
	for _, l := range several() {
		x, want := of(t, l...)
		y, b := x, want
		z, c := x, want
		for range 80 {
			y, b = step(t, chance, y, b, drawn(chance, 16, 64))
			z, c = step(t, chance, z, c, drawn(chance, 16, 64))
			check(t, y, b)
			check(t, x, want)
		}
	}
}

func TestTwoAsksFromOne(t *testing.T) {
	for n := range 64 {
		x, want := of(t, full()[:n]...)
		y, b := checkAsk(t, x, want, Want{0, 0, 1, 8})
		z, c := checkAsk(t, x, want, Want{0, 0, 2, 9})
		check(t, y, b)
		check(t, z, c)
		check(t, x, want)
	}
}

// spoil writes to all of a list, and behind its length as far as there is room.
func spoil(l []Want) {
	l = l[:cap(l)]
	for i := range l {
		l[i] = Want{9, 9, 9, 9}
	}
}

func TestAnswersAreTheAskersOwn(t *testing.T) {
	for _, l := range several() {
		x, want := of(t, l...)
		first, second := x.All(), x.All()
		spoil(first)
		if !slices.Equal(second, l) {
			t.Fatalf("two answers of All are one: %v", second)
		}
		check(t, x, want)
		left, b := want.turned()
		y, taken := x.Turn()
		all := y.All()
		spoil(taken)
		check(t, y, left)
		check(t, x, want)
		if !slices.Equal(all, left.all()) {
			t.Fatalf("what is taken is what is left: %v", all)
		}
		_, taken = x.Turn()
		spoil(all)
		if !slices.Equal(taken, b) {
			t.Fatalf("what is left is what is taken: %v", taken)
		}
		check(t, y, left)
		checkCalls(t, x, want)
	}
}

func TestSpoiltAheadOfEachCall(t *testing.T) {
	for _, l := range several() {
		x, want := of(t, l...)
		for _, w := range append(slices.Clone(l), Want{14, 0, 1, 1}) {
			y, b := checkAsk(t, x, want, w)
			spoil(x.All())
			spoil(y.All())
			check(t, y, b)
			y, b = checkBack(t, x, want, w.Env, w.Kind, w.Name)
			spoil(x.All())
			spoil(y.All())
			check(t, y, b)
			y, b = checkGone(t, x, want, w.Env)
			spoil(x.All())
			spoil(y.All())
			check(t, y, b)
		}
		check(t, x, want)
	}
}

// tale tells all that many calls answered.
func tale(seed int64) string {
	chance := rand.New(rand.NewSource(seed))
	var x List
	told := ""
	for range 300 {
		w := drawn(chance, 4, 32)
		y, e := x.Ask(w)
		told += fmt.Sprintln(w, e, y.All())
		if x = y; chance.Intn(9) == 0 {
			y, taken := x.Turn()
			x, told = y, told+fmt.Sprintln(taken)
		}
		if chance.Intn(4) == 0 {
			y, ok := x.Back(w.Env, w.Kind, w.Name)
			x, told = y, told+fmt.Sprintln(ok)
		}
		name, ok := x.First(w.Env, w.Kind)
		told += fmt.Sprintln(name, ok, x.Gone(w.Env).All())
	}
	return told
}

func TestTheSameAgain(t *testing.T) {
	for seed := range int64(5) {
		if tale(seed) != tale(seed) {
			t.Errorf("the calls of %d answer otherwise, done again", seed)
		}
	}
}

func TestExample(t *testing.T) {
	x, e := List{}.Ask(Want{Env: 1, Kind: api.Frame, Name: 3, Left: 2})
	if e != api.OK {
		t.Fatal(e)
	}
	x, taken := x.Turn()
	if len(taken) != 0 {
		t.Errorf("the first turn takes %v", taken)
	}
	x, taken = x.Turn()
	if !slices.Equal(taken, []Want{{Env: 1, Kind: api.Frame, Name: 3}}) || len(x.All()) != 0 {
		t.Errorf("the second turn takes %v, and leaves %v", taken, x.All())
	}
}
