package tlb

import (
	"fmt"
	"math"
	"math/rand"
	"slices"
	"testing"
)

// model is what a TLB shall have, by space and page, each with the time at which it was put.
type model struct {
	entries map[[2]int]aged
	time    int
	misses  int
}

type aged struct {
	entry Entry
	put   int
}

func newModel() *model { return &model{entries: map[[2]int]aged{}} }

// all tells what All shall answer.
func (o *model) all() []Entry {
	var by []aged
	for _, a := range o.entries {
		by = append(by, a)
	}
	slices.SortFunc(by, func(a, b aged) int { return a.put - b.put })
	var l []Entry
	for _, a := range by {
		l = append(l, a.entry)
	}
	return l
}

func (o *model) put(e Entry) {
	at := [2]int{e.Space, e.Page}
	if _, there := o.entries[at]; !there && len(o.entries) == 8 {
		eldest := o.all()[0]
		delete(o.entries, [2]int{eldest.Space, eldest.Page})
	}
	o.time++
	o.entries[at] = aged{e, o.time}
}

func (o *model) get(space, page int) (Entry, bool) {
	a, ok := o.entries[[2]int{space, page}]
	if !ok {
		o.misses++
	}
	return a.entry, ok
}

func (o *model) drop(goes func(Entry) bool) int {
	n := 0
	for at, a := range o.entries {
		if goes(a.entry) {
			delete(o.entries, at)
			n++
		}
	}
	return n
}

// check holds a TLB against its model, without a miss.
func check(t *testing.T, x *TLB, o *model) {
	t.Helper()
	want := o.all()
	for range 2 {
		holds(t, x, want...)
		if x.Misses() != o.misses {
			t.Fatalf("Misses: %d, want %d", x.Misses(), o.misses)
		}
	}
}

// holds asks for entries, by All and by Get, which are all that there are, the eldest one first.
func holds(t *testing.T, x *TLB, want ...Entry) {
	t.Helper()
	if l := x.All(); !slices.Equal(l, want) {
		t.Fatalf("All: %v, want %v", l, want)
	}
	was := x.Misses()
	for _, e := range want {
		if got, ok := x.Get(e.Space, e.Page); got != e || !ok {
			t.Fatalf("Get(%d, %d): %v %v, want %v true", e.Space, e.Page, got, ok, e)
		}
	}
	if x.Misses() != was {
		t.Fatalf("entries that are there were misses: %d, want %d", x.Misses(), was)
	}
}

// misses asks for a page that has no entry.
func misses(t *testing.T, x *TLB, space, page int) {
	t.Helper()
	was := x.Misses()
	if e, ok := x.Get(space, page); e != (Entry{}) || ok {
		t.Fatalf("Get(%d, %d): %v %v, want the zero one and false", space, page, e, ok)
	}
	if x.Misses() != was+1 {
		t.Fatalf("Get(%d, %d): %d misses, want %d", space, page, x.Misses(), was+1)
	}
}

// several tells n entries of unlike pages; every second one may be written, and no number of one is 0.
func several(n int) []Entry {
	var l []Entry
	for i := range n {
		l = append(l, Entry{Space: 1 + i%3, Page: 10 + i, Frame: 100 + i, Write: i%2 == 1})
	}
	return l
}

// filled tells a TLB into which some were put.
func filled(l ...Entry) *TLB {
	x := &TLB{}
	for _, e := range l {
		x.Put(e)
	}
	return x
}

// without tells a list but for the entry at a place.
func without(l []Entry, at int) []Entry {
	return slices.Delete(slices.Clone(l), at, at+1)
}

// numbers are ordinary ones and edges; some are alike in their lowest bits.
var numbers = []int{
	0, 1, 7, 8, 9, 63, 64, 256, -1, -2, -8, 1 << 16, 1<<16 + 1, 1 << 31, 1 << 32, 1<<32 + 1, -1 << 31, -1 << 32,
	math.MaxInt, math.MaxInt - 1, math.MinInt, math.MinInt + 1,
}

// Promise 5.1.

func TestSize(t *testing.T) {
	if Size != 8 {
		t.Errorf("Size: %d, want 8", Size)
	}
}

func TestExample(t *testing.T) {
	var x TLB
	for page := 1; page <= 9; page++ {
		x.Put(Entry{Space: 0, Page: page, Frame: page + 20})
	}
	misses(t, &x, 0, 1)
	if e, ok := x.Get(0, 2); e != (Entry{Space: 0, Page: 2, Frame: 22}) || !ok {
		t.Errorf("Get(0, 2): %v %v", e, ok)
	}
}

func TestWhatIsPutIsGot(t *testing.T) {
	for n := range 9 {
		l := several(n)
		x := &TLB{}
		for i, e := range l {
			misses(t, x, e.Space, e.Page)
			x.Put(e)
			holds(t, x, l[:i+1]...)
		}
		misses(t, x, 1, 99)
		misses(t, x, 99, 10)
		misses(t, x, 0, 0)
		holds(t, x, l...)
	}
}

func TestEachFieldIsKept(t *testing.T) {
	for _, e := range []Entry{
		{}, {Space: 5}, {Page: 5}, {Frame: 5}, {Write: true}, {1, 2, 3, true}, {3, 2, 1, false},
	} {
		x := filled(e)
		holds(t, x, e)
		holds(t, x, e)
	}
}

func TestNumbers(t *testing.T) {
	for i, n := range numbers {
		for _, e := range []Entry{{n, 3, 4, true}, {3, n, 4, false}, {3, 4, n, true}, {n, n, n, false}} {
			x := filled(e)
			holds(t, x, e)
			for j, other := range numbers {
				if i == j {
					continue
				}
				if e.Space == n {
					misses(t, x, other, e.Page)
				}
				if e.Page == n {
					misses(t, x, e.Space, other)
				}
				if x.DropFrame(other) != 0 && e.Frame != other {
					t.Fatalf("%v: DropFrame(%d) took it", e, other)
				}
				x.Put(e)
				if x.DropSpace(other) != 0 && e.Space != other {
					t.Fatalf("%v: DropSpace(%d) took it", e, other)
				}
				x.Put(e)
				if x.DropPage(other, e.Page) != 0 && e.Space != other || x.DropPage(e.Space, other) != 0 && e.Page != other {
					t.Fatalf("%v: DropPage with %d took it", e, other)
				}
				x.Put(e)
				holds(t, x, e)
			}
			for name, n := range map[string]int{
				"DropFrame": filled(e).DropFrame(e.Frame),
				"DropSpace": filled(e).DropSpace(e.Space),
				"DropPage":  filled(e).DropPage(e.Space, e.Page),
			} {
				if n != 1 {
					t.Fatalf("%v: %s: %d, want 1", e, name, n)
				}
			}
		}
	}
}

func TestSpacesAndPagesOfAllNumbers(t *testing.T) {
	for _, space := range numbers {
		for _, page := range numbers {
			x := filled(Entry{space, page, 5, true})
			x.Put(Entry{page, space, 6, false})
			if space == page {
				holds(t, x, Entry{page, space, 6, false})
			} else {
				holds(t, x, Entry{space, page, 5, true}, Entry{page, space, 6, false})
			}
		}
	}
}

func TestSamePageInTwoSpaces(t *testing.T) {
	a, b := Entry{1, 7, 4, true}, Entry{2, 7, 4, true}
	x := filled(a, b)
	holds(t, x, a, b)
	b.Frame, b.Write = 9, false
	x.Put(b)
	holds(t, x, a, b)
	a.Frame = 9
	x.Put(a)
	holds(t, x, b, a)
	if n := x.DropPage(1, 7); n != 1 {
		t.Errorf("DropPage(1, 7): %d, want 1", n)
	}
	holds(t, x, b)
	misses(t, x, 1, 7)
}

func TestTwoPagesInOneFrame(t *testing.T) {
	a, b, c := Entry{1, 7, 4, true}, Entry{1, 8, 4, false}, Entry{2, 9, 4, true}
	holds(t, filled(a, b, c), a, b, c)
	holds(t, filled(c, b, a), c, b, a)
}

// A page that is put again is there once, as the youngest, and sends no other one away.
func TestPutAgain(t *testing.T) {
	for n := 1; n <= 8; n++ {
		for at := range n {
			for _, write := range []bool{false, true} {
				for _, frame := range []int{100 + at, 100, 100 + n, 0} {
					l := several(n)
					x := filled(l...)
					again := Entry{l[at].Space, l[at].Page, frame, write}
					want := append(without(l, at), again)
					for range 3 {
						x.Put(again)
						holds(t, x, want...)
					}
				}
			}
		}
	}
}

func TestEldestGoes(t *testing.T) {
	l := several(40)
	x := &TLB{}
	for i, e := range l {
		x.Put(e)
		from := max(0, i-7)
		holds(t, x, l[from:i+1]...)
		for _, gone := range l[:from] {
			misses(t, x, gone.Space, gone.Page)
		}
	}
}

func TestPutAgainIsNotTheEldestAnyMore(t *testing.T) {
	l := several(10)
	x := filled(l[:8]...)
	x.Put(l[0])
	x.Put(l[8])
	holds(t, x, append(slices.Clone(l[2:8]), l[0], l[8])...)
	x.Put(l[9])
	holds(t, x, append(slices.Clone(l[3:8]), l[0], l[8], l[9])...)
}

func TestGetMakesNobodyYounger(t *testing.T) {
	l := several(9)
	x := filled(l[:8]...)
	for range 5 {
		x.Get(l[0].Space, l[0].Page)
	}
	x.Get(l[3].Space, l[3].Page)
	x.Get(55, 55)
	holds(t, x, l[:8]...)
	x.Put(l[8])
	holds(t, x, l[1:]...)
}

func TestRoomBehindDrop(t *testing.T) {
	l := several(12)
	x := filled(l[:8]...)
	x.DropPage(l[2].Space, l[2].Page)
	x.DropFrame(l[5].Frame)
	x.Put(l[8])
	x.Put(l[9])
	holds(t, x, l[0], l[1], l[3], l[4], l[6], l[7], l[8], l[9])
	x.Put(l[10])
	holds(t, x, l[1], l[3], l[4], l[6], l[7], l[8], l[9], l[10])
	x.Put(l[2])
	holds(t, x, l[3], l[4], l[6], l[7], l[8], l[9], l[10], l[2])
}

// chosen tells n entries, of which those that a set of bits names are of another space and another frame, and both parts of them.
func chosen(n, set int) (l, gone, stay []Entry) {
	for i := range n {
		e := Entry{Space: 1, Page: 10 + i, Frame: 3, Write: i%3 == 0}
		if set>>i&1 == 1 {
			e.Space, e.Frame = 2, 4
			gone = append(gone, e)
		} else {
			stay = append(stay, e)
		}
		l = append(l, e)
	}
	return l, gone, stay
}

func TestDropSome(t *testing.T) {
	for n := range 9 {
		for set := range 1 << n {
			l, gone, stay := chosen(n, set)
			for name, drop := range map[string]func(x *TLB) int{
				"DropFrame": func(x *TLB) int { return x.DropFrame(4) },
				"DropSpace": func(x *TLB) int { return x.DropSpace(2) },
			} {
				x := filled(l...)
				if n := drop(x); n != len(gone) {
					t.Fatalf("%s of %v: %d, want %d", name, l, n, len(gone))
				}
				holds(t, x, stay...)
				if n := drop(x); n != 0 {
					t.Fatalf("%s of %v, again: %d, want 0", name, l, n)
				}
				if x.Misses() != 0 {
					t.Fatalf("%s of %v: %d misses", name, l, x.Misses())
				}
				for _, e := range gone {
					misses(t, x, e.Space, e.Page)
				}
				holds(t, x, stay...)
				for _, e := range gone {
					x.Put(e)
				}
				holds(t, x, append(slices.Clone(stay), gone...)...)
			}
		}
	}
}

func TestDropFrameAsksForTheFrameAlone(t *testing.T) {
	a, b, c := Entry{4, 1, 5, true}, Entry{5, 4, 6, true}, Entry{1, 2, 4, false}
	x := filled(a, b, c)
	if n := x.DropFrame(4); n != 1 {
		t.Errorf("DropFrame(4): %d, want 1", n)
	}
	holds(t, x, a, b)
}

func TestDropSpaceAsksForTheSpaceAlone(t *testing.T) {
	a, b, c := Entry{4, 1, 5, true}, Entry{5, 4, 6, true}, Entry{1, 2, 4, false}
	x := filled(a, b, c)
	if n := x.DropSpace(4); n != 1 {
		t.Errorf("DropSpace(4): %d, want 1", n)
	}
	holds(t, x, b, c)
}

func TestDropPage(t *testing.T) {
	for n := 1; n <= 8; n++ {
		for at := range n {
			l := several(n)
			x := filled(l...)
			for _, no := range [][2]int{{l[at].Space, 99}, {99, l[at].Page}, {l[at].Page, l[at].Space}, {l[at].Space, l[at].Frame}, {0, 0}} {
				if n := x.DropPage(no[0], no[1]); n != 0 {
					t.Fatalf("DropPage%v of %v: %d, want 0", no, l, n)
				}
				holds(t, x, l...)
			}
			if n := x.DropPage(l[at].Space, l[at].Page); n != 1 {
				t.Fatalf("DropPage of %v: %d, want 1", l[at], n)
			}
			holds(t, x, without(l, at)...)
			if n := x.DropPage(l[at].Space, l[at].Page); n != 0 {
				t.Fatalf("DropPage of %v, again: %d, want 0", l[at], n)
			}
			if x.Misses() != 0 {
				t.Fatalf("DropPage: %d misses", x.Misses())
			}
			misses(t, x, l[at].Space, l[at].Page)
		}
	}
}

// Where there is no entry, there is none of page 0 in space 0 and frame 0 either.
func TestNothingIsNoZeroEntry(t *testing.T) {
	for n := range 9 {
		l := several(n)
		gone := filled(l...)
		for _, e := range l {
			gone.DropPage(e.Space, e.Page)
		}
		for _, x := range []*TLB{filled(l...), gone} {
			was := x.All()
			if a, b, c := x.DropFrame(0), x.DropSpace(0), x.DropPage(0, 0); a+b+c != 0 {
				t.Fatalf("drops of 0: %d %d %d, want 0", a, b, c)
			}
			misses(t, x, 0, 0)
			holds(t, x, was...)
		}
	}
	zero := filled(Entry{})
	holds(t, zero, Entry{})
	if zero.DropFrame(0) != 1 || filled(Entry{}).DropSpace(0) != 1 || filled(Entry{}).DropPage(0, 0) != 1 {
		t.Error("the zero entry, which was put, was not dropped")
	}
	misses(t, zero, 0, 0)
}

func TestMissesAreCountedByGetAlone(t *testing.T) {
	l := several(9)
	x := &TLB{}
	for _, e := range l {
		x.Put(e)
	}
	x.Put(l[8])
	x.All()
	x.DropFrame(999)
	x.DropFrame(l[8].Frame)
	x.DropSpace(999)
	x.DropSpace(l[7].Space)
	x.DropPage(999, 999)
	x.DropPage(l[6].Space, l[6].Page)
	if x.Misses() != 0 {
		t.Fatalf("Misses: %d, want 0", x.Misses())
	}
	for n := 1; n <= 20; n++ {
		misses(t, x, 999, 999)
		if x.Misses() != n || x.Misses() != n {
			t.Fatalf("Misses: %d, want %d", x.Misses(), n)
		}
	}
	x.Put(Entry{Space: 999, Page: 999})
	if _, ok := x.Get(999, 999); !ok || x.Misses() != 20 {
		t.Fatalf("behind Put: %v, %d misses", ok, x.Misses())
	}
	x.DropSpace(999)
	misses(t, x, 999, 999)
}

func TestAllIsTheAskersOwn(t *testing.T) {
	for n := range 9 {
		l := several(n)
		x := filled(l...)
		first, second := x.All(), x.All()
		for i := range first {
			first[i] = Entry{77, 77, 77, true}
		}
		holds(t, x, l...)
		if !slices.Equal(second, l) {
			t.Fatalf("two answers share memory: %v", second)
		}
		_ = append(second[:0], slices.Repeat([]Entry{{66, 66, 66, true}}, cap(second))...)
		holds(t, x, l...)
		misses(t, x, 66, 66)
		third := x.All()
		x.Put(Entry{55, 55, 55, true})
		x.DropSpace(1)
		if !slices.Equal(third, l) {
			t.Fatalf("an answer changed behind Put and DropSpace: %v, want %v", third, l)
		}
	}
}

func TestTLBsAreApart(t *testing.T) {
	l := several(3)
	a, b := filled(l...), filled()
	misses(t, b, l[0].Space, l[0].Page)
	holds(t, b)
	if a.Misses() != 0 {
		t.Errorf("a miss of one is the other one's: %d", a.Misses())
	}
	b.Put(Entry{9, 9, 9, true})
	b.DropSpace(1)
	holds(t, a, l...)
	holds(t, b, Entry{9, 9, 9, true})
}

// empty asks all that can be asked of a TLB that has no entry.
func empty(t *testing.T, x *TLB) {
	t.Helper()
	for _, n := range numbers {
		if e, ok := x.Get(n, 0); e != (Entry{}) || ok {
			t.Errorf("Get(%d, 0): %v %v, want the zero one and false", n, e, ok)
		}
		if e, ok := x.Get(0, n); e != (Entry{}) || ok {
			t.Errorf("Get(0, %d): %v %v, want the zero one and false", n, e, ok)
		}
		if a, b, c, d := x.DropFrame(n), x.DropSpace(n), x.DropPage(n, 0), x.DropPage(0, n); a != 0 || b != 0 || c != 0 || d != 0 {
			t.Errorf("drops of %d: %d %d %d %d, want 0", n, a, b, c, d)
		}
	}
	if l := x.All(); len(l) != 0 {
		t.Errorf("All: %v, want none", l)
	}
}

func TestNil(t *testing.T) {
	var x *TLB
	for range 2 {
		empty(t, x)
		for _, n := range numbers {
			x.Put(Entry{n, 0, n, true})
			x.Put(Entry{0, n, n, false})
		}
		if x.Misses() != 0 {
			t.Errorf("Misses of a nil one: %d, want 0", x.Misses())
		}
	}
}

func TestZero(t *testing.T) {
	var x TLB
	if x.Misses() != 0 {
		t.Errorf("Misses of the zero one: %d, want 0", x.Misses())
	}
	empty(t, &x)
	if want := 2 * len(numbers); x.Misses() != want {
		t.Errorf("Misses: %d, want %d", x.Misses(), want)
	}
	l := several(8)
	for _, e := range l {
		x.Put(e)
	}
	holds(t, &x, l...)
	for _, e := range l {
		x.DropFrame(e.Frame)
	}
	empty(t, &x)
	if want := 4 * len(numbers); x.Misses() != want {
		t.Errorf("Misses behind entries that went: %d, want %d", x.Misses(), want)
	}
}

// Promise 5.2.

// named tells whether an entry names a frame.
func named(x *TLB, frame int) bool {
	return slices.ContainsFunc(x.All(), func(e Entry) bool { return e.Frame == frame })
}

func TestDroppedFrameIsNotNamed(t *testing.T) {
	for seed := range int64(50) {
		r := rand.New(rand.NewSource(seed))
		x := &TLB{}
		for range 12 {
			x.Put(Entry{r.Intn(3), r.Intn(5), r.Intn(3), r.Intn(2) == 0})
		}
		x.DropFrame(1)
		for range 60 {
			if named(x, 1) {
				t.Fatalf("seed %d: a frame that was dropped is named: %v", seed, x.All())
			}
			for space := range 3 {
				for page := range 5 {
					if e, ok := x.Get(space, page); ok && e.Frame == 1 {
						t.Fatalf("seed %d: Get(%d, %d) tells a frame that was dropped", seed, space, page)
					}
				}
			}
			switch r.Intn(5) {
			case 0:
				x.DropSpace(r.Intn(3))
			case 1:
				x.DropPage(r.Intn(3), r.Intn(5))
			case 2:
				x.DropFrame(2)
			default:
				x.Put(Entry{r.Intn(3), r.Intn(5), 2 * r.Intn(3), true})
			}
		}
		x.Put(Entry{1, 1, 1, true})
		if !named(x, 1) {
			t.Fatalf("seed %d: a frame that was put again is not named", seed)
		}
	}
}

// step does one call by chance, on a TLB and on its model, and holds the answers against each other.
func step(t *testing.T, r *rand.Rand, x *TLB, o *model) {
	t.Helper()
	space, page, frame := r.Intn(4)-1, r.Intn(5)-1, r.Intn(4)-1
	var got, want int
	switch r.Intn(8) {
	case 0:
		got, want = x.DropFrame(frame), o.drop(func(e Entry) bool { return e.Frame == frame })
	case 1:
		got, want = x.DropSpace(space), o.drop(func(e Entry) bool { return e.Space == space })
	case 2:
		got, want = x.DropPage(space, page), o.drop(func(e Entry) bool { return e.Space == space && e.Page == page })
	case 3:
		e, ok := x.Get(space, page)
		if want, there := o.get(space, page); e != want || ok != there {
			t.Fatalf("Get(%d, %d): %v %v, want %v %v", space, page, e, ok, want, there)
		}
	default:
		e := Entry{space, page, frame, r.Intn(2) == 0}
		x.Put(e)
		o.put(e)
	}
	if got != want {
		t.Fatalf("a drop (space %d, page %d, frame %d): %d, want %d", space, page, frame, got, want)
	}
	check(t, x, o)
}

func TestManyCalls(t *testing.T) {
	for seed := range int64(60) {
		t.Run(fmt.Sprint(seed), func(t *testing.T) {
			r := rand.New(rand.NewSource(seed))
			a, oa := &TLB{}, newModel()
			b, ob := &TLB{}, newModel()
			for range 300 {
				step(t, r, a, oa)
				step(t, r, b, ob)
			}
		})
	}
}
