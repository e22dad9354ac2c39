package bind

import (
	"fmt"
	"math"
	"math/rand"
	"slices"
	"testing"
)

// bound is one page of a space, and what it is bound to.
type bound struct {
	space, page, frame int
	write              bool
}

// list is bindings, in no order, each page once: what a table is held against.
type list []bound

// with tells the list in which a page is bound so, and whether that may be.
func (l list) with(b bound) (list, bool) {
	if b.space < 0 || b.space > 63 || b.page < 0 || b.page > 31 || b.frame < 0 || b.frame > 511 {
		return l, false
	}
	return append(l.without(func(o bound) bool { return o.space == b.space && o.page == b.page }), b), true
}

// without tells the list without those that go.
func (l list) without(goes func(bound) bool) list {
	return slices.DeleteFunc(slices.Clone(l), goes)
}

// get tells what a page is bound to.
func (l list) get(space, page int) (Binding, bool) {
	for _, b := range l {
		if b.space == space && b.page == page {
			return Binding{Frame: b.frame, Write: b.write}, true
		}
	}
	return Binding{}, false
}

// pages tells the pages of a space, rising.
func (l list) pages(space int) []int {
	var pages []int
	for _, b := range l {
		if b.space == space {
			pages = append(pages, b.page)
		}
	}
	slices.Sort(pages)
	return pages
}

// uses tells the pages that are bound to a frame, by space, then by page.
func (l list) uses(frame int) [][2]int {
	var uses [][2]int
	for _, b := range l {
		if b.frame == frame {
			uses = append(uses, [2]int{b.space, b.page})
		}
	}
	slices.SortFunc(uses, func(a, b [2]int) int { return (a[0]-b[0])*32 + a[1] - b[1] })
	return uses
}

// isOfSpace, isOfFrame and isOfPage tell which bindings go.
func isOfSpace(space int) func(bound) bool {
	return func(b bound) bool { return b.space == space }
}

func isOfFrame(frame int) func(bound) bool {
	return func(b bound) bool { return b.frame == frame }
}

func isOfPage(space, page int) func(bound) bool {
	return func(b bound) bool { return b.space == space && b.page == page }
}

// noNumbers are numbers that neither a space, nor a page, nor a frame may be; many are alike in their lowest bits to one that may.
var noNumbers = []int{
	math.MinInt, math.MinInt + 1, math.MinInt + 5, math.MinInt32, -1 << 32, 5 - 1<<32, -65536, 5 - 65536, -1024, -512, -511, -507, -256, -251, -128, -64, -63, -59, -32, -31, -27, -5, -2, -1,
	512, 513, 517, 543, 575, 768, 1023, 1024, 1029, 2048, 2053, 65535, 65536, 65541, math.MaxInt32, 1 << 31, 1 << 32, 1<<32 + 5, 1 << 40, math.MaxInt - 1, math.MaxInt,
}

// Numbers that a space, or a page, may not be, though a frame may.
var (
	noSpaces = append([]int{64, 65, 69, 95, 96, 127, 128, 255, 256, 261, 511}, noNumbers...)
	noPages  = append([]int{32, 33, 37, 63, 64, 69, 127, 128, 255, 256, 261, 511}, noNumbers...)
)

// Numbers that may be.
var (
	spaces = []int{0, 1, 2, 5, 31, 32, 33, 62, 63}
	pages  = []int{0, 1, 2, 5, 15, 16, 30, 31}
	frames = []int{0, 1, 5, 31, 32, 63, 64, 255, 256, 261, 510, 511}
)

// same tells whether two lists of pages are the same.
func same(a, b [][2]int) bool { return slices.Equal(a, b) }

// check asks a table for all that it says, twice: it is this, and asking changes nothing.
func check(t *testing.T, x *Table, want list) {
	t.Helper()
	for range 2 {
		if n := x.Len(); n != len(want) {
			t.Fatalf("Len: %d, want %d", n, len(want))
		}
		checkGet(t, x, want)
		checkPages(t, x, want)
		checkUses(t, x, want)
	}
}

func checkGet(t *testing.T, x *Table, want list) {
	t.Helper()
	var by [64][32]*bound
	for i, b := range want {
		by[b.space][b.page] = &want[i]
	}
	for space := range by {
		for page, b := range by[space] {
			if b == nil {
				checkUnbound(t, x, space, page)
			} else if got, ok := x.Get(space, page); got != (Binding{b.frame, b.write}) || !ok {
				t.Fatalf("Get(%d, %d): %v %v, want %d %v true", space, page, got, ok, b.frame, b.write)
			}
		}
	}
	for _, no := range noPages {
		for space := range 64 {
			checkUnbound(t, x, space, no)
		}
		checkUnbound(t, x, no, no)
	}
	for _, no := range noSpaces {
		for page := range 32 {
			checkUnbound(t, x, no, page)
		}
	}
}

// checkUnbound asks for a page that isn't bound.
func checkUnbound(t *testing.T, x *Table, space, page int) {
	t.Helper()
	if b, ok := x.Get(space, page); b != (Binding{}) || ok {
		t.Fatalf("Get(%d, %d): %v %v, want the zero binding and false", space, page, b, ok)
	}
}

func checkPages(t *testing.T, x *Table, want list) {
	t.Helper()
	for space := range 64 {
		if l := x.Pages(space); !slices.Equal(l, want.pages(space)) {
			t.Fatalf("Pages(%d): %v, want %v", space, l, want.pages(space))
		}
	}
	for _, no := range noSpaces {
		if l := x.Pages(no); len(l) != 0 {
			t.Fatalf("Pages(%d): %v, want none", no, l)
		}
	}
}

func checkUses(t *testing.T, x *Table, want list) {
	t.Helper()
	by := map[int]list{} // so that a long list isn't gone through for each frame
	for _, b := range want {
		by[b.frame] = append(by[b.frame], b)
	}
	for frame := range 512 {
		if l, uses := x.Uses(frame), by[frame].uses(frame); !same(l, uses) {
			t.Fatalf("Uses(%d): %v, want %v", frame, l, uses)
		}
	}
	for _, no := range noNumbers {
		if l := x.Uses(no); len(l) != 0 {
			t.Fatalf("Uses(%d): %v, want none", no, l)
		}
	}
}

// put puts a binding into a table, and into its list: both say whether that may be.
func put(t *testing.T, x *Table, l list, b bound) list {
	t.Helper()
	next, want := l.with(b)
	if ok := x.Put(b.space, b.page, Binding{Frame: b.frame, Write: b.write}); ok != want {
		t.Fatalf("Put(%+v): %v, want %v", b, ok, want)
	}
	return next
}

// table makes a table of these, put in this order, and its list.
func table(t *testing.T, all ...bound) (*Table, list) {
	t.Helper()
	x := New()
	var l list
	for _, b := range all {
		l = put(t, x, l, b)
	}
	return x, l
}

// several tells bindings of unlike pages of three spaces, in an order that is not theirs, to three frames.
func several() []bound {
	return []bound{
		{63, 31, 5, true}, {2, 7, 5, false}, {0, 31, 511, true}, {2, 0, 0, true}, {63, 0, 0, false}, {0, 9, 5, true},
		{2, 31, 5, true}, {0, 10, 0, false}, {2, 3, 511, false}, {63, 12, 5, false}, {0, 0, 5, false}, {2, 10, 5, true},
	}
}

// full tells bindings of all pages of all spaces, to frames that are used alike often.
func full() []bound {
	var all []bound
	for space := range 64 {
		for page := range 32 {
			all = append(all, bound{space, page, (space*37 + page*101) % 512, (space+page)%2 == 1})
		}
	}
	return all
}

// shuffled tells these in an order by chance.
func shuffled(r *rand.Rand, all []bound) []bound {
	all = slices.Clone(all)
	r.Shuffle(len(all), func(i, j int) { all[i], all[j] = all[j], all[i] })
	return all
}

// Promise 15.1.

func TestNewBindsNothing(t *testing.T) {
	x := New()
	if x == nil {
		t.Fatal("New tells a nil table")
	}
	check(t, x, nil)
	dropsNothing(t, x)
	check(t, x, nil)
}

// dropsNothing asks a table without bindings to let go what may be, and what may not.
func dropsNothing(t *testing.T, x *Table) {
	t.Helper()
	for _, space := range append(spaces, noSpaces...) {
		for _, page := range append(pages, noPages...) {
			if x.Drop(space, page) {
				t.Fatalf("Drop(%d, %d): true", space, page)
			}
		}
		if n := x.Empty(space); n != 0 {
			t.Fatalf("Empty(%d): %d, want 0", space, n)
		}
	}
	for _, frame := range append(frames, noNumbers...) {
		if n := x.Release(frame); n != 0 {
			t.Fatalf("Release(%d): %d, want 0", frame, n)
		}
	}
}

func TestPutAtTheEdges(t *testing.T) {
	for _, c := range []struct {
		space, page, frame int
		ok                 bool
	}{
		{0, 0, 0, true}, {63, 31, 511, true}, {0, 31, 511, true}, {63, 0, 511, true}, {63, 31, 0, true}, {0, 0, 511, true}, {0, 31, 0, true}, {63, 0, 0, true},
		{64, 0, 0, false}, {-1, 0, 0, false}, {0, 32, 0, false}, {0, -1, 0, false}, {0, 0, 512, false}, {0, 0, -1, false},
		{64, 31, 511, false}, {63, 32, 511, false}, {63, 31, 512, false}, {-1, 31, 511, false}, {63, -1, 511, false}, {63, 31, -1, false},
		{math.MinInt, 0, 0, false}, {math.MaxInt, 0, 0, false}, {0, math.MinInt, 0, false}, {0, math.MaxInt, 0, false}, {0, 0, math.MinInt, false}, {0, 0, math.MaxInt, false},
		{-1, -1, -1, false}, {64, 32, 512, false}, {math.MinInt, math.MinInt, math.MinInt, false}, {math.MaxInt, math.MaxInt, math.MaxInt, false},
	} {
		for _, write := range []bool{false, true} {
			x, l := table(t, bound{40, 20, 300, !write})
			b := Binding{Frame: c.frame, Write: write}
			if ok := x.Put(c.space, c.page, b); ok != c.ok {
				t.Fatalf("Put(%d, %d, %v): %v, want %v", c.space, c.page, b, ok, c.ok)
			}
			if c.ok {
				l = append(l, bound{c.space, c.page, c.frame, write})
			}
			check(t, x, l)
		}
	}
}

func TestPutOfAllNumbers(t *testing.T) {
	x, l := table(t)
	for _, write := range []bool{true, false} {
		for _, space := range append(spaces, noSpaces...) {
			l = put(t, x, l, bound{space, 5, 7, write})
		}
		for _, page := range append(pages, noPages...) {
			l = put(t, x, l, bound{5, page, 8, write})
		}
		for i, frame := range append(frames, noNumbers...) {
			l = put(t, x, l, bound{6, i % 32, frame, write})
		}
		check(t, x, l)
	}
}

func TestPutOfEverySpacePageAndFrame(t *testing.T) {
	for n := -600; n < 1200; n++ {
		x := New()
		for _, c := range []struct {
			b    bound
			most int
		}{{bound{n, 1, 2, true}, 63}, {bound{1, n, 2, true}, 31}, {bound{2, 1, n, true}, 511}} {
			if ok := x.Put(c.b.space, c.b.page, Binding{c.b.frame, c.b.write}); ok != (n >= 0 && n <= c.most) {
				t.Fatalf("Put(%+v): %v", c.b, ok)
			}
		}
	}
}

func TestPutRefusedChangesNothing(t *testing.T) {
	for _, all := range [][]bound{nil, several(), full()} {
		x, l := table(t, all...)
		for _, write := range []bool{false, true} {
			for _, space := range noSpaces {
				put(t, x, l, bound{space, 9, 5, write})
			}
			for _, page := range noPages {
				put(t, x, l, bound{0, page, 5, write})
			}
			for _, frame := range noNumbers {
				put(t, x, l, bound{0, 9, frame, write}) // that is bound, but in the first
			}
		}
		check(t, x, l)
	}
}

func TestPutOntoWhatIsBound(t *testing.T) {
	for _, was := range []Binding{{5, false}, {5, true}, {0, false}, {511, true}} {
		for _, b := range []Binding{{5, false}, {5, true}, {0, false}, {0, true}, {511, false}, {511, true}, {6, true}} {
			x, l := table(t, bound{1, 9, 5, true}, bound{1, 2, was.Frame, was.Write}, bound{2, 2, 6, false})
			if !x.Put(1, 2, b) || x.Len() != 3 {
				t.Fatalf("Put of %v onto %v: refused, or %d bound, want 3", b, was, x.Len())
			}
			if got, ok := x.Get(1, 2); got != b || !ok {
				t.Fatalf("Put of %v onto %v: Get tells %v %v", b, was, got, ok)
			}
			l[1] = bound{1, 2, b.Frame, b.Write}
			check(t, x, l)
		}
	}
}

func TestTheNewFrameIsTheOneThatCounts(t *testing.T) {
	x, _ := table(t, bound{1, 2, 5, true}, bound{1, 2, 6, true})
	if n := x.Release(5); n != 0 || len(x.Uses(5)) != 0 || x.Len() != 1 {
		t.Errorf("Release of the frame where the page was: %d, uses %v, %d bound", n, x.Uses(5), x.Len())
	}
	if n := x.Release(6); n != 1 || len(x.Uses(6)) != 0 || x.Len() != 0 {
		t.Errorf("Release of the frame where the page is: %d, uses %v, %d bound", n, x.Uses(6), x.Len())
	}
}

func TestEveryPageOfEverySpace(t *testing.T) {
	all := full()
	x, l := table(t, all...)
	check(t, x, l)
	if n := x.Len(); n != 64*32 {
		t.Errorf("Len of a full table: %d, want %d", n, 64*32)
	}
	for i, b := range all {
		if got, ok := x.Get(b.space, b.page); got != (Binding{b.frame, b.write}) || !ok {
			t.Fatalf("Get(%d, %d): %v %v, want %+v", b.space, b.page, got, ok, b)
		}
		if !x.Drop(b.space, b.page) || x.Drop(b.space, b.page) {
			t.Fatalf("Drop(%d, %d), twice: want true, and false", b.space, b.page)
		}
		checkUnbound(t, x, b.space, b.page)
		if n := x.Len(); n != len(all)-1-i {
			t.Fatalf("Len behind Drop(%d, %d): %d, want %d", b.space, b.page, n, len(all)-1-i)
		}
	}
	check(t, x, nil)
}

func TestEveryFrame(t *testing.T) {
	for _, write := range []bool{false, true} {
		for frame := range 512 {
			x := New()
			b := Binding{Frame: frame, Write: write}
			if !x.Put(33, 17, b) {
				t.Fatalf("Put of %v: false", b)
			}
			if got, ok := x.Get(33, 17); got != b || !ok {
				t.Fatalf("Get: %v %v, want %v", got, ok, b)
			}
			for other := range 512 {
				if n := len(x.Uses(other)); (n == 1) != (other == frame) || n > 1 {
					t.Fatalf("Uses(%d), of a page in %d: %v", other, frame, x.Uses(other))
				}
			}
		}
	}
}

func TestDrop(t *testing.T) {
	for i, b := range several() {
		x, l := table(t, several()...)
		if !x.Drop(b.space, b.page) {
			t.Errorf("Drop of %+v: false", b)
		}
		gone := slices.Delete(slices.Clone(l), i, i+1)
		check(t, x, gone)
		if x.Drop(b.space, b.page) {
			t.Errorf("Drop of %+v again: true", b)
		}
		check(t, x, gone)
		check(t, x, put(t, x, gone, b))
	}
}

func TestDropBesideWhatIsBound(t *testing.T) {
	for _, b := range several() {
		for _, c := range []struct{ space, page int }{
			{b.space, b.page + 1}, {b.space, b.page - 1}, {b.space + 1, b.page}, {b.space - 1, b.page}, {b.page, b.space},
			{b.space + 64, b.page}, {b.space - 64, b.page}, {b.space, b.page + 32}, {b.space, b.page - 32},
			{b.space + 1, b.page - 32}, {b.space - 1, b.page + 32}, {b.space + 1<<32, b.page}, {b.space, b.page + 1<<32},
		} {
			x, l := table(t, several()...)
			_, want := l.get(c.space, c.page)
			if x.Drop(c.space, c.page) != want {
				t.Errorf("Drop(%d, %d): %v, want %v", c.space, c.page, !want, want)
			}
			check(t, x, l.without(isOfPage(c.space, c.page)))
		}
	}
}

func TestDropOfTheZeroBinding(t *testing.T) {
	x, _ := table(t, bound{0, 0, 0, false})
	if b, ok := x.Get(0, 0); b != (Binding{}) || !ok {
		t.Errorf("Get: %v %v, want the zero binding and true", b, ok)
	}
	if !same(x.Uses(0), [][2]int{{0, 0}}) || !slices.Equal(x.Pages(0), []int{0}) || x.Len() != 1 {
		t.Errorf("what is bound to frame 0 is not told: %v %v %d", x.Uses(0), x.Pages(0), x.Len())
	}
	if !x.Drop(0, 0) || x.Drop(0, 0) || x.Len() != 0 {
		t.Error("Drop of a page that is bound to frame 0, twice: want true, and false")
	}
}

func TestNumbersThatMayNotBeDropNothing(t *testing.T) {
	for _, all := range [][]bound{several(), full()} {
		x, l := table(t, all...)
		for _, no := range noSpaces {
			if n := x.Empty(no); n != 0 {
				t.Errorf("Empty(%d): %d, want 0", no, n)
			}
			for page := range 32 {
				if x.Drop(no, page) {
					t.Errorf("Drop(%d, %d): true", no, page)
				}
			}
		}
		for _, no := range noPages {
			for space := range 64 {
				if x.Drop(space, no) {
					t.Errorf("Drop(%d, %d): true", space, no)
				}
			}
		}
		for _, no := range noNumbers {
			if n := x.Release(no); n != 0 {
				t.Errorf("Release(%d): %d, want 0", no, n)
			}
		}
		check(t, x, l)
	}
}

func TestLen(t *testing.T) {
	x := New()
	is := func(n int, what string) {
		t.Helper()
		if x.Len() != n {
			t.Fatalf("Len behind %s: %d, want %d", what, x.Len(), n)
		}
	}
	is(0, "New")
	x.Put(1, 2, Binding{5, true})
	is(1, "Put")
	x.Put(1, 2, Binding{6, false})
	is(1, "Put of the same page")
	x.Put(2, 2, Binding{6, true})
	x.Put(1, 3, Binding{6, true})
	x.Put(1, 4, Binding{7, true})
	is(4, "Put of three others")
	x.Put(64, 2, Binding{6, true})
	x.Put(1, 2, Binding{512, true})
	is(4, "Put that is refused")
	x.Get(1, 2)
	x.Get(9, 9)
	x.Pages(1)
	x.Uses(6)
	is(4, "Get, Pages and Uses")
	x.Drop(9, 9)
	is(4, "Drop of what isn't bound")
	x.Drop(1, 4)
	is(3, "Drop")
	x.Empty(1)
	is(1, "Empty")
	x.Release(6)
	is(0, "Release")
}

// Promise 15.2.

func TestExample(t *testing.T) {
	x := New()
	if !x.Put(1, 2, Binding{Frame: 5}) || !x.Put(0, 9, Binding{Frame: 5}) {
		t.Error("Put: false")
	}
	if l := x.Uses(5); !same(l, [][2]int{{0, 9}, {1, 2}}) {
		t.Errorf("Uses: %v", l)
	}
	if n := x.Release(5); n != 2 {
		t.Errorf("Release: %d, want 2", n)
	}
	check(t, x, nil)
}

func TestPages(t *testing.T) {
	others := []bound{{0, 3, 1, true}, {2, 4, 1, true}, {63, 31, 2, false}, {1, 0, 9, true}, {32, 1, 1, true}}
	for _, space := range []int{0, 1, 2, 31, 63} {
		for seed := range int64(20) {
			r := rand.New(rand.NewSource(seed))
			all := slices.Clone(others)
			var want []int
			for page := range 32 {
				if r.Intn(3) > 0 {
					want = append(want, page)
					all = append(all, bound{space, page, r.Intn(512), page%2 == 0})
				}
			}
			x, l := table(t, shuffled(r, all)...)
			for _, b := range others {
				if b.space == space && !slices.Contains(want, b.page) {
					want = append(want, b.page)
				}
			}
			slices.Sort(want)
			if got := x.Pages(space); !slices.Equal(got, want) {
				t.Fatalf("Pages(%d): %v, want %v", space, got, want)
			}
			checkPages(t, x, l)
		}
	}
}

func TestPagesOfOnePageAndOfAll(t *testing.T) {
	for _, space := range spaces {
		x := New()
		for page := 31; page >= 0; page-- {
			y, _ := table(t, bound{space, page, 511, false})
			if l := y.Pages(space); !slices.Equal(l, []int{page}) {
				t.Fatalf("Pages(%d): %v, want %d alone", space, l, page)
			}
			x.Put(space, page, Binding{page, true})
		}
		l := x.Pages(space)
		if len(l) != 32 || !slices.IsSorted(l) || l[0] != 0 || l[31] != 31 {
			t.Fatalf("Pages(%d): %v, want all", space, l)
		}
	}
}

func TestEmpty(t *testing.T) {
	for _, all := range [][]bound{several(), full()} {
		for _, space := range []int{0, 1, 2, 32, 63} {
			x, l := table(t, all...)
			want := len(l.pages(space))
			left := l.without(isOfSpace(space))
			if n := x.Empty(space); n != want || x.Len() != len(left) {
				t.Fatalf("Empty(%d): %d, want %d; Len: %d, want %d", space, n, want, x.Len(), len(left))
			}
			check(t, x, left)
			if n := x.Empty(space); n != 0 {
				t.Fatalf("Empty(%d) again: %d, want 0", space, n)
			}
			check(t, x, left)
			check(t, x, put(t, x, left, bound{space, 31, 200, true}))
			if n := x.Empty(space); n != 1 {
				t.Fatalf("Empty(%d) of one page that was put again: %d", space, n)
			}
		}
	}
}

func TestUses(t *testing.T) {
	r := rand.New(rand.NewSource(7))
	want := [][2]int{{0, 0}, {0, 1}, {0, 31}, {1, 0}, {1, 30}, {2, 2}, {2, 10}, {5, 7}, {10, 2}, {31, 31}, {32, 0}, {63, 0}, {63, 9}, {63, 31}}
	all := []bound{{0, 2, 4, true}, {63, 30, 6, true}, {5, 5, 511, true}, {7, 5, 0, false}, {1, 1, 261, false}}
	for i, at := range want {
		all = append(all, bound{at[0], at[1], 5, i%2 == 0})
	}
	for range 50 {
		x, l := table(t, shuffled(r, all)...)
		if got := x.Uses(5); !same(got, want) {
			t.Fatalf("Uses(5): %v, want %v", got, want)
		}
		checkUses(t, x, l)
	}
}

func TestUsesOfAllPages(t *testing.T) {
	r := rand.New(rand.NewSource(8))
	for _, frame := range []int{0, 5, 511} {
		var all []bound
		var want [][2]int
		for space := range 64 {
			for page := range 32 {
				all = append(all, bound{space, page, frame, r.Intn(2) == 0})
				want = append(want, [2]int{space, page})
			}
		}
		x, _ := table(t, shuffled(r, all)...)
		if got := x.Uses(frame); !same(got, want) {
			t.Fatalf("Uses(%d) of all pages are not all, by space, then by page", frame)
		}
		for _, space := range []int{0, 63} {
			if n := x.Empty(space); n != 32 {
				t.Fatalf("Empty(%d): %d, want 32", space, n)
			}
		}
		if got := x.Uses(frame); !same(got, want[32:63*32]) {
			t.Fatalf("Uses(%d) behind Empty: %d, want %d", frame, len(got), 62*32)
		}
		if n := x.Release(frame); n != 62*32 || x.Len() != 0 {
			t.Fatalf("Release(%d): %d, want %d", frame, n, 62*32)
		}
	}
}

func TestRelease(t *testing.T) {
	for _, all := range [][]bound{several(), full()} {
		for _, frame := range []int{0, 4, 5, 6, 63, 511} {
			x, l := table(t, all...)
			want := len(l.uses(frame))
			left := l.without(isOfFrame(frame))
			if n := x.Release(frame); n != want || x.Len() != len(left) {
				t.Fatalf("Release(%d): %d, want %d; Len: %d, want %d", frame, n, want, x.Len(), len(left))
			}
			check(t, x, left)
			if n := x.Release(frame); n != 0 {
				t.Fatalf("Release(%d) again: %d, want 0", frame, n)
			}
			check(t, x, left)
			check(t, x, put(t, x, left, bound{0, 9, frame, false}))
			if n := x.Release(frame); n != 1 {
				t.Fatalf("Release(%d) of one page that was put again: %d", frame, n)
			}
		}
	}
}

// The rules.

func TestAnswersAreTheAskersOwn(t *testing.T) {
	x, l := table(t, several()...)
	for space := range 64 {
		first, second := x.Pages(space), x.Pages(space)
		for i := range first {
			first[i] = 77
		}
		_ = append(first[:0], slices.Repeat([]int{66}, cap(first))...)
		if !slices.Equal(second, l.pages(space)) {
			t.Fatalf("two answers of Pages(%d) share memory: %v", space, second)
		}
	}
	for frame := range 512 {
		first, second := x.Uses(frame), x.Uses(frame)
		for i := range first {
			first[i] = [2]int{77, 77}
		}
		_ = append(first[:0], slices.Repeat([][2]int{{66, 66}}, cap(first))...)
		if !same(second, l.uses(frame)) {
			t.Fatalf("two answers of Uses(%d) share memory: %v", frame, second)
		}
	}
	check(t, x, l)
}

func TestAnswersStay(t *testing.T) {
	x, l := table(t, several()...)
	pages, uses := x.Pages(2), x.Uses(5)
	y, _ := table(t, several()...)
	y.Pages(63)
	y.Uses(511)
	x.Pages(0)
	x.Uses(0)
	x.Put(2, 1, Binding{5, true})
	x.Put(2, 7, Binding{9, true})
	x.Release(5)
	x.Empty(2)
	if !slices.Equal(pages, l.pages(2)) || !same(uses, l.uses(5)) {
		t.Errorf("answers changed behind later calls: %v, %v", pages, uses)
	}
}

func TestTablesAreApart(t *testing.T) {
	a, la := table(t, several()...)
	b, lb := table(t, bound{2, 7, 1, true}, bound{9, 9, 5, true})
	check(t, a, la)
	check(t, b, lb)
	a.Release(5)
	a.Empty(9)
	a.Drop(9, 9)
	check(t, b, lb)
	check(t, a, la.without(isOfFrame(5)))
	b.Empty(2)
	b.Put(0, 0, Binding{7, true})
	check(t, a, la.without(isOfFrame(5)))
	check(t, New(), nil)
}

func TestNil(t *testing.T) {
	var x *Table
	for range 2 {
		check(t, x, nil)
		dropsNothing(t, x)
		for _, space := range append(spaces, noSpaces...) {
			for _, page := range append(pages, noPages...) {
				for _, frame := range []int{0, 5, 511, 512, -1, math.MaxInt, math.MinInt} {
					if x.Put(space, page, Binding{frame, true}) {
						t.Fatalf("Put(%d, %d, %d) of a nil table: true", space, page, frame)
					}
				}
			}
		}
		if x != nil {
			t.Fatal("a nil table is none any more")
		}
	}
}

func TestZero(t *testing.T) {
	x := &Table{}
	check(t, x, nil)
	dropsNothing(t, x)
	var l list
	for _, b := range several() {
		l = put(t, x, l, b)
	}
	check(t, x, l)
}

// Promise 15.3.

// bindsNothingTo tells whether no page is bound to a frame, however one asks.
func bindsNothingTo(x *Table, frame int) bool {
	for space := range 64 {
		for page := range 32 {
			if b, ok := x.Get(space, page); ok && b.Frame == frame {
				return false
			}
		}
	}
	return len(x.Uses(frame)) == 0
}

func TestReleasedFrameIsNotBound(t *testing.T) {
	for seed := range int64(30) {
		r := rand.New(rand.NewSource(seed))
		x, l := table(t)
		for range 200 {
			l = put(t, x, l, bound{r.Intn(64), r.Intn(32), r.Intn(4), r.Intn(2) == 0})
		}
		want := len(l.uses(1))
		if bindsNothingTo(x, 1) || x.Release(1) != want {
			t.Fatalf("seed %d: Release tells not how many were bound, want %d", seed, want)
		}
		for range 30 {
			if !bindsNothingTo(x, 1) {
				t.Fatalf("seed %d: a page is bound to a frame that was released: %v", seed, x.Uses(1))
			}
			if n := x.Release(1); n != 0 {
				t.Fatalf("seed %d: Release again: %d, want 0", seed, n)
			}
			switch r.Intn(5) {
			case 0:
				x.Drop(r.Intn(64), r.Intn(32))
			case 1:
				x.Empty(r.Intn(64))
			case 2:
				x.Release(2)
			default:
				x.Put(r.Intn(64), r.Intn(32), Binding{2 * r.Intn(3), true})
			}
		}
		if !x.Put(3, 3, Binding{1, true}) || bindsNothingTo(x, 1) {
			t.Fatalf("seed %d: a frame that was released can't be bound again", seed)
		}
	}
}

// All of it.

// pick draws a number: few ones mostly, so that calls meet, any that may be, and now and then one that may not.
func pick(r *rand.Rand, most int, no []int) int {
	switch r.Intn(12) {
	case 0:
		return no[r.Intn(len(no))]
	case 1, 2, 3:
		return r.Intn(most + 1)
	case 4:
		return []int{0, most, most + 1, -1}[r.Intn(4)]
	}
	return 1 + r.Intn(4)
}

// step does one call by chance, on a table and on its list, and holds the answers against each other.
func step(t *testing.T, r *rand.Rand, x *Table, l list) list {
	t.Helper()
	space, page, frame := pick(r, 63, noSpaces), pick(r, 31, noPages), pick(r, 511, noNumbers)
	switch r.Intn(20) {
	case 0:
		if n := x.Release(frame); n != len(l.uses(frame)) {
			t.Fatalf("Release(%d): %d, want %d", frame, n, len(l.uses(frame)))
		}
		return l.without(isOfFrame(frame))
	case 1:
		if n := x.Empty(space); n != len(l.pages(space)) {
			t.Fatalf("Empty(%d): %d, want %d", space, n, len(l.pages(space)))
		}
		return l.without(isOfSpace(space))
	case 2, 3, 4:
		_, want := l.get(space, page)
		if was := x.Drop(space, page); was != want {
			t.Fatalf("Drop(%d, %d): %v, want %v", space, page, was, want)
		}
		return l.without(isOfPage(space, page))
	case 5, 6:
		if got := x.Uses(frame); !same(got, l.uses(frame)) {
			t.Fatalf("Uses(%d): %v, want %v", frame, got, l.uses(frame))
		}
	case 7, 8:
		if got := x.Pages(space); !slices.Equal(got, l.pages(space)) {
			t.Fatalf("Pages(%d): %v, want %v", space, got, l.pages(space))
		}
	case 9, 10:
		want, there := l.get(space, page)
		if b, ok := x.Get(space, page); b != want || ok != there {
			t.Fatalf("Get(%d, %d): %v %v, want %v %v", space, page, b, ok, want, there)
		}
	default:
		return put(t, x, l, bound{space, page, frame, r.Intn(2) == 0})
	}
	return l
}

func TestManyCalls(t *testing.T) {
	for seed := range int64(30) {
		t.Run(fmt.Sprint(seed), func(t *testing.T) {
			r := rand.New(rand.NewSource(seed))
			a, la := table(t)
			b, lb := table(t)
			for i := range 600 {
				la, lb = step(t, r, a, la), step(t, r, b, lb)
				if a.Len() != len(la) || b.Len() != len(lb) {
					t.Fatalf("Len: %d and %d, want %d and %d", a.Len(), b.Len(), len(la), len(lb))
				}
				if i%60 == 59 {
					check(t, a, la)
					check(t, b, lb)
				}
			}
		})
	}
}

func TestTheSameCallsAgain(t *testing.T) {
	tell := func() string {
		x, _ := table(t, shuffled(rand.New(rand.NewSource(3)), full())...)
		x.Release(17)
		x.Empty(40)
		told := ""
		for frame := range 512 {
			told += fmt.Sprint(x.Uses(frame))
		}
		for space := range 64 {
			told += fmt.Sprint(x.Pages(space))
		}
		return told
	}
	first := tell()
	for range 5 {
		if tell() != first {
			t.Fatal("the same calls, made again, are answered otherwise")
		}
	}
}
