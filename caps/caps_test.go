package caps

import (
	"math"
	"math/rand"
	"slices"
	"testing"

	"onionskin/api"
	"onionskin/span"
)

// numbers says of each number whether a cap has it.
type numbers [1024]bool

// of tells the numbers of a set, asked one by one.
func of(s span.Set) numbers {
	var w numbers
	for n := range w {
		w[n] = s.Has(n)
	}
	return w
}

// all tells the numbers, rising.
func (w *numbers) all() []int {
	var l []int
	for n, is := range w {
		if is {
			l = append(l, n)
		}
	}
	return l
}

// one is a cap as the plain list has it.
type one struct {
	cap, parent Cap // the parent of the first one: the zero cap
	nums        numbers
}

// list is what a tree is held against: the caps that are there, in the order in which they came, and how many ever were.
type list struct {
	caps []*one
	made uint64
}

// begin makes a tree of one cap, and its list.
func begin(t *testing.T, set span.Set) (*Tree, *list) {
	t.Helper()
	x, c := New(set)
	if want := (Cap{At: 0, Gen: 1}); c != want {
		t.Fatalf("New: %v, want %v", c, want)
	}
	return x, &list{caps: []*one{{cap: c, nums: of(set)}}, made: 1}
}

// find tells a cap of the list, nil if it is not there.
func (l *list) find(c Cap) *one {
	for _, o := range l.caps {
		if o.cap == c {
			return o
		}
	}
	return nil
}

// above tells whether a cap is derived from another one, or from one that is, and so on.
func (l *list) above(c, over Cap) bool {
	for o := l.find(c); o.parent != (Cap{}); o = l.find(o.parent) {
		if o.parent == over {
			return true
		}
	}
	return false
}

// children tells the caps that are derived from one, by their places.
func (l *list) children(c Cap) []Cap {
	var all []Cap
	for _, o := range l.caps {
		if o.parent == c && c != (Cap{}) {
			all = append(all, o.cap)
		}
	}
	slices.SortFunc(all, func(a, b Cap) int { return a.At - b.At })
	return all
}

// lent tells the numbers of the caps that are derived from one.
func (l *list) lent(c Cap) numbers {
	var w numbers
	for _, child := range l.children(c) {
		for n, is := range l.find(child).nums {
			w[n] = w[n] || is
		}
	}
	return w
}

// place tells the least free place; 64 if there is none.
func (l *list) place() int {
	for at := 0; ; at++ {
		if !slices.ContainsFunc(l.caps, func(o *one) bool { return o.cap.At == at }) {
			return at
		}
	}
}

func (l *list) derive(c Cap, set numbers) (Cap, api.Errno) {
	from := l.find(c)
	if from == nil {
		return Cap{}, api.ENOENT
	}
	if set == (numbers{}) {
		return Cap{}, api.EARG
	}
	for n, is := range set {
		if is && !from.nums[n] {
			return Cap{}, api.EPERM
		}
	}
	lent := l.lent(c)
	for n, is := range set {
		if is && lent[n] {
			return Cap{}, api.EBUSY
		}
	}
	if len(l.caps) == 64 {
		return Cap{}, api.ENOMEM
	}
	l.made++
	made := Cap{At: l.place(), Gen: l.made}
	l.caps = append(l.caps, &one{cap: made, parent: c, nums: set})
	return made, api.OK
}

// leave lets the caps of which a rule says so be gone: how many. (The rule is asked of all ahead of the first one's going.)
func (l *list) leave(rule func(o *one) bool) int {
	var left []*one
	for _, o := range l.caps {
		if !rule(o) {
			left = append(left, o)
		}
	}
	n := len(l.caps) - len(left)
	l.caps = left
	return n
}

func (l *list) revoke(c Cap) (int, api.Errno) {
	if l.find(c) == nil {
		return 0, api.ENOENT
	}
	return l.leave(func(o *one) bool { return l.above(o.cap, c) }), api.OK
}

func (l *list) drop(c Cap) (int, api.Errno) {
	o := l.find(c)
	if o == nil {
		return 0, api.ENOENT
	}
	if o.parent == (Cap{}) {
		return 0, api.EPERM
	}
	return l.leave(func(o *one) bool { return o.cap == c || l.above(o.cap, c) }), api.OK
}

func (l *list) cut(c Cap, set numbers) (int, api.Errno) {
	if l.find(c) == nil {
		return 0, api.ENOENT
	}
	had := 0
	for _, o := range l.caps {
		if o.cap != c && !l.above(o.cap, c) {
			continue
		}
		was := o.nums
		for n, is := range set {
			o.nums[n] = o.nums[n] && !is
		}
		if was != o.nums {
			had++
		}
	}
	l.leave(func(o *one) bool { return o.nums == numbers{} && o.parent != Cap{} })
	return had, api.OK
}

// over tells the caps that have a number: who is derived from another one came later.
func (l *list) over(n int) []Cap {
	var all []Cap
	for _, o := range l.caps {
		if n >= 0 && n < len(o.nums) && o.nums[n] {
			all = append(all, o.cap)
		}
	}
	return all
}

// some are numbers of which Over is asked often: edges, and what no cap has.
var some = []int{math.MinInt, math.MinInt32, -1024, -2, -1, 0, 1, 2, 3, 5, 8, 13, 21, 63, 64, 1022, 1023, 1024, 1025, 1087, 2048, 65536, math.MaxInt32, math.MaxInt}

// checkCap asks a tree for all of a cap.
func checkCap(t *testing.T, x *Tree, l *list, o *one) {
	t.Helper()
	if s, ok := x.Set(o.cap); !ok || !slices.Equal(s.All(), o.nums.all()) {
		t.Fatalf("Set(%v): %v %v, want %v", o.cap, s.Rows(), ok, o.nums.all())
	}
	if p, ok := x.Parent(o.cap); p != o.parent || ok != (o.parent != Cap{}) {
		t.Fatalf("Parent(%v): %v %v, want %v", o.cap, p, ok, o.parent)
	}
	if got, want := x.Children(o.cap), l.children(o.cap); !slices.Equal(got, want) {
		t.Fatalf("Children(%v): %v, want %v", o.cap, got, want)
	}
	lent := l.lent(o.cap)
	if s := x.Lent(o.cap); !slices.Equal(s.All(), lent.all()) {
		t.Fatalf("Lent(%v): %v, want %v", o.cap, s.Rows(), lent.all())
	}
}

// checkGone makes all calls of a cap that is not there: they answer nothing.
func checkGone(t *testing.T, x *Tree, c Cap) {
	t.Helper()
	if s, ok := x.Set(c); ok || s.Len() != 0 {
		t.Fatalf("Set(%v), which is not there: %v %v", c, s.Rows(), ok)
	}
	if p, ok := x.Parent(c); ok || p != (Cap{}) {
		t.Fatalf("Parent(%v), which is not there: %v %v", c, p, ok)
	}
	if l := x.Children(c); len(l) != 0 {
		t.Fatalf("Children(%v), which is not there: %v", c, l)
	}
	if s := x.Lent(c); s.Len() != 0 {
		t.Fatalf("Lent(%v), which is not there: %v", c, s.Rows())
	}
	for _, s := range []span.Set{span.Of(0, 1), span.Of(0, 1024), {}} {
		if d, err := x.Derive(c, s); d != (Cap{}) || err != api.ENOENT {
			t.Fatalf("Derive(%v), which is not there: %v %v", c, d, err)
		}
		if n, err := x.Cut(c, s); n != 0 || err != api.ENOENT {
			t.Fatalf("Cut(%v), which is not there: %v %v", c, n, err)
		}
	}
	if n, err := x.Revoke(c); n != 0 || err != api.ENOENT {
		t.Fatalf("Revoke(%v), which is not there: %v %v", c, n, err)
	}
	if n, err := x.Drop(c); n != 0 || err != api.ENOENT {
		t.Fatalf("Drop(%v), which is not there: %v %v", c, n, err)
	}
}

// check asks a tree for all that it has: just what the list has, nothing more.
func check(t *testing.T, x *Tree, l *list) {
	t.Helper()
	if n := x.Len(); n != len(l.caps) {
		t.Fatalf("Len: %d, want %d", n, len(l.caps))
	}
	for _, o := range l.caps {
		checkCap(t, x, l, o)
	}
	for _, n := range some {
		if got, want := x.Over(n), l.over(n); !slices.Equal(got, want) {
			t.Fatalf("Over(%d): %v, want %v", n, got, want)
		}
	}
	checkSound(t, x, l)
}

// checkSound holds a tree against what follows: a cap's numbers are its parent's, and no two that are derived from one have one together.
func checkSound(t *testing.T, x *Tree, l *list) {
	t.Helper()
	for _, o := range l.caps {
		own, _ := x.Set(o.cap)
		var met span.Set
		for _, c := range x.Children(o.cap) {
			s, ok := x.Set(c)
			if !ok || s.Len() == 0 || !s.Within(own) {
				t.Fatalf("%v has %v of its parent's %v", c, s.Rows(), own.Rows())
			}
			if met.Both(s).Len() != 0 {
				t.Fatalf("%v has %v, of which others that are derived from %v have some", c, s.Rows(), o.cap)
			}
			met = met.With(s)
		}
	}
}

// checkNowhere asks for caps at all places, of all Gens that there were: those that are not on the list are not there.
func checkNowhere(t *testing.T, x *Tree, l *list) {
	t.Helper()
	places := []int{math.MinInt, math.MinInt32, -65, -64, -63, -2, -1, 64, 65, 127, 128, 1024, math.MaxInt32, math.MaxInt}
	for at := range 64 {
		places = append(places, at)
	}
	gens := []uint64{0, l.made + 1, l.made + 2, math.MaxUint32, math.MaxUint32 + 1, math.MaxUint32 + 2, math.MaxInt64, math.MaxInt64 + 1, math.MaxUint64}
	for g := range min(l.made, 70) {
		gens = append(gens, g+1)
	}
	for _, at := range places {
		for _, g := range gens {
			if c := (Cap{At: at, Gen: g}); l.find(c) == nil {
				checkGone(t, x, c)
			}
		}
	}
	check(t, x, l)
}

// derive derives a cap of the tree and of the list: both say the same.
func derive(t *testing.T, x *Tree, l *list, c Cap, set span.Set) Cap {
	t.Helper()
	got, err := x.Derive(c, set)
	want, wantErr := l.derive(c, of(set))
	if got != want || err != wantErr {
		t.Fatalf("Derive(%v, %v): %v %v, want %v %v", c, set.Rows(), got, err, want, wantErr)
	}
	return got
}

// refused derives a cap that may not be.
func refused(t *testing.T, x *Tree, c Cap, set span.Set, want api.Errno) {
	t.Helper()
	n := x.Len()
	if got, err := x.Derive(c, set); got != (Cap{}) || err != want {
		t.Errorf("Derive(%v, %v): %v %v, want %v", c, set.Rows(), got, err, want)
	}
	if x.Len() != n {
		t.Errorf("Derive(%v, %v): there are %d caps, not %d", c, set.Rows(), x.Len(), n)
	}
}

func revoke(t *testing.T, x *Tree, l *list, c Cap) {
	t.Helper()
	n, err := x.Revoke(c)
	if want, wantErr := l.revoke(c); n != want || err != wantErr {
		t.Fatalf("Revoke(%v): %d %v, want %d %v", c, n, err, want, wantErr)
	}
}

func drop(t *testing.T, x *Tree, l *list, c Cap) {
	t.Helper()
	n, err := x.Drop(c)
	if want, wantErr := l.drop(c); n != want || err != wantErr {
		t.Fatalf("Drop(%v): %d %v, want %d %v", c, n, err, want, wantErr)
	}
}

func cut(t *testing.T, x *Tree, l *list, c Cap, set span.Set) {
	t.Helper()
	n, err := x.Cut(c, set)
	if want, wantErr := l.cut(c, of(set)); n != want || err != wantErr {
		t.Fatalf("Cut(%v, %v): %d %v, want %d %v", c, set.Rows(), n, err, want, wantErr)
	}
}

func TestMost(t *testing.T) {
	if Most != 64 {
		t.Error(Most)
	}
}

// TestExamples: the chapter's examples, and what stands about them (12.1, 12.2).
func TestExamples(t *testing.T) {
	x, first := New(span.Of(0, 10))
	a, err := x.Derive(first, span.Of(2, 6))
	if a != (Cap{At: 1, Gen: 2}) || err != api.OK {
		t.Error(a, err)
	}
	if c, err := x.Derive(first, span.Of(4, 7)); c != (Cap{}) || err != api.EBUSY {
		t.Error(c, err)
	}
	if n, err := x.Revoke(first); n != 1 || err != api.OK {
		t.Error(n, err)
	}
	if b, err := x.Derive(first, span.Of(4, 7)); b != (Cap{At: 1, Gen: 3}) || err != api.OK {
		t.Error(b, err)
	}
	if x.Len() != 2 {
		t.Error(x.Len())
	}
}

// TestNew: trees of any set, the empty one too (12.1).
func TestNew(t *testing.T) {
	for _, s := range []span.Set{{}, span.Of(0, 1), span.Of(5, 6), span.Of(1023, 1024), span.Of(0, 1024), span.Of(0, 9).With(span.Of(20, 22))} {
		x, l := begin(t, s)
		checkNowhere(t, x, l)
		y, _ := begin(t, s)
		first := l.caps[0].cap
		drop(t, x, l, first)
		revoke(t, x, l, first)
		cut(t, x, l, first, span.Of(0, 1024))
		checkNowhere(t, x, l)
		if got, _ := y.Set(first); !slices.Equal(got.All(), s.All()) {
			t.Errorf("New(%v): another tree of it has %v", s.Rows(), got.Rows())
		}
	}
}

// family is a first cap with two derived from it, of which one has two in turn, of which one has one.
type family struct {
	x                         *Tree
	l                         *list
	first, a, b, aa, ab, aaa  Cap
	gone                      Cap // was there for a while
	missing                   []Cap
	setA, setB, setAA, setAAA span.Set
}

// made makes a family, of 0 to 99.
func made(t *testing.T) *family {
	t.Helper()
	f := &family{setA: span.Of(10, 50), setB: span.Of(60, 70).With(span.Of(80, 90)), setAA: span.Of(10, 20), setAAA: span.Of(12, 14)}
	f.x, f.l = begin(t, span.Of(0, 100))
	f.first = f.l.caps[0].cap
	f.gone = derive(t, f.x, f.l, f.first, span.Of(0, 100))
	drop(t, f.x, f.l, f.gone)
	f.a = derive(t, f.x, f.l, f.first, f.setA)
	f.b = derive(t, f.x, f.l, f.first, f.setB)
	f.aa = derive(t, f.x, f.l, f.a, f.setAA)
	f.ab = derive(t, f.x, f.l, f.a, span.Of(30, 31))
	f.aaa = derive(t, f.x, f.l, f.aa, f.setAAA)
	f.missing = []Cap{f.gone, {}, {At: 0, Gen: 2}, {At: 1, Gen: 1}, {At: 1, Gen: 4}, {At: 6, Gen: 8}, {At: -1, Gen: 1}, {At: 64, Gen: 1}, {At: 63, Gen: 0}}
	return f
}

// TestAsked: what is told of caps of a family (12.1).
func TestAsked(t *testing.T) {
	f := made(t)
	checkNowhere(t, f.x, f.l)
	for _, y := range []struct {
		c, parent Cap
		children  []Cap
		lent, set span.Set
	}{
		{f.first, Cap{}, []Cap{f.a, f.b}, f.setA.With(f.setB), span.Of(0, 100)},
		{f.a, f.first, []Cap{f.aa, f.ab}, f.setAA.With(span.Of(30, 31)), f.setA},
		{f.b, f.first, nil, span.Set{}, f.setB},
		{f.aa, f.a, []Cap{f.aaa}, f.setAAA, f.setAA},
		{f.ab, f.a, nil, span.Set{}, span.Of(30, 31)},
		{f.aaa, f.aa, nil, span.Set{}, f.setAAA},
	} {
		if s, ok := f.x.Set(y.c); !ok || !slices.Equal(s.Rows(), y.set.Rows()) {
			t.Errorf("Set(%v): %v %v", y.c, s.Rows(), ok)
		}
		if p, ok := f.x.Parent(y.c); p != y.parent || ok != (y.c != f.first) {
			t.Errorf("Parent(%v): %v %v", y.c, p, ok)
		}
		if l := f.x.Children(y.c); !slices.Equal(l, y.children) {
			t.Errorf("Children(%v): %v", y.c, l)
		}
		if s := f.x.Lent(y.c); !slices.Equal(s.Rows(), y.lent.Rows()) {
			t.Errorf("Lent(%v): %v", y.c, s.Rows())
		}
	}
	if f.x.Len() != 6 {
		t.Error(f.x.Len())
	}
	for _, c := range f.missing {
		checkGone(t, f.x, c)
	}
}

// TestChildrenByPlace: who came later may stand ahead (12.1).
func TestChildrenByPlace(t *testing.T) {
	f := made(t)
	drop(t, f.x, f.l, f.a)
	c := derive(t, f.x, f.l, f.first, span.Of(5, 6))
	if c.At != 1 || c.Gen != 8 {
		t.Error(c)
	}
	if l := f.x.Children(f.first); !slices.Equal(l, []Cap{c, f.b}) {
		t.Error(l)
	}
	check(t, f.x, f.l)
}

// TestDerive: some numbers, all of them, in rows or one by one; as deep as there are places (12.2).
func TestDerive(t *testing.T) {
	x, l := begin(t, span.Of(0, 1024))
	c := l.caps[0].cap
	for _, s := range []span.Set{span.Of(0, 1024), span.Of(0, 1000), span.Of(0, 10).With(span.Of(20, 30)), span.Of(0, 10).With(span.Of(20, 30)), span.Of(25, 30), span.Of(28, 29), span.Of(28, 29)} {
		c = derive(t, x, l, c, s)
		check(t, x, l)
	}
	for l.place() < 64 {
		c = derive(t, x, l, c, span.Of(28, 29))
	}
	if n := len(x.Over(28)); n != 64 {
		t.Error(n)
	}
	check(t, x, l)
	second := x.Over(28)[1]
	revoke(t, x, l, second)
	if x.Len() != 2 {
		t.Error(x.Len())
	}
	drop(t, x, l, second)
	checkNowhere(t, x, l)
}

// TestDeriveRefused: each error, also where later ones would apply, too; nothing changes (12.2, R2, R3).
func TestDeriveRefused(t *testing.T) {
	f := made(t)
	foreign := span.Of(99, 101)
	for _, c := range f.missing {
		for _, s := range []span.Set{{}, span.Of(0, 1), foreign, f.setA} {
			refused(t, f.x, c, s, api.ENOENT)
		}
	}
	for _, y := range []struct {
		c    Cap
		set  span.Set
		want api.Errno
	}{
		{f.first, span.Set{}, api.EARG}, {f.b, span.Of(5, 5), api.EARG}, {f.aaa, span.Of(5, 3), api.EARG},
		{f.first, foreign, api.EPERM}, {f.first, span.Of(0, 1024), api.EPERM}, {f.first, f.setA.With(foreign), api.EPERM},
		{f.a, span.Of(9, 11), api.EPERM}, {f.a, span.Of(40, 51), api.EPERM}, {f.a, f.setB, api.EPERM}, {f.b, span.Of(60, 71), api.EPERM},
		{f.b, span.Of(60, 90), api.EPERM}, {f.aaa, span.Of(11, 13), api.EPERM}, {f.aa, f.setA, api.EPERM},
		{f.first, span.Of(49, 52), api.EBUSY}, {f.first, span.Of(5, 11), api.EBUSY}, {f.first, span.Of(0, 100), api.EBUSY}, {f.first, span.Of(89, 90), api.EBUSY},
		{f.first, f.setAAA, api.EBUSY}, {f.a, span.Of(30, 31), api.EBUSY}, {f.a, f.setAAA, api.EBUSY}, {f.aa, span.Of(10, 20), api.EBUSY},
	} {
		refused(t, f.x, y.c, y.set, y.want)
	}
	check(t, f.x, f.l)
	if c := derive(t, f.x, f.l, f.aaa, f.setAAA); c != (Cap{At: 6, Gen: 8}) {
		t.Error("those that were refused counted", c)
	}
	check(t, f.x, f.l)
}

// TestDeriveFull: ENOMEM with 64 caps, but where another error comes first (12.2).
func TestDeriveFull(t *testing.T) {
	x, l := begin(t, span.Of(0, 100))
	first := l.caps[0].cap
	var all []Cap
	for n := range 63 {
		all = append(all, derive(t, x, l, first, span.Of(n, n+1)))
	}
	check(t, x, l)
	refused(t, x, first, span.Of(70, 71), api.ENOMEM)
	refused(t, x, all[0], span.Of(0, 1), api.ENOMEM)
	refused(t, x, first, span.Of(62, 64), api.EBUSY)
	refused(t, x, first, span.Of(99, 101), api.EPERM)
	refused(t, x, first, span.Set{}, api.EARG)
	refused(t, x, Cap{At: 63, Gen: 63}, span.Of(70, 71), api.ENOENT)
	check(t, x, l)
	drop(t, x, l, all[40])
	drop(t, x, l, all[20])
	drop(t, x, l, all[62])
	refused(t, x, first, span.Of(19, 21), api.EBUSY)
	for i, at := range []int{21, 41, 63} {
		if c := derive(t, x, l, first, span.Of(70+i, 71+i)); c != (Cap{At: at, Gen: uint64(65 + i)}) {
			t.Error(at, c)
		}
	}
	refused(t, x, first, span.Of(80, 81), api.ENOMEM)
	checkGone(t, x, all[20])
	checkGone(t, x, all[40])
	checkGone(t, x, all[62])
	check(t, x, l)
}

// TestRevoke: what is derived goes, whatever is derived from that too; the cap stays, and its numbers are free again (12.2).
func TestRevoke(t *testing.T) {
	for _, y := range []struct {
		of   func(f *family) Cap
		many int
	}{
		{func(f *family) Cap { return f.first }, 5},
		{func(f *family) Cap { return f.a }, 3},
		{func(f *family) Cap { return f.aa }, 1},
		{func(f *family) Cap { return f.b }, 0},
		{func(f *family) Cap { return f.aaa }, 0},
	} {
		f := made(t)
		c := y.of(f)
		if n, err := f.x.Revoke(c); n != y.many || err != api.OK {
			t.Errorf("Revoke(%v): %d %v", c, n, err)
		}
		f.l.revoke(c)
		checkNowhere(t, f.x, f.l)
		if n, err := f.x.Revoke(c); n != 0 || err != api.OK {
			t.Errorf("Revoke(%v) again: %d %v", c, n, err)
		}
		set, _ := f.x.Set(c)
		derive(t, f.x, f.l, c, set)
		check(t, f.x, f.l)
	}
}

// TestDrop: the cap goes, too, and its numbers are free at its parent; the first one doesn't (12.2).
func TestDrop(t *testing.T) {
	for _, y := range []struct {
		of   func(f *family) Cap
		many int
	}{
		{func(f *family) Cap { return f.a }, 4},
		{func(f *family) Cap { return f.b }, 1},
		{func(f *family) Cap { return f.aa }, 2},
		{func(f *family) Cap { return f.ab }, 1},
		{func(f *family) Cap { return f.aaa }, 1},
	} {
		f := made(t)
		c := y.of(f)
		set, _ := f.x.Set(c)
		parent, _ := f.x.Parent(c)
		if n, err := f.x.Drop(c); n != y.many || err != api.OK {
			t.Errorf("Drop(%v): %d %v", c, n, err)
		}
		f.l.drop(c)
		checkNowhere(t, f.x, f.l)
		drop(t, f.x, f.l, c)
		derive(t, f.x, f.l, parent, set)
		check(t, f.x, f.l)
	}
	f := made(t)
	if n, err := f.x.Drop(f.first); n != 0 || err != api.EPERM {
		t.Error(n, err)
	}
	check(t, f.x, f.l)
	for _, c := range f.missing {
		if n, err := f.x.Drop(c); n != 0 || err != api.ENOENT {
			t.Error(c, n, err)
		}
	}
	check(t, f.x, f.l)
}

// TestCut: who had one is counted, who has none left is gone, those above and beside stay (12.3).
func TestCut(t *testing.T) {
	for _, y := range []struct {
		of        func(f *family) Cap
		set       span.Set
		had, left int
	}{
		{func(f *family) Cap { return f.first }, span.Set{}, 0, 6},
		{func(f *family) Cap { return f.a }, span.Set{}, 0, 6},
		{func(f *family) Cap { return f.first }, span.Of(100, 1024), 0, 6},
		{func(f *family) Cap { return f.a }, span.Of(0, 10).With(span.Of(50, 1024)), 0, 6},
		{func(f *family) Cap { return f.first }, span.Of(0, 10), 1, 6},
		{func(f *family) Cap { return f.a }, span.Of(40, 60), 1, 6},
		{func(f *family) Cap { return f.first }, span.Of(45, 65), 3, 6},
		{func(f *family) Cap { return f.first }, span.Of(13, 14), 4, 6},
		{func(f *family) Cap { return f.a }, span.Of(13, 14), 3, 6},
		{func(f *family) Cap { return f.aa }, span.Of(13, 14), 2, 6},
		{func(f *family) Cap { return f.aaa }, span.Of(13, 14), 1, 6},
		{func(f *family) Cap { return f.first }, span.Of(12, 14), 4, 5},
		{func(f *family) Cap { return f.aa }, span.Of(12, 14), 2, 5},
		{func(f *family) Cap { return f.aaa }, span.Of(0, 1024), 1, 5},
		{func(f *family) Cap { return f.a }, span.Of(0, 20), 3, 4},
		{func(f *family) Cap { return f.a }, span.Of(0, 31), 4, 3},
		{func(f *family) Cap { return f.a }, span.Of(10, 50), 4, 2},
		{func(f *family) Cap { return f.b }, span.Of(60, 90), 1, 5},
		{func(f *family) Cap { return f.first }, span.Of(10, 50), 5, 2},
		{func(f *family) Cap { return f.first }, span.Of(0, 100), 6, 1},
		{func(f *family) Cap { return f.first }, span.Of(0, 1024), 6, 1},
	} {
		f := made(t)
		c := y.of(f)
		if n, err := f.x.Cut(c, y.set); n != y.had || err != api.OK || f.x.Len() != y.left {
			t.Errorf("Cut(%v, %v): %d %v, %d are left; want %d, %d", c, y.set.Rows(), n, err, f.x.Len(), y.had, y.left)
		}
		f.l.cut(c, of(y.set))
		check(t, f.x, f.l)
		if n, _ := f.x.Cut(c, y.set); n != 0 {
			t.Errorf("Cut(%v, %v) again: %d", c, y.set.Rows(), n)
		}
		checkNowhere(t, f.x, f.l)
	}
}

// TestCutAgain: what was cut from a cap is free at those above it, and is not had by who is derived from it (12.3, 12.4).
func TestCutAgain(t *testing.T) {
	f := made(t)
	cut(t, f.x, f.l, f.a, span.Of(10, 20))
	refused(t, f.x, f.a, span.Of(19, 20), api.EPERM)
	c := derive(t, f.x, f.l, f.first, span.Of(10, 20))
	if c.At != 3 || c.Gen != 8 {
		t.Error(c)
	}
	checkNowhere(t, f.x, f.l)
	cut(t, f.x, f.l, f.first, span.Of(0, 1024))
	if s, ok := f.x.Set(f.first); !ok || s.Len() != 0 {
		t.Error(s.Rows(), ok)
	}
	refused(t, f.x, f.first, span.Of(0, 1), api.EPERM)
	refused(t, f.x, f.first, span.Set{}, api.EARG)
	if n, err := f.x.Drop(f.first); n != 0 || err != api.EPERM {
		t.Error(n, err)
	}
	if l := f.x.Over(5); len(l) != 0 {
		t.Error(l)
	}
	checkNowhere(t, f.x, f.l)
}

// TestOver: all numbers, and such as no cap has (12.3).
func TestOver(t *testing.T) {
	f := made(t)
	for n := -10; n < 1100; n++ {
		if got, want := f.x.Over(n), f.l.over(n); !slices.Equal(got, want) {
			t.Fatalf("Over(%d): %v, want %v", n, got, want)
		}
	}
	for _, y := range []struct {
		n    int
		want []Cap
	}{
		{-1, nil}, {0, []Cap{f.first}}, {9, []Cap{f.first}}, {10, []Cap{f.first, f.a, f.aa}}, {12, []Cap{f.first, f.a, f.aa, f.aaa}}, {14, []Cap{f.first, f.a, f.aa}},
		{20, []Cap{f.first, f.a}}, {30, []Cap{f.first, f.a, f.ab}}, {50, []Cap{f.first}}, {69, []Cap{f.first, f.b}}, {75, []Cap{f.first}}, {99, []Cap{f.first}}, {100, nil}, {1023, nil}, {1024, nil},
	} {
		if got := f.x.Over(y.n); !slices.Equal(got, y.want) {
			t.Errorf("Over(%d): %v, want %v", y.n, got, y.want)
		}
	}
	x, first := New(span.Of(0, 1024))
	last, _ := x.Derive(first, span.Of(1023, 1024))
	if l := x.Over(1023); !slices.Equal(l, []Cap{first, last}) {
		t.Error(l)
	}
}

// TestOverByDescent: who is derived from another one comes behind it, whatever their places are (12.3).
func TestOverByDescent(t *testing.T) {
	f := made(t)
	drop(t, f.x, f.l, f.b)
	c := derive(t, f.x, f.l, f.aaa, span.Of(12, 13))
	if c.At != 2 {
		t.Error(c)
	}
	if l := f.x.Over(12); !slices.Equal(l, []Cap{f.first, f.a, f.aa, f.aaa, c}) {
		t.Error(l)
	}
}

// TestGoneForGood: a cap that is gone is never there again, whatever stands at its place (12.4).
func TestGoneForGood(t *testing.T) {
	x, l := begin(t, span.Of(0, 4))
	first := l.caps[0].cap
	var gone []Cap
	for n := range 200 {
		c := derive(t, x, l, first, span.Of(1, 2))
		if c != (Cap{At: 1, Gen: uint64(n + 2)}) {
			t.Fatal(n, c)
		}
		for _, g := range gone {
			checkGone(t, x, g)
		}
		gone = append(gone, c)
		switch n % 3 {
		case 0:
			drop(t, x, l, c)
		case 1:
			revoke(t, x, l, first)
		case 2:
			cut(t, x, l, c, span.Of(0, 4))
		}
	}
	check(t, x, l)
}

// TestAnswersAreTheAskers: what was told may be changed; nothing of the tree changes, nor another answer (R4).
func TestAnswersAreTheAskers(t *testing.T) {
	f := made(t)
	children, again := f.x.Children(f.first), f.x.Children(f.first)
	over, overAgain := f.x.Over(12), f.x.Over(12)
	set, _ := f.x.Set(f.a)
	rows, all, lent := set.Rows(), set.All(), f.x.Lent(f.first).Rows()
	for i := range children {
		children[i] = Cap{At: 9, Gen: 9}
	}
	for i := range over {
		over[i] = Cap{At: 9, Gen: 9}
	}
	rows[0], all[0], lent[0] = [2]int{0, 1024}, 77, [2]int{0, 1024}
	_ = append(children[:1], Cap{At: 8})
	if !slices.Equal(again, []Cap{f.a, f.b}) || !slices.Equal(overAgain, []Cap{f.first, f.a, f.aa, f.aaa}) {
		t.Error(again, overAgain)
	}
	checkNowhere(t, f.x, f.l)
}

// TestSetsStay: sets that were handed in, or told, are as they were, whatever is done with the tree (R4).
func TestSetsStay(t *testing.T) {
	whole, part := span.Of(0, 100), span.Of(10, 20).With(span.Of(30, 40))
	x, first := New(whole)
	c, _ := x.Derive(first, part)
	told, _ := x.Set(c)
	lent := x.Lent(first)
	x.Cut(first, span.Of(15, 35))
	for _, y := range []struct{ got, want span.Set }{
		{whole, span.Of(0, 100)}, {part, span.Of(10, 20).With(span.Of(30, 40))}, {told, part}, {lent, part},
	} {
		if !slices.Equal(y.got.Rows(), y.want.Rows()) {
			t.Error(y.got.Rows(), y.want.Rows())
		}
	}
}

// TestNothing: a nil tree has no caps, and stays so; nor has the zero one (R1).
func TestNothing(t *testing.T) {
	for _, x := range []*Tree{nil, {}} {
		for _, at := range []int{math.MinInt, -1, 0, 1, 63, 64, math.MaxInt} {
			for _, gen := range []uint64{0, 1, 2, math.MaxUint64} {
				checkGone(t, x, Cap{At: at, Gen: gen})
			}
		}
		for _, n := range some {
			if l := x.Over(n); len(l) != 0 {
				t.Error(n, l)
			}
		}
		if x.Len() != 0 {
			t.Error(x.Len())
		}
	}
}

// anySet tells a set of some numbers up to a bound, mostly of a few rows.
func anySet(r *rand.Rand, bound int) span.Set {
	var s span.Set
	for range r.Intn(4) {
		from := r.Intn(bound)
		s = s.With(span.Of(from, from+1+r.Intn(bound/2)))
	}
	return s
}

// anyCap tells a cap that is there, mostly; else one that was, or never will be.
func anyCap(r *rand.Rand, l *list, were []Cap) Cap {
	switch r.Intn(12) {
	case 0:
		return were[r.Intn(len(were))]
	case 1:
		return Cap{At: r.Intn(70) - 3, Gen: uint64(r.Intn(int(l.made) + 3))}
	}
	return l.caps[r.Intn(len(l.caps))].cap
}

// spare tells some of a cap's numbers that are not lent: what may be derived.
func spare(r *rand.Rand, l *list, c Cap, bound int) span.Set {
	o := l.find(c)
	if o == nil {
		return anySet(r, bound)
	}
	var s span.Set
	lent := l.lent(c)
	for n, is := range o.nums {
		if is && !lent[n] && r.Intn(3) > 0 {
			s = s.With(span.Of(n, n+1))
		}
	}
	return s
}

// TestAgainstList: any calls in any order, held against the plain list (12.1 to 12.4).
func TestAgainstList(t *testing.T) {
	for seed := range 40 {
		r := rand.New(rand.NewSource(int64(seed)))
		bound := []int{6, 20, 64, 300}[seed%4]
		x, l := begin(t, span.Of(0, bound))
		were := []Cap{l.caps[0].cap}
		for range 250 {
			c := anyCap(r, l, were)
			switch k := r.Intn(24); {
			case k < 12:
				were = append(were, derive(t, x, l, c, spare(r, l, c, bound)))
			case k < 18:
				were = append(were, derive(t, x, l, c, anySet(r, bound)))
			case k < 19:
				revoke(t, x, l, c)
			case k < 22:
				drop(t, x, l, c)
			case c != l.caps[0].cap || r.Intn(8) == 0:
				cut(t, x, l, c, anySet(r, bound))
			}
			check(t, x, l)
			if g := were[r.Intn(len(were))]; l.find(g) == nil {
				checkGone(t, x, g)
			}
		}
		checkNowhere(t, x, l)
	}
}

// TestFullAgainstList: likewise, with most places taken, one number a cap.
func TestFullAgainstList(t *testing.T) {
	r := rand.New(rand.NewSource(12))
	x, l := begin(t, span.Of(0, 1024))
	were, full := []Cap{l.caps[0].cap}, 0
	for range 1200 {
		c := anyCap(r, l, were)
		switch k := r.Intn(30); {
		case k < 1:
			drop(t, x, l, c)
		case k < 2 && c != l.caps[0].cap:
			revoke(t, x, l, c)
		default:
			n := r.Intn(1024)
			if r.Intn(2) == 0 {
				c = l.caps[0].cap
			}
			were = append(were, derive(t, x, l, c, span.Of(n, n+1+r.Intn(3))))
		}
		if len(l.caps) == 64 {
			full++
		}
		check(t, x, l)
	}
	if full < 100 {
		t.Error("the tree was full but", full, "times")
	}
}
