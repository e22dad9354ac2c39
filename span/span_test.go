package span

import (
	"math"
	"math/rand"
	"slices"
	"testing"
)

// numbers says of each number whether it is of a set: what a set is held against.
type numbers [1024]bool

// of tells the numbers from one on, ahead of another one, asked one by one.
func of(from, to int) numbers {
	var w numbers
	for n := range w {
		w[n] = from <= n && n < to
	}
	return w
}

// laid tells the numbers for which a rule holds, asked one by one.
func laid(v, w numbers, rule func(a, b bool) bool) numbers {
	var out numbers
	for n := range out {
		out[n] = rule(v[n], w[n])
	}
	return out
}

func with(v, w numbers) numbers {
	return laid(v, w, func(a, b bool) bool { return a || b })
}

func without(v, w numbers) numbers {
	return laid(v, w, func(a, b bool) bool { return a && !b })
}

func both(v, w numbers) numbers {
	return laid(v, w, func(a, b bool) bool { return a && b })
}

// all tells the numbers, rising.
func (w numbers) all() []int {
	var l []int
	for n, is := range w {
		if is {
			l = append(l, n)
		}
	}
	return l
}

// rows tells as few rows as can be: a number begins one if the number ahead is not there.
func (w numbers) rows() [][2]int {
	var l [][2]int
	for _, n := range w.all() {
		if n == 0 || !w[n-1] {
			l = append(l, [2]int{n, n})
		}
		l[len(l)-1][1] = n + 1
	}
	return l
}

// first tells the n least numbers.
func (w numbers) first(n int) numbers {
	var out numbers
	for at, is := range w {
		if is && n > 0 {
			out[at] = true
			n--
		}
	}
	return out
}

// within tells whether all numbers are of others, too.
func (w numbers) within(v numbers) bool {
	return without(w, v) == numbers{}
}

// set makes the set of these numbers, number by number.
func (w numbers) set() Set {
	var s Set
	for _, n := range w.all() {
		s = s.With(Of(n, n+1))
	}
	return s
}

// beyond are numbers that no set has.
var beyond = []int{math.MinInt, math.MinInt + 1, math.MinInt32, -1024, -2, -1, 1024, 1025, 1026, 2047, 2048, 65536, math.MaxInt32, math.MaxInt - 1, math.MaxInt}

// check asks a set for all its numbers, in all ways: it has these.
func check(t *testing.T, s Set, want numbers) {
	t.Helper()
	for n, is := range want {
		if s.Has(n) != is {
			t.Fatalf("Has(%d): %v, want %v", n, !is, is)
		}
	}
	for _, n := range beyond {
		if s.Has(n) {
			t.Fatalf("Has(%d): true", n)
		}
	}
	all, rows := want.all(), want.rows()
	if n := s.Len(); n != len(all) {
		t.Fatalf("Len: %d, want %d", n, len(all))
	}
	if l := s.All(); !slices.Equal(l, all) {
		t.Fatalf("All: %v, want %v", l, all)
	}
	if l := s.Rows(); !slices.Equal(l, rows) {
		t.Fatalf("Rows: %v, want %v", l, rows)
	}
}

// sample is a set, and the numbers that it has.
type sample struct {
	set  Set
	nums numbers
}

// made tells the sample of these numbers.
func made(w numbers) sample {
	return sample{w.set(), w}
}

// samples are sets of all sorts: empty, of one number, of one row, of many.
func samples() []sample {
	var l []sample
	for _, w := range sampleNumbers() {
		l = append(l, made(w))
	}
	return l
}

func sampleNumbers() []numbers {
	l := []numbers{
		{},
		of(0, 1024),
		of(0, 1), of(1, 2), of(512, 513), of(1022, 1023), of(1023, 1024),
		of(0, 10), of(10, 20), of(20, 30), of(9, 11), of(12, 18), of(15, 25), of(10, 30),
		of(0, 1023), of(1, 1024), of(1, 1023), of(1000, 1024), of(0, 512), of(512, 1024),
		with(of(10, 20), of(30, 40)), with(of(20, 30), of(40, 50)), with(of(0, 10), of(1014, 1024)),
		without(of(0, 1024), of(512, 513)), without(of(10, 30), of(15, 16)),
	}
	for _, every := range []int{2, 3, 7} {
		for from := range 2 {
			var w numbers
			for n := from; n < len(w); n += every {
				w[n] = true
			}
			l = append(l, w, without(of(0, 1024), w))
		}
	}
	r := rand.New(rand.NewSource(10))
	for range 12 {
		l = append(l, anyNumbers(r))
	}
	return l
}

// anyNumbers tells rows and gaps of lengths up to one that itself may be small or great.
func anyNumbers(r *rand.Rand) numbers {
	var w numbers
	most := 1 + r.Intn(1<<r.Intn(9))
	is := r.Intn(2) == 0
	for n := 0; n < len(w); is = !is {
		for range 1 + r.Intn(most) {
			if n < len(w) {
				w[n] = is
				n++
			}
		}
	}
	return w
}

// Promise 10.1.

func TestMost(t *testing.T) {
	if Most != 1023 {
		t.Errorf("Most: %d, want 1023", Most)
	}
}

func TestExample(t *testing.T) {
	s := Of(2, 5).Without(Of(3, 4))
	if l := s.Rows(); !slices.Equal(l, [][2]int{{2, 3}, {4, 5}}) {
		t.Errorf("Rows: %v, want 2 3 and 4 5", l)
	}
	check(t, s, with(of(2, 3), of(4, 5)))
}

func TestOf(t *testing.T) {
	ends := append([]int{0, 1, 2, 3, 510, 511, 512, 513, 1021, 1022, 1023}, beyond...)
	for _, from := range ends {
		for _, to := range ends {
			s := Of(from, to)
			check(t, s, of(from, to))
			if n := len(s.Rows()); n > 1 {
				t.Fatalf("Of(%d, %d): %d rows", from, to, n)
			}
		}
	}
}

func TestOfEveryRow(t *testing.T) {
	for _, from := range []int{-3, 0, 1, 700, 1020, 1023, 1024} {
		for to := -5; to < 1030; to++ {
			lo, hi := max(from, 0), min(to, 1024)
			s := Of(from, to)
			if n := s.Len(); n != max(hi-lo, 0) {
				t.Fatalf("Of(%d, %d).Len: %d, want %d", from, to, n, max(hi-lo, 0))
			}
			if lo < hi && !slices.Equal(s.Rows(), [][2]int{{lo, hi}}) {
				t.Fatalf("Of(%d, %d).Rows: %v", from, to, s.Rows())
			}
		}
	}
}

// lays holds With, Without, Both and Within of two sets against numbers that are asked one by one; and neither set is changed.
func lays(t *testing.T, a, b sample) {
	t.Helper()
	check(t, a.set.With(b.set), with(a.nums, b.nums))
	check(t, b.set.With(a.set), with(a.nums, b.nums))
	check(t, a.set.Without(b.set), without(a.nums, b.nums))
	check(t, b.set.Without(a.set), without(b.nums, a.nums))
	check(t, a.set.Both(b.set), both(a.nums, b.nums))
	check(t, b.set.Both(a.set), both(a.nums, b.nums))
	if is := a.set.Within(b.set); is != a.nums.within(b.nums) {
		t.Fatalf("%v Within %v: %v", a.nums.rows(), b.nums.rows(), is)
	}
	if is := b.set.Within(a.set); is != b.nums.within(a.nums) {
		t.Fatalf("%v Within %v: %v", b.nums.rows(), a.nums.rows(), is)
	}
	check(t, a.set, a.nums)
	check(t, b.set, b.nums)
}

func TestTwoSets(t *testing.T) {
	l := samples()
	for i, a := range l {
		for _, b := range l[:i+1] {
			lays(t, a, b)
		}
	}
}

// few tells all sets of five numbers, from one on.
func few(from int) []sample {
	var l []sample
	for bits := range 1 << 5 {
		var w numbers
		for i := range 5 {
			w[from+i] = bits>>i&1 == 1
		}
		l = append(l, made(w))
	}
	return l
}

// All sets of the first five numbers, of the last five, and of five between, with each other.
func TestTwoSmallSets(t *testing.T) {
	for _, from := range []int{0, 500, 1019} {
		l := few(from)
		for i, a := range l {
			for _, b := range l[:i+1] {
				lays(t, a, b)
			}
		}
	}
}

// Two rows, of which one begins and ends anywhere ahead of, at, within and behind the other one.
func TestTwoRows(t *testing.T) {
	for from := 495; from < 510; from++ {
		for to := from; to < 510; to++ {
			lays(t, made(of(from, to)), made(of(500, 505)))
		}
	}
}

func TestRowsThatTouchAreOne(t *testing.T) {
	for at := range 1025 {
		s := Of(0, at).With(Of(at, 1024))
		if l := s.Rows(); !slices.Equal(l, [][2]int{{0, 1024}}) {
			t.Fatalf("up to %d, and from there on: %v", at, l)
		}
		s = Of(at, 1024).With(Of(0, at))
		if l := s.Rows(); !slices.Equal(l, [][2]int{{0, 1024}}) {
			t.Fatalf("from %d on, and up to there: %v", at, l)
		}
	}
	s := Of(0, 3).With(Of(6, 9)).With(Of(12, 15))
	s = s.With(Of(3, 6).With(Of(9, 12)))
	if l := s.Rows(); !slices.Equal(l, [][2]int{{0, 15}}) {
		t.Errorf("gaps that were filled: %v", l)
	}
	s = Of(5, 9).With(Of(0, 20)).With(Of(7, 12)).Both(Of(4, 30))
	if l := s.Rows(); !slices.Equal(l, [][2]int{{4, 20}}) {
		t.Errorf("rows that overlap: %v", l)
	}
}

// As many rows as there can be: 512 of one number each.
func TestMostRows(t *testing.T) {
	var v, w numbers
	for n := range v {
		v[n], w[n] = n%2 == 0, n%2 == 1
	}
	even, odd := v.set(), w.set()
	if n := len(even.Rows()); n != 512 {
		t.Errorf("even numbers: %d rows, want 512", n)
	}
	if l := even.With(odd).Rows(); !slices.Equal(l, [][2]int{{0, 1024}}) {
		t.Errorf("even and odd ones: %v", l)
	}
	if n := even.Both(odd).Len(); n != 0 {
		t.Errorf("even ones that are odd: %d", n)
	}
	check(t, even, v)
	check(t, odd, w)
	check(t, Of(0, 1024).Without(even), w)
	check(t, even.Without(odd), v)
}

func TestFirst(t *testing.T) {
	for _, a := range samples() {
		s, w := a.set, a.nums
		counts := []int{math.MinInt, math.MinInt + 1, -1024, -2, -1, 0, 1, 2, 3, 1023, 1024, 1025, math.MaxInt32, math.MaxInt - 1, math.MaxInt}
		total := len(w.all())
		counts = append(counts, total-2, total-1, total, total+1, total/2, total/3)
		behind := 0
		for i, r := range w.rows() {
			behind += r[1] - r[0]
			if i < 6 {
				counts = append(counts, behind-1, behind, behind+1)
			}
		}
		for _, n := range counts {
			check(t, s.First(n), w.first(n))
		}
		check(t, s, w)
	}
}

func TestFirstOfEveryCount(t *testing.T) {
	w := with(with(of(3, 9), of(10, 11)), with(of(20, 60), of(1020, 1024)))
	s := w.set()
	for n := -3; n < 60; n++ {
		f := s.First(n)
		check(t, f, w.first(n))
		if f.Len() != min(max(n, 0), s.Len()) || !f.Within(s) {
			t.Fatalf("First(%d): %v", n, f.All())
		}
	}
}

// Promise 10.2.

func TestHas(t *testing.T) {
	s := Of(4, 7).With(Of(9, 10)).With(Of(1000, 1024))
	for n, want := range map[int]bool{-1: false, 0: false, 3: false, 4: true, 5: true, 6: true, 7: false, 8: false, 9: true, 10: false, 999: false, 1000: true, 1022: true, 1023: true, 1024: false, 1025: false, math.MinInt: false, math.MaxInt: false} {
		if s.Has(n) != want {
			t.Errorf("Has(%d): %v, want %v", n, !want, want)
		}
	}
	if !Of(0, 1).Has(0) || Of(0, 1).Has(1) || Of(0, 1).Has(-1) {
		t.Error("Has of the set of 0")
	}
}

func TestEverySample(t *testing.T) {
	for _, a := range samples() {
		s, w := a.set, a.nums
		for range 2 { // asking takes nothing
			check(t, s, w)
		}
	}
}

func TestAllNumbers(t *testing.T) {
	s := Of(math.MinInt, math.MaxInt)
	l := s.All()
	if s.Len() != 1024 || len(l) != 1024 {
		t.Fatalf("Len: %d, All: %d numbers", s.Len(), len(l))
	}
	for n := range l {
		if l[n] != n {
			t.Fatalf("All: number %d is %d", n, l[n])
		}
	}
	if l := s.Rows(); !slices.Equal(l, [][2]int{{0, 1024}}) {
		t.Errorf("Rows: %v, want 0 1024", l)
	}
}

func TestWithin(t *testing.T) {
	for _, a := range samples() {
		s, w := a.set, a.nums
		if !s.Within(s) || !s.Within(w.set()) {
			t.Fatalf("%v: not within itself", w.rows())
		}
		if !(Set{}).Within(s) || !s.Within(Of(0, 1024)) {
			t.Fatalf("%v: nothing is not within it, or it is not within all", w.rows())
		}
		if s.Within(Set{}) != (s.Len() == 0) {
			t.Fatalf("%v Within nothing: %v", w.rows(), s.Len() != 0)
		}
		for _, n := range w.all() {
			less := s.Without(Of(n, n+1))
			if s.Within(less) || !less.Within(s) {
				t.Fatalf("%v, and it without %d", w.rows(), n)
			}
		}
	}
}

func TestWithinOfWhatLacksOne(t *testing.T) {
	s := Of(100, 200)
	for n := range 1024 {
		lacks := Of(0, 1024).Without(Of(n, n+1))
		if s.Within(lacks) != (n < 100 || n >= 200) {
			t.Fatalf("Within all but %d: %v", n, s.Within(lacks))
		}
	}
}

// nothing holds a set against the empty one, in every call.
func nothing(t *testing.T, s Set) {
	t.Helper()
	check(t, s, numbers{})
	for _, n := range []int{math.MinInt, -1, 0, 1, 2, 1024, math.MaxInt} {
		check(t, s.First(n), numbers{})
	}
	w := with(of(3, 5), of(9, 1024))
	other := w.set()
	check(t, s.With(other), w)
	check(t, other.With(s), w)
	check(t, s.Without(other), numbers{})
	check(t, other.Without(s), w)
	check(t, s.Both(other), numbers{})
	check(t, other.Both(s), numbers{})
	for _, empty := range []Set{s, {}} {
		check(t, s.With(empty), numbers{})
		check(t, s.Without(empty), numbers{})
		check(t, s.Both(empty), numbers{})
		if !s.Within(empty) || !empty.Within(s) {
			t.Fatal("nothing is not within nothing")
		}
	}
	if !s.Within(other) || other.Within(s) {
		t.Fatal("Within of nothing")
	}
	check(t, s, numbers{})
}

func TestZeroSet(t *testing.T) {
	var s Set
	nothing(t, s)
	nothing(t, Of(5, 5))
	nothing(t, Of(6, 5))
	nothing(t, Of(math.MaxInt, math.MinInt))
	nothing(t, Of(-9, 0))
	nothing(t, Of(1024, 2000))
	nothing(t, Of(3, 8).Without(Of(0, 9)))
	nothing(t, Of(3, 8).Both(Of(8, 9)))
	nothing(t, Of(3, 8).First(0))
	nothing(t, s.With(s))
}

// Rules: what is answered is the asker's own; what is handed in is not changed.

func TestAnswersAreTheAskersOwn(t *testing.T) {
	for _, a := range samples() {
		s, w := a.set, a.nums
		rows, all, others, again := s.Rows(), s.All(), s.Rows(), s.All()
		for i := range rows {
			rows[i] = [2]int{i, 5000}
		}
		for i := range all {
			all[i] = -7
		}
		rows, all = append(rows, [2]int{8, 9}), append(all, 8)
		if !slices.Equal(others, w.rows()) || !slices.Equal(again, w.all()) || len(rows) == len(others) || len(all) == len(again) {
			t.Fatal("another answer was changed")
		}
		check(t, s, w)
	}
}

// What lies behind a list's end is nobody else's either.
func TestAnswersGrowApart(t *testing.T) {
	w := with(of(3, 9), with(of(20, 30), of(50, 60)))
	s := w.set()
	a, b := s.First(2), s.First(7)
	x := append(a.Rows(), [2]int{700, 701})
	y := append(b.Rows(), [2]int{800, 801})
	l := append(s.Rows()[:1], [2]int{900, 901}, [2]int{902, 903})
	check(t, s, w)
	check(t, a, w.first(2))
	check(t, b, w.first(7))
	if x[1] != [2]int{700, 701} || y[2] != [2]int{800, 801} || l[2] != [2]int{902, 903} {
		t.Errorf("lists: %v %v %v", x, y, l)
	}
}

// apart tells whether two sets share no memory.
func apart(s, t Set) bool {
	return len(s.rows) == 0 || len(t.rows) == 0 || &s.rows[0] != &t.rows[0]
}

func TestSetsShareNoMemory(t *testing.T) {
	s, all := Of(3, 9).With(Of(20, 30)), Of(0, 1024)
	sets := []Set{s, all, s.With(Set{}), Set{}.With(s), s.With(s), s.Without(Set{}), s.Without(Of(9, 20)), s.Both(all), all.Both(s), s.Both(s), s.First(16), s.First(math.MaxInt), s.First(4)}
	for i, a := range sets {
		for _, b := range sets[:i] {
			if !apart(a, b) {
				t.Fatalf("set %d shares memory with another one", i)
			}
		}
	}
}

// Of a set that was made from others, whatever is done with one of them changes nothing of the others.
func TestNothingChangesASet(t *testing.T) {
	l := samples()
	r := rand.New(rand.NewSource(3))
	for range 3000 {
		l = append(l, anotherSample(r, l))
	}
	for _, a := range l {
		check(t, a.set, a.nums)
	}
}

// anotherSample makes one out of two that there are.
func anotherSample(r *rand.Rand, l []sample) sample {
	a, b, n := l[r.Intn(len(l))], l[r.Intn(len(l))], r.Intn(1030)
	switch r.Intn(5) {
	case 0:
		return sample{a.set.With(b.set), with(a.nums, b.nums)}
	case 1:
		return sample{a.set.Without(b.set), without(a.nums, b.nums)}
	case 2:
		return sample{a.set.Both(b.set), both(a.nums, b.nums)}
	case 3:
		return sample{a.set.First(n), a.nums.first(n)}
	default:
		return sample{a.set.With(Of(n-3, n)), with(a.nums, of(n-3, n))}
	}
}

// Promise 10.3.

// putBack takes a set out of another one and puts it back: it is as it was, if it was within it; else what was taken out is of it, too.
func putBack(t *testing.T, v, w sample) {
	t.Helper()
	a, b := v.set, w.set
	back := a.Without(b).With(b)
	check(t, back, with(v.nums, w.nums))
	if same := slices.Equal(back.Rows(), a.Rows()); same != b.Within(a) || same != w.nums.within(v.nums) {
		t.Fatalf("%v, out of %v and back: as it was: %v", w.nums.rows(), v.nums.rows(), same)
	}
	part := a.Both(b)
	check(t, a.Without(part).With(part), v.nums)
	check(t, a.Without(b).Both(b), numbers{})
	check(t, a.With(b).Without(b), without(v.nums, w.nums))
}

func TestTakenOutAndPutBack(t *testing.T) {
	l := samples()
	for _, v := range l {
		for _, w := range l {
			putBack(t, v, w)
		}
	}
	for _, from := range []int{0, 1019} {
		l := few(from)
		for _, v := range l {
			for _, w := range l {
				putBack(t, v, w)
			}
		}
	}
}

func TestFirstTakenOutAndPutBack(t *testing.T) {
	for _, a := range samples() {
		s, w := a.set, a.nums
		for _, n := range []int{-1, 0, 1, 2, 5, 100, 600, 1024, math.MaxInt} {
			f := s.First(n)
			rest := s.Without(f)
			if !f.Within(s) || f.Len()+rest.Len() != s.Len() {
				t.Fatalf("%v: the first %d, and the rest", w.rows(), n)
			}
			check(t, rest.With(f), w)
		}
	}
}
