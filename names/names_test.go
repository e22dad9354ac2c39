package names

import (
	"math"
	"math/rand"
	"slices"
	"testing"

	"onionskin/span"
)

// list says of each name what it means, -1 if nothing: what a table is held against.
type list [512]int

// nothing tells the list of which no name means anything.
func nothing() list {
	var l list
	for name := range l {
		l[name] = -1
	}
	return l
}

// own tells the list of which the first names, so many, mean themselves.
func own(n int) list {
	l := nothing()
	for name := range l {
		if name < n {
			l[name] = name
		}
	}
	return l
}

// find tells the name by which a number is meant, -1 if by none.
func (l list) find(n int) int {
	if n < 0 {
		return -1
	}
	return slices.Index(l[:], n)
}

// add tells the list with a number more, and its name, -1 if it gets none.
func (l list) add(n int) (list, int) {
	name := slices.Index(l[:], -1)
	if n < 0 || n > 1023 || l.find(n) >= 0 || name < 0 {
		return l, -1
	}
	l[name] = n
	return l, name
}

// drop tells the list in which a name means nothing, and whether it meant something.
func (l list) drop(name int) (list, bool) {
	if name < 0 || name > 511 || l[name] < 0 {
		return l, false
	}
	l[name] = -1
	return l, true
}

// through tells what each name means by what another list says of what it means here.
func (l list) through(outer list) list {
	out := nothing()
	for name, n := range l {
		if n >= 0 && n < 512 {
			out[name] = outer[n]
		}
	}
	return out
}

// names tells the names that mean something, rising.
func (l list) names() []int {
	var all []int
	for name, n := range l {
		if n >= 0 {
			all = append(all, name)
		}
	}
	return all
}

// by tells of each number by which name it is meant, -1 if by none.
func (l list) by() [1024]int {
	var names [1024]int
	for n := range names {
		names[n] = -1
	}
	for name, n := range l {
		if n >= 0 {
			names[n] = name
		}
	}
	return names
}

// meant tells what is meant, rising.
func (l list) meant() []int {
	var all []int
	for n, name := range l.by() {
		if name >= 0 {
			all = append(all, n)
		}
	}
	return all
}

// table makes a table of this list: names that are to mean nothing mean something meanwhile.
func (l list) table(t *testing.T) Table {
	t.Helper()
	var made Table
	spare, by := 0, l.by()
	for name, n := range l {
		for n < 0 && by[spare] >= 0 {
			spare++
		}
		if n < 0 {
			n = spare
			spare++
		}
		next, at, ok := made.Add(n)
		if at != name || !ok {
			t.Fatalf("Add(%d): %d %v, want %d", n, at, ok, name)
		}
		made = next
	}
	for name, n := range l {
		if n >= 0 {
			continue
		}
		next, ok := made.Drop(name)
		if !ok {
			t.Fatalf("Drop(%d): false", name)
		}
		made = next
	}
	return made
}

// noNames are names that no table has.
var noNames = []int{math.MinInt, math.MinInt + 1, math.MinInt32, -65536, -512, -2, -1, 512, 513, 1023, 1024, 65535, 65536, 65537, math.MaxInt32, math.MaxInt - 1, math.MaxInt}

// noNumbers are numbers that no name may mean.
var noNumbers = []int{math.MinInt, math.MinInt + 1, math.MinInt32, -65537, -65536, -65535, -1024, -2, -1, 1024, 1025, 2047, 65534, 65535, 65536, 65537, math.MaxUint32, math.MaxUint32 + 1, math.MaxInt - 1, math.MaxInt}

// check asks a table for all that it says, in all ways: it is this.
func check(t *testing.T, a Table, want list) {
	t.Helper()
	checkGet(t, a, want)
	checkFind(t, a, want)
	names, meant := want.names(), want.meant()
	if n := a.Len(); n != len(names) {
		t.Fatalf("Len: %d, want %d", n, len(names))
	}
	if l := a.Names(); !slices.Equal(l, names) {
		t.Fatalf("Names: %v, want %v", l, names)
	}
	if l := a.Meant().All(); !slices.Equal(l, meant) {
		t.Fatalf("Meant: %v, want %v", l, meant)
	}
}

func checkGet(t *testing.T, a Table, want list) {
	t.Helper()
	for name, n := range want {
		if got, ok := a.Get(name); got != max(n, 0) || ok != (n >= 0) {
			t.Fatalf("Get(%d): %d %v, want %d", name, got, ok, n)
		}
	}
	for _, name := range noNames {
		if n, ok := a.Get(name); n != 0 || ok {
			t.Fatalf("Get(%d): %d %v", name, n, ok)
		}
	}
}

func checkFind(t *testing.T, a Table, want list) {
	t.Helper()
	for n, name := range want.by() {
		if got, ok := a.Find(n); got != max(name, 0) || ok != (name >= 0) {
			t.Fatalf("Find(%d): %d %v, want %d", n, got, ok, name)
		}
	}
	for _, n := range noNumbers {
		if name, ok := a.Find(n); name != 0 || ok {
			t.Fatalf("Find(%d): %d %v", n, name, ok)
		}
	}
}

// checkAdd adds a number to a table of which a list says the same, which stays as it was.
func checkAdd(t *testing.T, a Table, l list, n int) (Table, list) {
	t.Helper()
	want, name := l.add(n)
	got, at, ok := a.Add(n)
	if at != max(name, 0) || ok != (name >= 0) {
		t.Fatalf("Add(%d): %d %v, want %d", n, at, ok, name)
	}
	check(t, got, want)
	check(t, a, l)
	return got, want
}

// checkDrop drops a name of a table of which a list says the same, which stays as it was.
func checkDrop(t *testing.T, a Table, l list, name int) (Table, list) {
	t.Helper()
	want, ok := l.drop(name)
	got, is := a.Drop(name)
	if is != ok {
		t.Fatalf("Drop(%d): %v, want %v", name, is, ok)
	}
	check(t, got, want)
	check(t, a, l)
	return got, want
}

// lists are lists of all sorts: empty, full, with gaps, whose numbers rise, fall and neither.
func lists() []list {
	all := []list{nothing(), own(1), own(2), own(7), own(511), own(512)}
	for _, rule := range []func(name int) int{
		func(name int) int { return 511 - name },
		func(name int) int { return 1023 - name },
		func(name int) int { return name + 512 },
		func(name int) int { return 2 * name },
		func(name int) int { return 2*name + 1 },
		func(name int) int { return (name + 1) % 512 },
		func(name int) int { return (7*name + 5) % 1024 },
	} {
		for _, every := range []int{1, 2, 5, 511} {
			l := nothing()
			for name := 0; name < len(l); name += every {
				l[name] = rule(name)
			}
			all = append(all, l)
		}
	}
	l := nothing()
	l[0], l[1], l[3], l[510], l[511] = 1023, 4, 0, 512, 511
	all = append(all, l)
	r := rand.New(rand.NewSource(11))
	for range 12 {
		all = append(all, anyList(r))
	}
	return all
}

// anyList tells a list in which some names, many or few, mean numbers up to one that itself may be small or great.
func anyList(r *rand.Rand) list {
	l := nothing()
	most := []int{512, 600, 1024}[r.Intn(3)]
	often := r.Float64()
	for name, n := range r.Perm(most)[:512] {
		if r.Float64() < often {
			l[name] = n
		}
	}
	return l
}

// sample is a table, and the list that says the same.
type sample struct {
	table Table
	list  list
}

func samples(t *testing.T) []sample {
	t.Helper()
	var all []sample
	for _, l := range lists() {
		all = append(all, sample{l.table(t), l})
	}
	return all
}

// Promise 11.1.

func TestMost(t *testing.T) {
	if Most != 512 {
		t.Errorf("Most: %d, want 512", Most)
	}
}

func TestExample(t *testing.T) {
	var a Table
	a, _, _ = a.Add(7)
	a, _, _ = a.Add(9)
	a, _ = a.Drop(0)
	a, name, ok := a.Add(5)
	if name != 0 || !ok {
		t.Errorf("Add(5): %d %v, want 0", name, ok)
	}
	if n, ok := a.Get(0); n != 5 || !ok {
		t.Errorf("Get(0): %d %v, want 5", n, ok)
	}
	if n, ok := a.Get(1); n != 9 || !ok {
		t.Errorf("Get(1): %d %v, want 9", n, ok)
	}
	l := nothing()
	l[9] = 3
	through := a.Through(l.table(t))
	if n, ok := through.Get(1); n != 3 || !ok {
		t.Errorf("Get(1), through a table in which 9 means 3: %d %v, want 3", n, ok)
	}
	if n, ok := through.Get(0); n != 0 || ok {
		t.Errorf("Get(0), through a table in which 5 means nothing: %d %v", n, ok)
	}
}

// The example of the whole: 0 means 7, through a table where 7 means 3: 3.
func TestExampleOfTheWhole(t *testing.T) {
	l := nothing()
	l[7] = 3
	a, _, _ := Table{}.Add(7)
	through := a.Through(l.table(t))
	if n, ok := through.Get(0); n != 3 || !ok || through.Len() != 1 {
		t.Errorf("Get(0): %d %v, want 3", n, ok)
	}
}

func TestOwn(t *testing.T) {
	for _, n := range []int{math.MinInt, math.MinInt + 1, -65536, -2, -1, 0, 1, 2, 3, 100, 510, 511, 512, 513, 514, 1023, 1024, 1025, 65535, 65536, math.MaxInt - 1, math.MaxInt} {
		a := Own(n)
		check(t, a, own(n))
		if a.Len() != min(max(n, 0), 512) {
			t.Errorf("Own(%d).Len: %d", n, a.Len())
		}
	}
}

func TestEveryOwn(t *testing.T) {
	for n := -3; n < 520; n++ {
		a := Own(n)
		last, ok := a.Get(a.Len() - 1)
		if a.Len() != min(max(n, 0), 512) || ok != (n > 0) || last != max(a.Len()-1, 0) {
			t.Fatalf("Own(%d): %d names, the last one means %d %v", n, a.Len(), last, ok)
		}
	}
}

func TestGetAndFind(t *testing.T) {
	for _, s := range samples(t) {
		for range 2 { // asking takes nothing
			check(t, s.table, s.list)
		}
	}
}

func TestAddToTheZeroTable(t *testing.T) {
	for n := -3; n < 1030; n++ {
		checkAdd(t, Table{}, nothing(), n)
	}
	for _, n := range noNumbers {
		checkAdd(t, Table{}, nothing(), n)
	}
}

func TestAddOfAnything(t *testing.T) {
	for _, s := range samples(t) {
		numbers := append([]int{0, 1, 4, 5, 511, 512, 513, 777, 1022, 1023}, noNumbers...)
		for _, name := range s.list.names() {
			if name%97 == 0 || name == 511 {
				numbers = append(numbers, s.list[name]) // which is meant already
			}
		}
		for _, n := range numbers {
			checkAdd(t, s.table, s.list, n)
		}
	}
}

// Whatever gap there is among the names, the least one of it is taken.
func TestAddIntoGaps(t *testing.T) {
	for name := range 512 {
		l := own(512)
		l[name] = -1
		a, ok := Own(512).Drop(name)
		if !ok {
			t.Fatalf("Drop(%d): false", name)
		}
		b, at, ok := a.Add(1023)
		l[name] = 1023
		if at != name || !ok || !Same(b, l.table(t)) {
			t.Fatalf("a gap at %d: %d %v", name, at, ok)
		}
		if back, at, ok := a.Add(name); at != name || !ok || !Same(back, Own(512)) {
			t.Fatalf("%d, dropped and added: %d %v", name, at, ok)
		}
	}
	a, l := Own(20), own(20)
	for _, name := range []int{9, 3, 15, 4} {
		a, l = checkDrop(t, a, l, name)
	}
	for i, n := range []int{700, 3, 701, 702, 703} {
		want := []int{3, 4, 9, 15, 20}[i]
		a, l = checkAdd(t, a, l, n)
		if l[want] != n {
			t.Fatalf("number %d has not the name %d", n, want)
		}
	}
}

func TestAddWhereAllNamesMeanSomething(t *testing.T) {
	var a Table
	l := nothing()
	for i := range 512 {
		n := 1023 - 2*i
		b, at, ok := a.Add(n)
		l, _ = l.add(n)
		if at != i || !ok {
			t.Fatalf("Add(%d): %d %v, want %d", n, at, ok, i)
		}
		a = b
	}
	for n := -2; n < 1026; n++ {
		b, at, ok := a.Add(n)
		if at != 0 || ok || !Same(a, b) {
			t.Fatalf("Add(%d) to a full table: %d %v", n, at, ok)
		}
	}
	check(t, a, l)
	a, l = checkDrop(t, a, l, 511)
	a, l = checkAdd(t, a, l, 0)
	a, l = checkAdd(t, a, l, 2)
	if l[511] != 0 {
		t.Fatal("the last name was not taken")
	}
	a, l = checkDrop(t, a, l, 0)
	checkAdd(t, a, l, 2)
}

func TestDropOfAnything(t *testing.T) {
	for _, s := range samples(t) {
		for _, name := range append([]int{0, 1, 2, 3, 4, 5, 255, 510, 511}, noNames...) {
			checkDrop(t, s.table, s.list, name)
		}
	}
}

func TestDropOfEveryName(t *testing.T) {
	a, l := Own(512), own(512)
	for i := range 512 {
		name := i * 5 % 512
		b, ok := a.Drop(name)
		if !ok {
			t.Fatalf("Drop(%d): false", name)
		}
		if c, ok := b.Drop(name); ok || !Same(b, c) {
			t.Fatalf("Drop(%d) again: %v", name, ok)
		}
		l, _ = l.drop(name)
		if i%16 == 0 {
			check(t, b, l)
			check(t, a, func() list { was := l; was[name] = name; return was }())
		}
		a = b
	}
	if a.Len() != 0 || !Same(a, Table{}) {
		t.Errorf("all dropped: %v", a.Names())
	}
}

// Promise 11.2.

func TestNames(t *testing.T) {
	a := Own(6)
	a, _ = a.Drop(2)
	a, _ = a.Drop(0)
	if l := a.Names(); !slices.Equal(l, []int{1, 3, 4, 5}) || a.Len() != 4 {
		t.Errorf("Names: %v", l)
	}
	if l := (Table{}).Names(); len(l) != 0 {
		t.Errorf("names of the zero table: %v", l)
	}
	if l := Own(math.MaxInt).Names(); len(l) != 512 || l[0] != 0 || l[511] != 511 {
		t.Errorf("all names: %v", l)
	}
}

func TestMeant(t *testing.T) {
	var a Table
	for _, n := range []int{40, 7, 1023, 8, 0, 6, 39} {
		a, _, _ = a.Add(n)
	}
	if l := a.Meant().Rows(); !slices.Equal(l, [][2]int{{0, 1}, {6, 9}, {39, 41}, {1023, 1024}}) {
		t.Errorf("Meant: %v", l)
	}
	if n := (Table{}).Meant().Len(); n != 0 {
		t.Errorf("meant by the zero table: %d", n)
	}
	if l := Own(512).Meant().Rows(); !slices.Equal(l, [][2]int{{0, 512}}) {
		t.Errorf("meant by all: %v", l)
	}
}

// What is meant is a number each, so that there are as many as names.
func TestMeantOfEverySample(t *testing.T) {
	for _, s := range samples(t) {
		meant := s.table.Meant()
		if meant.Len() != s.table.Len() || !meant.Within(span.Of(0, 1024)) {
			t.Fatalf("%d names mean %d numbers", s.table.Len(), meant.Len())
		}
		for n := -1; n <= 1024; n++ {
			if _, ok := s.table.Find(n); ok != meant.Has(n) {
				t.Fatalf("Find(%d): %v, Meant has it: %v", n, ok, !ok)
			}
		}
	}
}

func TestThrough(t *testing.T) {
	all := samples(t)
	for _, a := range all {
		for _, b := range all {
			through := a.table.Through(b.table)
			want := a.list.through(b.list)
			checkGet(t, through, want)
			if !Same(through, want.table(t)) || through.Len() != len(want.names()) {
				t.Fatalf("Through: %v, want %v", through.Names(), want.names())
			}
		}
		check(t, a.table, a.list)
	}
}

func TestThroughIsAsked(t *testing.T) {
	all := samples(t)
	for i, a := range all {
		b := all[(i*7+3)%len(all)]
		check(t, a.table.Through(b.table), a.list.through(b.list))
		check(t, a.table.Through(a.table), a.list.through(a.list))
		check(t, a.table, a.list)
		check(t, b.table, b.list)
	}
}

func TestThroughOwnAndNothing(t *testing.T) {
	for _, s := range samples(t) {
		check(t, s.table.Through(Table{}), nothing())
		check(t, Table{}.Through(s.table), nothing())
		for _, n := range []int{0, 1, 5, 300, 511, 512} {
			less := s.list
			for name, meant := range less {
				if meant >= n {
					less[name] = -1
				}
			}
			check(t, s.table.Through(Own(n)), less)
			first := s.list
			for name := range first {
				if name >= n {
					first[name] = -1
				}
			}
			check(t, Own(n).Through(s.table), first)
		}
	}
}

// What is meant beyond all names of outer means nothing through it.
func TestThroughBeyondNames(t *testing.T) {
	l := nothing()
	l[0], l[1], l[2], l[3], l[4] = 511, 512, 1023, 0, 510
	want := nothing()
	want[0], want[3], want[4] = 511, 0, 510
	check(t, l.table(t).Through(Own(512)), want)
}

func TestSame(t *testing.T) {
	all := samples(t)
	for _, a := range all {
		for _, b := range all {
			if Same(a.table, b.table) != (a.list == b.list) {
				t.Fatalf("Same of %v and %v: %v", a.list, b.list, a.list != b.list)
			}
		}
		if !Same(a.table, a.list.table(t)) {
			t.Fatalf("%v, made again", a.list)
		}
	}
}

func TestSameByOneName(t *testing.T) {
	for name := range 512 {
		a := Own(512)
		less, _ := a.Drop(name)
		other, _, _ := less.Add(1000)
		back, _, _ := less.Add(name)
		if Same(a, less) || Same(less, a) || Same(a, other) || Same(other, a) || Same(less, other) {
			t.Fatalf("a table, and it without %d, or another meaning of it", name)
		}
		if !Same(a, back) || !Same(back, a) || !Same(less, less) {
			t.Fatalf("%d, dropped and added again", name)
		}
	}
}

// The same is meant in whatever order it came about; by other names it is not the same.
func TestSameInAnotherOrder(t *testing.T) {
	var a, b, c Table
	for _, n := range []int{5, 6, 7} {
		a, _, _ = a.Add(n)
	}
	for _, n := range []int{9, 6, 7} {
		b, _, _ = b.Add(n)
	}
	b, _ = b.Drop(0)
	b, _, _ = b.Add(5)
	for _, n := range []int{6, 5, 7} {
		c, _, _ = c.Add(n)
	}
	if !Same(a, b) || Same(a, c) {
		t.Errorf("Same: %v, and of others %v", Same(a, b), Same(a, c))
	}
	if !slices.Equal(a.Meant().Rows(), c.Meant().Rows()) {
		t.Error("other names, other numbers")
	}
}

func TestZeroTable(t *testing.T) {
	var a Table
	emptied, _ := Own(1).Drop(0)
	for _, b := range []Table{a, Own(0), Own(-1), emptied, a.Through(Own(9)), Own(9).Through(a)} {
		check(t, b, nothing())
		if !Same(a, b) || !Same(b, a) || Same(b, Own(1)) || Same(Own(1), b) {
			t.Error("Same of the zero table")
		}
		check(t, b.Through(b), nothing())
		checkAdd(t, b, nothing(), 1023)
		checkDrop(t, b, nothing(), 0)
	}
}

// Rules: a table is a value; what is answered is the asker's own.

func TestAnswersAreTheAskersOwn(t *testing.T) {
	for _, s := range samples(t) {
		names, again := s.table.Names(), s.table.Names()
		for i := range names {
			names[i] = 1000 + i
		}
		names = append(names, 5)
		rows, meant := s.table.Meant().Rows(), s.table.Meant()
		for i := range rows {
			rows[i] = [2]int{-1, -1}
		}
		if !slices.Equal(again, s.list.names()) || !slices.Equal(meant.All(), s.list.meant()) || len(names) == len(again) {
			t.Fatal("another answer was changed")
		}
		check(t, s.table, s.list)
	}
}

// Of a table that was made from others, whatever is done with one of them changes nothing of the others.
func TestNothingChangesATable(t *testing.T) {
	all := samples(t)
	r := rand.New(rand.NewSource(5))
	for range 300 {
		all = append(all, anotherSample(t, r, all))
	}
	for _, s := range all {
		check(t, s.table, s.list)
	}
}

// anotherSample makes one out of those that there are.
func anotherSample(t *testing.T, r *rand.Rand, all []sample) sample {
	t.Helper()
	a, b := all[r.Intn(len(all))], all[r.Intn(len(all))]
	if r.Intn(3) == 0 {
		return sample{a.table.Through(b.table), a.list.through(b.list)}
	}
	for range r.Intn(20) {
		if n := r.Intn(1040) - 8; r.Intn(2) == 0 {
			a.table, _, _ = a.table.Add(n)
			a.list, _ = a.list.add(n)
		} else {
			a.table, _ = a.table.Drop(n / 2)
			a.list, _ = a.list.drop(n / 2)
		}
	}
	return a
}

// Whatever was added and dropped, table and list say the same, step by step.
func TestManySteps(t *testing.T) {
	for seed := range int64(4) {
		r := rand.New(rand.NewSource(seed))
		a, l := Table{}, nothing()
		for range 400 {
			if r.Intn(3) > 0 {
				a, l = checkAdd(t, a, l, r.Intn(40<<(2*seed)))
			} else {
				a, l = checkDrop(t, a, l, r.Intn(40))
			}
		}
	}
}

// Promise 11.3.

func TestThroughInAnyOrder(t *testing.T) {
	all := samples(t)
	r := rand.New(rand.NewSource(113))
	for _, a := range all {
		for _, b := range all {
			c := all[r.Intn(len(all))]
			inner := a.table.Through(b.table).Through(c.table)
			outer := a.table.Through(b.table.Through(c.table))
			if !Same(inner, outer) || !Same(inner, a.list.through(b.list).through(c.list).table(t)) {
				t.Fatalf("Through in another order: %v and %v", inner.Names(), outer.Names())
			}
		}
	}
}

func TestThroughFiveTables(t *testing.T) {
	r := rand.New(rand.NewSource(55))
	for range 60 {
		l := []list{anyList(r), anyList(r), anyList(r), anyList(r), anyList(r)}
		a, want := l[0].table(t), l[0]
		for _, outer := range l[1:] {
			a, want = a.Through(outer.table(t)), want.through(outer)
		}
		check(t, a, want)
		b := l[4].table(t)
		for i := 3; i >= 0; i-- {
			b = l[i].table(t).Through(b)
		}
		if !Same(a, b) {
			t.Fatalf("from within, and from further out: %v and %v", a.Names(), b.Names())
		}
	}
}

func TestMeantByThroughIsMeantByOuter(t *testing.T) {
	all := samples(t)
	for _, a := range all {
		for _, b := range all {
			through := a.table.Through(b.table)
			if !through.Meant().Within(b.table.Meant()) {
				t.Fatalf("meant: %v, by outer: %v", through.Meant().Rows(), b.table.Meant().Rows())
			}
			for _, name := range through.Names() {
				if _, ok := a.table.Get(name); !ok {
					t.Fatalf("name %d means something through a table, though it means nothing", name)
				}
			}
		}
	}
}
