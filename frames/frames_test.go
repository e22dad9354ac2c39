package frames

import (
	"fmt"
	"math"
	"math/rand"
	"slices"
	"testing"

	"onionskin/api"
)

// model is what a memory shall hold, by frame and place; a word that it does not name is 0.
type model struct {
	n     int
	words map[[2]int]uint32
}

func newModel(n int) *model { return &model{n, map[[2]int]uint32{}} }

// inside tells whether there shall be such a word.
func (o *model) inside(frame, at int) bool {
	return 0 <= frame && frame < o.n && 0 <= at && at < 16
}

func (o *model) page(frame int) (p Page) {
	for at := range 16 {
		p[at] = o.words[[2]int{frame, at}]
	}
	return p
}

func (o *model) lay(frame int, p Page) {
	for at := range 16 {
		o.words[[2]int{frame, at}] = p[at]
	}
}

// twin tells a model that goes on by itself.
func (o *model) twin() *model {
	t := newModel(o.n)
	for k, w := range o.words {
		t.words[k] = w
	}
	return t
}

// others tells what Others shall answer.
func others(a, b *model, but []int) bool {
	same := a.n == b.n
	for frame := 0; same && frame < a.n; frame++ {
		same = slices.Contains(but, frame) || a.page(frame) == b.page(frame)
	}
	return same
}

// check holds a memory, word by word and page by page, against its model.
func check(t *testing.T, m *Mem, o *model) {
	t.Helper()
	if m.Len() != o.n {
		t.Fatalf("Len: %d, want %d", m.Len(), o.n)
	}
	for frame := range o.n {
		p, ok := m.Page(frame)
		if want := o.page(frame); p != want || !ok {
			t.Fatalf("Page(%d): %v %v, want %v true", frame, p, ok, want)
		}
		for at := range 16 {
			if w, ok := m.Get(frame, at); w != p[at] || !ok {
				t.Fatalf("Get(%d, %d): %d %v, want %d true", frame, at, w, ok, p[at])
			}
		}
	}
}

// numbered tells a memory of n frames, all of whose words are unlike each other and 0, and its model.
func numbered(t *testing.T, n int) (*Mem, *model) {
	t.Helper()
	m, o := New(n), newModel(n)
	for frame := range n {
		for at := range 16 {
			w := uint32(frame*16+at+1) * 0x01000193
			if !m.Put(frame, at, w) {
				t.Fatalf("New(%d), Put(%d, %d): false", n, frame, at)
			}
			o.words[[2]int{frame, at}] = w
		}
	}
	check(t, m, o)
	return m, o
}

// pageOf tells a page that begins with w, and goes on by one.
func pageOf(w uint32) (p Page) {
	for at := range p {
		p[at] = w + uint32(at)
	}
	return p
}

// noFrames are numbers of no frame of a memory of n; some of them are one's in their lowest bits.
func noFrames(n int) []int {
	return []int{
		-1, -2, -n, -256, n, n + 1, 256, 257, 1 << 16, 1 << 32, 1<<32 + 1, -1 << 32,
		math.MaxInt, math.MaxInt - 1, math.MinInt, math.MinInt + 1,
	}
}

// noPlaces are numbers of no word of a frame.
var noPlaces = []int{
	-1, -2, -15, -16, 16, 17, 31, 32, 255, 256, 1 << 32, 1<<32 + 1, math.MaxInt, math.MinInt, math.MinInt + 1,
}

// Promise 4.1.

func TestPageIsOfPageWords(t *testing.T) {
	var p [16]uint32 = Page{}
	if len(p) != api.PageWords {
		t.Errorf("a page of %d words, want %d", len(p), api.PageWords)
	}
}

func TestNew(t *testing.T) {
	for _, n := range []int{0, -1, -2, -256, 257, 258, 512, 1 << 16, 1 << 32, 1<<32 + 1, math.MaxInt, math.MinInt, math.MinInt + 1} {
		if m := New(n); m != nil {
			t.Errorf("New(%d): not nil", n)
		}
	}
	for n := 1; n <= 256; n++ {
		m := New(n)
		if m == nil {
			t.Fatalf("New(%d): nil", n)
		}
		check(t, m, newModel(n))
	}
}

func TestMemoriesAreApart(t *testing.T) {
	a, o := numbered(t, 3)
	b := New(3)
	check(t, b, newModel(3))
	b.Put(1, 1, 5)
	check(t, a, o)
}

func TestExample(t *testing.T) {
	m := New(2)
	if !m.Put(1, 3, 7) {
		t.Error("Put(1, 3, 7): false")
	}
	if w, ok := m.Get(1, 3); w != 7 || !ok {
		t.Errorf("Get(1, 3): %d %v, want 7 true", w, ok)
	}
	if !m.Copy(0, 1) {
		t.Error("Copy(0, 1): false")
	}
	if w, ok := m.Get(0, 3); w != 7 || !ok {
		t.Errorf("Get(0, 3): %d %v, want 7 true", w, ok)
	}
}

func TestPutWords(t *testing.T) {
	m := New(2)
	for _, w := range []uint32{0, 1, 255, 256, 65535, 65536, 1 << 31, math.MaxUint32, 0} {
		for range 2 {
			if !m.Put(1, 15, w) {
				t.Errorf("Put(1, 15, %d): false", w)
			}
			if got, ok := m.Get(1, 15); got != w || !ok {
				t.Errorf("Put(1, 15, %d), Get(1, 15): %d %v", w, got, ok)
			}
		}
	}
}

func TestFirstAndLastWords(t *testing.T) {
	for _, n := range []int{1, 2, 255, 256} {
		m, o := numbered(t, n)
		for i, place := range [][2]int{{0, 0}, {0, 15}, {n - 1, 0}, {n - 1, 15}} {
			w := uint32(i + 3)
			o.words[place] = w
			if !m.Put(place[0], place[1], w) {
				t.Errorf("New(%d), Put%v: false", n, place)
			}
			check(t, m, o)
		}
	}
}

func TestNoSuchFrame(t *testing.T) {
	for _, n := range []int{1, 2, 5, 255, 256} {
		m, o := numbered(t, n)
		for _, frame := range noFrames(n) {
			if o.inside(frame, 0) {
				continue
			}
			refuses(t, m, frame)
			for _, at := range append([]int{1, 15}, noPlaces...) {
				refusesWord(t, m, frame, at)
			}
			for _, there := range []int{0, n - 1} {
				if m.Copy(frame, there) || m.Copy(there, frame) {
					t.Errorf("New(%d), Copy of %d and %d: true", n, frame, there)
				}
			}
		}
		check(t, m, o)
	}
}

func TestNoSuchPlace(t *testing.T) {
	m, o := numbered(t, 3)
	for _, at := range noPlaces {
		for frame := range 3 {
			refusesWord(t, m, frame, at)
		}
	}
	check(t, m, o)
}

// refusesWord asks a memory for a word that it has not.
func refusesWord(t *testing.T, m *Mem, frame, at int) {
	t.Helper()
	if w, ok := m.Get(frame, at); w != 0 || ok {
		t.Errorf("Get(%d, %d): %d %v, want 0 false", frame, at, w, ok)
	}
	if m.Put(frame, at, 9) {
		t.Errorf("Put(%d, %d): true", frame, at)
	}
}

// refuses asks a memory for a frame that it has not.
func refuses(t *testing.T, m *Mem, frame int) {
	t.Helper()
	refusesWord(t, m, frame, 0)
	if p, ok := m.Page(frame); p != (Page{}) || ok {
		t.Errorf("Page(%d): %v %v, want the zero page and false", frame, p, ok)
	}
	if m.Lay(frame, pageOf(9)) {
		t.Errorf("Lay(%d): true", frame)
	}
	if m.Copy(frame, frame) {
		t.Errorf("Copy(%d, %d): true", frame, frame)
	}
}

func TestNilAndZeroMemory(t *testing.T) {
	for name, m := range map[string]*Mem{"nil": nil, "zero": {}} {
		if m.Len() != 0 {
			t.Errorf("%s: Len: %d", name, m.Len())
		}
		for _, frame := range []int{0, 1, -1, 255, 256, math.MaxInt, math.MinInt} {
			refuses(t, m, frame)
			for _, at := range append([]int{1, 15}, noPlaces...) {
				refusesWord(t, m, frame, at)
			}
			if m.Copy(0, frame) || m.Copy(frame, 0) {
				t.Errorf("%s: Copy of 0 and %d: true", name, frame)
			}
		}
		if m.Len() != 0 {
			t.Errorf("%s: Len at the end: %d", name, m.Len())
		}
	}
}

func TestLayAndPage(t *testing.T) {
	m, o := numbered(t, 4)
	for i, p := range []Page{pageOf(100), {}, {15: 1}, {0: math.MaxUint32}, pageOf(100)} {
		frame := i % 4
		given := p
		if !m.Lay(frame, p) {
			t.Errorf("Lay(%d): false", frame)
		}
		if p != given {
			t.Errorf("Lay(%d) changed the page that it was given", frame)
		}
		o.lay(frame, p)
		check(t, m, o)
		p[3] = 77
		check(t, m, o)
	}
}

func TestPagesThatAreToldAreApart(t *testing.T) {
	m, o := numbered(t, 2)
	p, _ := m.Page(1)
	p[0], p[15] = 0, 0
	check(t, m, o)
	q, _ := m.Page(1)
	m.Put(1, 0, 5)
	if q != o.page(1) {
		t.Error("a page that was told changed when its frame did")
	}
}

func TestCopy(t *testing.T) {
	for to := range 4 {
		for from := range 4 {
			m, o := numbered(t, 4)
			if !m.Copy(to, from) {
				t.Errorf("Copy(%d, %d): false", to, from)
			}
			o.lay(to, o.page(from))
			check(t, m, o)
		}
	}
	m, o := numbered(t, 256)
	if !m.Copy(0, 255) || !m.Copy(254, 1) {
		t.Error("Copy of the first and the last ones: false")
	}
	o.lay(0, o.page(255))
	o.lay(254, o.page(1))
	check(t, m, o)
}

func TestCopyGoesOnByItself(t *testing.T) {
	m, o := numbered(t, 3)
	m.Copy(2, 0)
	o.lay(2, o.page(0))
	m.Put(0, 4, 6)
	o.words[[2]int{0, 4}] = 6
	check(t, m, o)
	m.Put(2, 5, 8)
	o.words[[2]int{2, 5}] = 8
	check(t, m, o)
	m.Lay(0, pageOf(50))
	o.lay(0, pageOf(50))
	check(t, m, o)
}

// Promise 4.2.

func TestTwin(t *testing.T) {
	for _, n := range []int{1, 2, 3, 255, 256} {
		a, oa := numbered(t, n)
		b, ob := a.Twin(), oa.twin()
		check(t, b, ob)
		if a == b {
			t.Fatal("the twin is the memory itself")
		}
		a.Put(0, 1, 5)
		oa.words[[2]int{0, 1}] = 5
		check(t, a, oa)
		check(t, b, ob)
		b.Lay(n-1, pageOf(60))
		ob.lay(n-1, pageOf(60))
		check(t, a, oa)
		check(t, b, ob)
		a.Copy(0, n-1)
		oa.lay(0, oa.page(n-1))
		check(t, a, oa)
		check(t, b, ob)
		c := b.Twin()
		check(t, c, ob)
		c.Put(0, 0, 1)
		check(t, b, ob)
	}
}

func TestTwinOfNil(t *testing.T) {
	var m *Mem
	if m.Twin() != nil {
		t.Error("the twin of a nil memory is not nil")
	}
	if (&Mem{}).Twin().Len() != 0 {
		t.Error("the twin of a memory without frames has some")
	}
}

func TestOthersOfLikeMemories(t *testing.T) {
	for _, n := range []int{1, 2, 255, 256} {
		a, _ := numbered(t, n)
		b, _ := numbered(t, n)
		for _, but := range [][]int{nil, {}, {0}, {n - 1}, {0, 0}, {-1}, {n}, {math.MaxInt, math.MinInt}} {
			if !Others(a, b, but...) || !Others(b, a, but...) || !Others(a, a, but...) {
				t.Errorf("%d frames, Others of like ones but %v: false", n, but)
			}
		}
	}
}

func TestOthersTellsEachWord(t *testing.T) {
	for _, n := range []int{1, 3, 256} {
		for _, frame := range []int{0, n / 2, n - 1} {
			for at := range 16 {
				a, _ := numbered(t, n)
				b := a.Twin()
				w, _ := b.Get(frame, at)
				b.Put(frame, at, w^1<<31)
				if Others(a, b) || Others(b, a) || Others(a, b, frame+1, frame-1) {
					t.Errorf("%d frames, word %d of frame %d is unlike: true", n, at, frame)
				}
				if !Others(a, b, frame) || !Others(b, a, frame) {
					t.Errorf("%d frames, word %d of frame %d is unlike, but it is excepted: false", n, at, frame)
				}
			}
		}
	}
}

func TestOthersExcepts(t *testing.T) {
	a, _ := numbered(t, 5)
	b := a.Twin()
	b.Put(1, 2, 0)
	b.Put(3, 4, 0)
	for _, c := range []struct {
		but  []int
		want bool
	}{
		{nil, false}, {[]int{1}, false}, {[]int{3}, false}, {[]int{1, 3}, true}, {[]int{3, 1}, true},
		{[]int{1, 1}, false}, {[]int{3, 3, 3}, false}, {[]int{1, 1, 3}, true}, {[]int{3, 1, 3, 1}, true},
		{[]int{0, 2, 4}, false}, {[]int{0, 1, 2, 3, 4}, true}, {[]int{-1, 5, 1, 3}, true}, {[]int{1, 3, -1, 5}, true},
		{[]int{-1, 5}, false}, {[]int{-1, -3}, false}, {[]int{1 + 256, 3 + 256}, false},
		{[]int{1<<32 + 1, 1<<32 + 3}, false}, {[]int{math.MinInt, math.MaxInt, 3}, false},
	} {
		for range 2 {
			if Others(a, b, c.but...) != c.want || Others(b, a, c.but...) != c.want {
				t.Errorf("Others but %v: %v", c.but, !c.want)
			}
		}
	}
}

func TestOthersOfUnlikeSizes(t *testing.T) {
	for _, n := range [][2]int{{1, 2}, {2, 3}, {255, 256}, {1, 256}} {
		a, b := New(n[0]), New(n[1])
		all := make([]int, 256)
		for i := range all {
			all[i] = i
		}
		if Others(a, b) || Others(b, a) || Others(a, b, n[0]) || Others(b, a, n[0]) || Others(a, b, all...) || Others(b, a, all...) {
			t.Errorf("Others of memories of %v frames: true", n)
		}
	}
}

func TestOthersOfNil(t *testing.T) {
	one := New(1)
	for _, but := range [][]int{nil, {0}, {-1}, {0, 1}, {math.MaxInt}, {math.MinInt}} {
		if !Others(nil, nil, but...) || !Others(nil, &Mem{}, but...) || !Others(&Mem{}, nil, but...) {
			t.Errorf("Others of two without frames but %v: false", but)
		}
		if Others(nil, one, but...) || Others(one, nil, but...) || Others(one, &Mem{}, but...) {
			t.Errorf("Others of one without frames and one with a frame but %v: true", but)
		}
	}
}

func TestOthersChangesNothing(t *testing.T) {
	a, oa := numbered(t, 3)
	b, ob := a.Twin(), oa.twin()
	b.Put(2, 0, 0)
	ob.words[[2]int{2, 0}] = 0
	but := []int{1, 0, 2, 2}
	if Others(a, b, but[:2]...) {
		t.Error("what lies behind the length of the list was read")
	}
	if !Others(a, b, but[:3]...) {
		t.Error("Others but 1, 0, 2: false")
	}
	if !slices.Equal(but, []int{1, 0, 2, 2}) {
		t.Errorf("the list was changed: %v", but)
	}
	check(t, a, oa)
	check(t, b, ob)
}

// Promise 4.3.

func TestOtherFramesStay(t *testing.T) {
	const n = 7
	deeds := map[string]func(m *Mem, frame int) bool{
		"Put first": func(m *Mem, frame int) bool { return m.Put(frame, 0, 5) },
		"Put last":  func(m *Mem, frame int) bool { return m.Put(frame, 15, 5) },
		"Lay":       func(m *Mem, frame int) bool { return m.Lay(frame, pageOf(9)) },
		"Copy":      func(m *Mem, frame int) bool { return m.Copy(frame, (frame+3)%n) },
	}
	for name, deed := range deeds {
		for frame := range n {
			m, o := numbered(t, n)
			was := m.Twin()
			if !deed(m, frame) {
				t.Errorf("%s at frame %d: false", name, frame)
			}
			if !Others(was, m, frame) || Others(was, m) {
				t.Errorf("%s at frame %d: it, and it alone, should have changed", name, frame)
			}
			check(t, was, o)
			for other := range n {
				if p, _ := m.Page(other); other != frame && p != o.page(other) {
					t.Errorf("%s at frame %d: frame %d changed", name, frame, other)
				}
			}
		}
	}
}

// step does one call by chance, on a memory and on its model, and holds the answers against each other.
func step(t *testing.T, r *rand.Rand, m *Mem, o *model) {
	t.Helper()
	frame, from, at, w := r.Intn(o.n+2)-1, r.Intn(o.n+2)-1, r.Intn(18)-1, uint32(r.Intn(3))
	var got, want bool
	switch r.Intn(3) {
	case 0:
		got, want = m.Put(frame, at, w), o.inside(frame, at)
		if want {
			o.words[[2]int{frame, at}] = w
		}
	case 1:
		got, want = m.Lay(frame, pageOf(w)), o.inside(frame, 0)
		if want {
			o.lay(frame, pageOf(w))
		}
	case 2:
		got, want = m.Copy(frame, from), o.inside(frame, 0) && o.inside(from, 0)
		if want {
			o.lay(frame, o.page(from))
		}
	}
	if got != want {
		t.Fatalf("of %d frames: %v, want %v (frame %d, from %d, at %d)", o.n, got, want, frame, from, at)
	}
	check(t, m, o)
}

func TestManyCalls(t *testing.T) {
	for seed := range int64(60) {
		t.Run(fmt.Sprint(seed), func(t *testing.T) {
			r := rand.New(rand.NewSource(seed))
			n := 1 + r.Intn(6)
			a, oa := New(n), newModel(n)
			b, ob := a.Twin(), oa.twin()
			for range 120 {
				step(t, r, a, oa)
				step(t, r, b, ob)
				var but []int
				for range r.Intn(n + 1) {
					but = append(but, r.Intn(n+2)-1)
				}
				if got, want := Others(a, b, but...), others(oa, ob, but); got != want {
					t.Fatalf("Others but %v: %v, want %v", but, got, want)
				}
				if r.Intn(4) == 0 {
					b, ob = a.Twin(), oa.twin()
				}
			}
		})
	}
}
