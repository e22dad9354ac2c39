package ledger

import (
	"math"
	"math/rand"
	"sync"
	"testing"

	"onionskin/api"
)

// plain is what a ledger is held against: quotas and uses, by environment and kind.
type plain struct {
	quota, used [api.MaxEnvs][api.Kinds]int
}

// begin makes a ledger, and its plain table.
func begin(all [api.Kinds]int) (*Ledger, *plain) {
	p := &plain{}
	for kind, n := range all {
		if n < 0 {
			n = 0
		}
		if n > 512 {
			n = 512
		}
		p.quota[0][kind] = n
	}
	return New(all), p
}

// is tells whether there are such an environment and such a kind, and such a number.
func is(env, kind, n int) bool {
	return 0 <= env && env <= 15 && 0 <= kind && kind <= 3 && 0 <= n && n <= 512
}

func (p *plain) take(env, kind, n int) api.Errno {
	switch {
	case !is(env, kind, n):
		return api.EARG
	case p.used[env][kind]+n > p.quota[env][kind]:
		return api.EQUOTA
	}
	p.used[env][kind] += n
	return api.OK
}

func (p *plain) free(env, kind, n int) api.Errno {
	if !is(env, kind, n) || n > p.used[env][kind] {
		return api.EARG
	}
	p.used[env][kind] -= n
	return api.OK
}

func (p *plain) move(from, to, kind, n int) api.Errno {
	switch {
	case !is(from, kind, n) || !is(to, kind, n):
		return api.EARG
	case p.used[from][kind]+n > p.quota[from][kind]:
		return api.EQUOTA
	}
	p.quota[from][kind] -= n
	p.quota[to][kind] += n
	return api.OK
}

func (p *plain) close(env, to int) api.Errno {
	if !is(env, 0, 0) || !is(to, 0, 0) || env == to {
		return api.EARG
	}
	for kind := range api.Kinds {
		p.quota[to][kind] += p.quota[env][kind]
		p.quota[env][kind] = 0
		p.used[env][kind] = 0
	}
	return api.OK
}

// same fails unless the ledger says what the plain table does, of all that there is.
func same(t *testing.T, x *Ledger, p *plain) {
	t.Helper()
	for env := range api.MaxEnvs {
		for kind := range api.Kinds {
			wantQuota, wantUsed := p.quota[env][kind], p.used[env][kind]
			if quota, used := x.Quota(env, kind); quota != wantQuota || used != wantUsed {
				t.Fatalf("Quota(%d, %d): %d %d, want %d %d", env, kind, quota, used, wantQuota, wantUsed)
			}
			if left := x.Left(env, kind); left != wantQuota-wantUsed {
				t.Fatalf("Left(%d, %d): %d, want %d", env, kind, left, wantQuota-wantUsed)
			}
		}
	}
}

// sums fails unless all quotas of each kind together are these, and nobody uses more than its own.
func sums(t *testing.T, x *Ledger, want [api.Kinds]int) {
	t.Helper()
	var got [api.Kinds]int
	for env := range api.MaxEnvs {
		for kind := range api.Kinds {
			quota, used := x.Quota(env, kind)
			if quota < 0 || used < 0 || used > quota {
				t.Fatalf("environment %d uses %d of %d of kind %d", env, used, quota, kind)
			}
			got[kind] += quota
		}
	}
	if got != want {
		t.Fatalf("all quotas: %v, want %v", got, want)
	}
}

// errs fails unless a call answered this.
func errs(t *testing.T, what string, got, want api.Errno) {
	t.Helper()
	if got != want {
		t.Fatalf("%s: %v, want %v", what, got, want)
	}
}

// noEnvs are environments that there are not, noKinds such kinds, noAmounts such numbers.
var (
	noEnvs    = []int{-1, -16, 16, 17, 255, math.MinInt, math.MaxInt, math.MinInt32, math.MaxInt32}
	noKinds   = []int{-1, -4, 4, 5, 255, math.MinInt, math.MaxInt, math.MinInt32, math.MaxInt32}
	noAmounts = []int{-1, -2, 513, 514, math.MinInt, math.MaxInt, math.MinInt32, math.MaxInt32}
)

// 13.1: what environment 0 has, and nobody else.

func TestNew(t *testing.T) {
	for _, c := range []struct{ all, want [api.Kinds]int }{
		{[4]int{0, 0, 0, 0}, [4]int{0, 0, 0, 0}},
		{[4]int{1, 1, 1, 1}, [4]int{1, 1, 1, 1}},
		{[4]int{10, 20, 30, 40}, [4]int{10, 20, 30, 40}},
		{[4]int{256, 512, 64, 32}, [4]int{256, 512, 64, 32}},
		{[4]int{512, 511, 1, 0}, [4]int{512, 511, 1, 0}},
		{[4]int{513, 514, 1024, 9999}, [4]int{512, 512, 512, 512}},
		{[4]int{-1, -2, -512, -513}, [4]int{0, 0, 0, 0}},
		{[4]int{math.MaxInt, math.MinInt, 7, -7}, [4]int{512, 0, 7, 0}},
	} {
		x := New(c.all)
		for env := range 16 {
			for kind, want := range c.want {
				if env != 0 {
					want = 0
				}
				if quota, used := x.Quota(env, kind); quota != want || used != 0 {
					t.Errorf("New(%v).Quota(%d, %d): %d %d, want %d 0", c.all, env, kind, quota, used, want)
				}
				if left := x.Left(env, kind); left != want {
					t.Errorf("New(%v).Left(%d, %d): %d, want %d", c.all, env, kind, left, want)
				}
			}
		}
	}
}

func TestLedgersAreTheirOwn(t *testing.T) {
	all := [4]int{10, 20, 30, 40}
	x, y := New(all), New(all)
	errs(t, "Take", x.Take(0, api.Space, 30), api.OK)
	errs(t, "Move", x.Move(0, 15, api.Port, 40), api.OK)
	_, p := begin(all)
	same(t, y, p)
	if all != [4]int{10, 20, 30, 40} {
		t.Errorf("what was handed in is %v", all)
	}
}

func TestWhatIsLeft(t *testing.T) {
	x, p := begin([4]int{10, 20, 30, 40})
	errs(t, "Move", x.Move(0, 15, api.Port, 25), api.OK)
	errs(t, "Take", x.Take(15, api.Port, 7), api.OK)
	errs(t, "Take", x.Take(0, api.Frame, 10), api.OK)
	p.quota[0][api.Port], p.quota[15][api.Port], p.used[15][api.Port], p.used[0][api.Frame] = 15, 25, 7, 10
	same(t, x, p)
	if quota, used := x.Quota(15, api.Port); quota != 25 || used != 7 || x.Left(15, api.Port) != 18 || x.Left(0, api.Frame) != 0 {
		t.Errorf("Quota: %d %d, Left: %d, and %d", quota, used, x.Left(15, api.Port), x.Left(0, api.Frame))
	}
}

func TestWhatThereIsNotHasNothing(t *testing.T) {
	x := New([4]int{512, 512, 512, 512})
	for env := 1; env < api.MaxEnvs; env++ {
		for kind := range api.Kinds {
			errs(t, "Move", x.Move(0, env, kind, 30), api.OK)
			errs(t, "Take", x.Take(env, kind, 10), api.OK)
		}
	}
	asks := func(env, kind int) {
		t.Helper()
		if quota, used := x.Quota(env, kind); quota != 0 || used != 0 || x.Left(env, kind) != 0 {
			t.Errorf("of %d, %d: %d %d, %d left", env, kind, quota, used, x.Left(env, kind))
		}
	}
	for _, env := range noEnvs {
		for kind := range api.Kinds {
			asks(env, kind)
		}
	}
	for _, kind := range noKinds {
		for env := range api.MaxEnvs {
			asks(env, kind)
		}
		for _, env := range noEnvs {
			asks(env, kind)
		}
	}
}

// 13.2: what is noted.

func TestTake(t *testing.T) {
	x, p := begin([4]int{10, 512, 0, 3})
	for _, c := range []struct {
		env, kind, n int
		want         api.Errno
	}{
		{0, api.Frame, 0, api.OK},
		{0, api.Frame, 4, api.OK},
		{0, api.Frame, 7, api.EQUOTA}, // 6 are left
		{0, api.Frame, 6, api.OK},
		{0, api.Frame, 0, api.OK},
		{0, api.Frame, 1, api.EQUOTA},
		{0, api.Frame, 512, api.EQUOTA},
		{0, api.Frame, 513, api.EARG},
		{0, api.Frame, -1, api.EARG},
		{0, api.Block, 513, api.EARG},
		{0, api.Block, -1, api.EARG},
		{0, api.Block, 512, api.OK},
		{0, api.Block, 1, api.EQUOTA},
		{0, api.Space, 0, api.OK},
		{0, api.Space, 1, api.EQUOTA},
		{0, api.Port, 4, api.EQUOTA},
		{0, api.Port, 3, api.OK},
		{15, api.Port, 0, api.OK},
		{15, api.Port, 1, api.EQUOTA},
		{16, api.Port, 0, api.EARG},
		{15, 4, 0, api.EARG},
	} {
		errs(t, "Take", x.Take(c.env, c.kind, c.n), c.want)
		if c.want == api.OK {
			p.used[c.env][c.kind] += c.n
		}
		same(t, x, p)
	}
}

func TestFree(t *testing.T) {
	x, p := begin([4]int{10, 512, 0, 3})
	x.Take(0, api.Frame, 6)
	x.Take(0, api.Block, 512)
	p.used[0][api.Frame], p.used[0][api.Block] = 6, 512
	for _, c := range []struct {
		env, kind, n int
		want         api.Errno
	}{
		{0, api.Frame, 0, api.OK},
		{0, api.Frame, 7, api.EARG}, // 6 are used, of 10
		{0, api.Frame, 2, api.OK},
		{0, api.Frame, 5, api.EARG},
		{0, api.Frame, -1, api.EARG},
		{0, api.Frame, 4, api.OK},
		{0, api.Frame, 1, api.EARG},
		{0, api.Frame, 0, api.OK},
		{0, api.Block, 513, api.EARG},
		{0, api.Block, 512, api.OK},
		{0, api.Space, 0, api.OK},
		{0, api.Space, 1, api.EARG},
		{1, api.Frame, 0, api.OK},
		{1, api.Frame, 1, api.EARG},
		{0, api.Port, 1, api.EARG}, // none is used, of 3
	} {
		errs(t, "Free", x.Free(c.env, c.kind, c.n), c.want)
		if c.want == api.OK {
			p.used[c.env][c.kind] -= c.n
		}
		same(t, x, p)
	}
}

func TestMove(t *testing.T) {
	x, p := begin([4]int{10, 512, 0, 3})
	x.Take(0, api.Frame, 3)
	p.used[0][api.Frame] = 3
	for _, c := range []struct {
		from, to, kind, n int
		want              api.Errno
	}{
		{0, 1, api.Frame, 0, api.OK},
		{0, 1, api.Frame, 8, api.EQUOTA}, // 10 less 3 that are used are left
		{0, 1, api.Frame, 10, api.EQUOTA},
		{0, 1, api.Frame, 2, api.OK},
		{0, 0, api.Frame, 6, api.EQUOTA}, // to itself: 5 are left
		{0, 0, api.Frame, 5, api.OK},
		{0, 0, api.Frame, 0, api.OK},
		{0, 15, api.Frame, 5, api.OK},
		{0, 15, api.Frame, 1, api.EQUOTA},
		{0, 15, api.Frame, 0, api.OK},
		{0, 0, api.Frame, 1, api.EQUOTA},
		{15, 1, api.Frame, 5, api.OK},
		{15, 1, api.Frame, 1, api.EQUOTA},
		{1, 0, api.Frame, 7, api.OK},
		{0, 3, api.Block, 512, api.OK},
		{0, 3, api.Block, 512, api.EQUOTA},
		{3, 3, api.Block, 512, api.OK},
		{3, 3, api.Block, 513, api.EARG},
		{2, 2, api.Space, 1, api.EQUOTA},
		{2, 2, api.Space, 0, api.OK},
		{2, 0, api.Space, 1, api.EQUOTA},
		{2, 0, api.Space, -1, api.EARG},
		{0, 2, api.Port, 4, api.EQUOTA},
		{0, 2, api.Port, 513, api.EARG},
		{0, 2, api.Port, 3, api.OK},
	} {
		errs(t, "Move", x.Move(c.from, c.to, c.kind, c.n), c.want)
		if c.want == api.OK {
			p.quota[c.from][c.kind] -= c.n
			p.quota[c.to][c.kind] += c.n
		}
		same(t, x, p)
	}
}

func TestMoveLeavesWhatIsUsed(t *testing.T) {
	x := New([4]int{100, 0, 0, 0})
	x.Take(0, api.Frame, 30)
	x.Move(0, 5, api.Frame, 20)
	x.Take(5, api.Frame, 20)
	errs(t, "Move of what is used", x.Move(5, 0, api.Frame, 1), api.EQUOTA)
	errs(t, "Move to one that uses all", x.Move(0, 5, api.Frame, 50), api.OK)
	if quota, used := x.Quota(0, api.Frame); quota != 30 || used != 30 {
		t.Errorf("Quota of 0: %d %d", quota, used)
	}
	if quota, used := x.Quota(5, api.Frame); quota != 70 || used != 20 {
		t.Errorf("Quota of 5: %d %d", quota, used)
	}
}

func TestClose(t *testing.T) {
	all := [4]int{100, 512, 64, 32}
	x, p := begin(all)
	for kind, n := range [4]int{40, 500, 0, 32} {
		errs(t, "Move", x.Move(0, 1, kind, n), api.OK)
		errs(t, "Take", x.Take(1, kind, n/2), api.OK)
	}
	errs(t, "Move", x.Move(0, 2, api.Frame, 5), api.OK)
	errs(t, "Take", x.Take(2, api.Frame, 5), api.OK)
	errs(t, "Close of 1", x.Close(1, 2), api.OK)
	p.quota[0], p.quota[2] = [4]int{55, 12, 64, 0}, [4]int{45, 500, 0, 32}
	p.used[2] = [4]int{5, 0, 0, 0} // that of the one that got it all stays, that of the other one is gone
	same(t, x, p)
	errs(t, "Close of one without quotas", x.Close(1, 2), api.OK)
	same(t, x, p)
	errs(t, "Close into one without quotas", x.Close(0, 15), api.OK)
	p.quota[15], p.quota[0] = p.quota[0], [4]int{}
	same(t, x, p)
	errs(t, "Take of what was closed", x.Take(0, api.Frame, 1), api.EQUOTA)
	errs(t, "Free of what was closed", x.Free(1, api.Frame, 1), api.EARG)
	errs(t, "Close of the last one", x.Close(15, 0), api.OK)
	errs(t, "Close of 2", x.Close(2, 0), api.OK)
	_, p = begin(all)
	same(t, x, p)
	errs(t, "Close of 0", x.Close(0, 1), api.OK) // environment 0 is one like any other
	p.quota[0], p.quota[1] = p.quota[1], p.quota[0]
	same(t, x, p)
	for env := range api.MaxEnvs {
		errs(t, "Close into itself", x.Close(env, env), api.EARG)
	}
	same(t, x, p)
}

// Of what there is not, and of numbers that are none, all calls are refused, whatever else is wrong, and nothing changes.
func TestWrong(t *testing.T) {
	x, p := begin([4]int{10, 20, 512, 40})
	for kind := range api.Kinds {
		x.Take(0, kind, 9)
		x.Move(0, 15, kind, 1)
		p.used[0][kind] = 9
		p.quota[0][kind]--
		p.quota[15][kind]++
	}
	amounts := append([]int{0, 1, 9, 10, 512}, noAmounts...)
	for _, n := range amounts {
		for _, env := range noEnvs {
			errs(t, "Take of no environment", x.Take(env, api.Space, n), api.EARG)
			errs(t, "Free of no environment", x.Free(env, api.Space, n), api.EARG)
			errs(t, "Move from no environment", x.Move(env, 0, api.Space, n), api.EARG)
			errs(t, "Move to no environment", x.Move(0, env, api.Space, n), api.EARG)
			errs(t, "Move of one that has nothing to no environment", x.Move(3, env, api.Space, n), api.EARG)
			errs(t, "Move from and to no environment", x.Move(env, env, api.Space, n), api.EARG)
		}
		for _, kind := range noKinds {
			errs(t, "Take of no kind", x.Take(0, kind, n), api.EARG)
			errs(t, "Free of no kind", x.Free(0, kind, n), api.EARG)
			errs(t, "Move of no kind", x.Move(0, 15, kind, n), api.EARG)
			errs(t, "Move of no kind to itself", x.Move(15, 15, kind, n), api.EARG)
		}
	}
	for _, n := range noAmounts {
		for _, env := range []int{0, 3, 15} { // one with some left, one with nothing
			for kind := range api.Kinds {
				errs(t, "Take of no number", x.Take(env, kind, n), api.EARG)
				errs(t, "Free of no number", x.Free(env, kind, n), api.EARG)
				errs(t, "Move of no number", x.Move(env, 15-env, kind, n), api.EARG)
				errs(t, "Move of no number to itself", x.Move(env, env, kind, n), api.EARG)
			}
		}
	}
	for _, env := range noEnvs {
		errs(t, "Close of no environment", x.Close(env, 0), api.EARG)
		errs(t, "Close into no environment", x.Close(0, env), api.EARG)
		errs(t, "Close of none into none", x.Close(env, env), api.EARG)
		errs(t, "Close of none into another one", x.Close(env, -env), api.EARG)
	}
	same(t, x, p)
}

// R1: a nil ledger has nothing, and notes nothing; the zero one has nothing either.
func TestNil(t *testing.T) {
	var x *Ledger
	for env := -2; env < 18; env++ {
		for kind := -2; kind < 6; kind++ {
			for _, n := range []int{-1, 0, 1, 512, 513, math.MaxInt} {
				errs(t, "Take", x.Take(env, kind, n), api.EARG)
				errs(t, "Free", x.Free(env, kind, n), api.EARG)
				errs(t, "Move", x.Move(env, 1, kind, n), api.EARG)
				errs(t, "Move", x.Move(1, env, kind, n), api.EARG)
			}
			if quota, used := x.Quota(env, kind); quota != 0 || used != 0 || x.Left(env, kind) != 0 {
				t.Errorf("Quota(%d, %d): %d %d, %d left", env, kind, quota, used, x.Left(env, kind))
			}
		}
		errs(t, "Close", x.Close(env, 1), api.EARG)
		errs(t, "Close", x.Close(1, env), api.EARG)
	}
}

func TestZero(t *testing.T) {
	x := &Ledger{}
	_, p := begin([4]int{})
	errs(t, "Take", x.Take(0, api.Frame, 1), api.EQUOTA)
	errs(t, "Take", x.Take(0, api.Frame, 0), api.OK)
	errs(t, "Close", x.Close(0, 1), api.OK)
	same(t, x, p)
}

// 13.3: many calls in many orders, held against the plain table.

// odd tells an environment, a kind or a number: now and then one that there is not.
func odd(r *rand.Rand, most int, none []int) int {
	if r.Intn(40) == 0 {
		return none[r.Intn(len(none))]
	}
	return r.Intn(most)
}

// amount tells a number: often about what is left, or used.
func amount(r *rand.Rand, about int) int {
	switch r.Intn(8) {
	case 0:
		return about
	case 1:
		return about + 1
	case 2:
		return odd(r, 513, noAmounts)
	}
	return r.Intn(about + 2)
}

func TestManyCalls(t *testing.T) {
	for seed := range int64(60) {
		r := rand.New(rand.NewSource(seed))
		envs := []int{2, 4, 16}[seed%3]
		all := [4]int{r.Intn(600) - 40, r.Intn(600), r.Intn(30), 512}
		x, p := begin(all)
		want := p.quota[0]
		for range 1500 {
			env, to, kind := odd(r, envs, noEnvs), odd(r, envs, noEnvs), odd(r, api.Kinds, noKinds)
			left, used := 0, 0
			if is(env, kind, 0) {
				left, used = p.quota[env][kind]-p.used[env][kind], p.used[env][kind]
			}
			switch r.Intn(12) {
			case 0, 1, 2, 3:
				n := amount(r, left)
				errs(t, "Take", x.Take(env, kind, n), p.take(env, kind, n))
			case 4, 5, 6:
				n := amount(r, used)
				errs(t, "Free", x.Free(env, kind, n), p.free(env, kind, n))
			case 7, 8, 9, 10:
				n := amount(r, left)
				errs(t, "Move", x.Move(env, to, kind, n), p.move(env, to, kind, n))
			default:
				if r.Intn(8) == 0 { // seldom, as little is shared out behind it
					errs(t, "Close", x.Close(env, to), p.close(env, to))
				}
			}
			sums(t, x, want)
		}
		same(t, x, p)
	}
}

// R7: many at once.

// together runs a function as often, at once, each with a number and chance of its own.
func together(n int, do func(me int, r *rand.Rand)) {
	var w sync.WaitGroup
	for me := range n {
		w.Go(func() { do(me, rand.New(rand.NewSource(int64(me)))) })
	}
	w.Wait()
}

func TestManyTakeAndFreeAtOnce(t *testing.T) {
	x, p := begin([4]int{512, 100, 8, 3})
	together(8, func(me int, r *rand.Rand) {
		kind := me % api.Kinds
		for range 20000 {
			if n := r.Intn(4); x.Take(0, kind, n) == api.OK {
				if x.Free(0, kind, n) != api.OK {
					t.Errorf("what was taken of kind %d isn't used", kind)
				}
			}
		}
	})
	same(t, x, p)
}

func TestManyTakeTheLastOnesAtOnce(t *testing.T) {
	for range 200 {
		x := New([4]int{37, 0, 0, 0})
		var got [8]int
		together(8, func(me int, r *rand.Rand) {
			for range 10 {
				if x.Take(0, api.Frame, 1) == api.OK {
					got[me]++
				}
			}
		})
		all := 0
		for _, n := range got {
			all += n
		}
		if quota, used := x.Quota(0, api.Frame); all != 37 || quota != 37 || used != 37 {
			t.Fatalf("%d were taken; %d %d", all, quota, used)
		}
	}
}

func TestManyMoveAtOnce(t *testing.T) {
	x := New([4]int{512, 512, 512, 512})
	together(8, func(me int, r *rand.Rand) {
		for range 20000 {
			if n := r.Intn(9); x.Move(r.Intn(4), r.Intn(4), 0, n) == api.EARG {
				t.Errorf("Move of %d: EARG", n)
			}
		}
	})
	sums(t, x, [4]int{512, 512, 512, 512})
}

func TestManyDoAllAtOnce(t *testing.T) {
	all := [4]int{512, 256, 64, 32}
	x := New(all)
	together(8, func(me int, r *rand.Rand) {
		for range 8000 {
			env, to, kind, n := r.Intn(5), r.Intn(5), r.Intn(api.Kinds), r.Intn(20)
			switch r.Intn(10) {
			case 0, 1, 2:
				x.Take(env, kind, n)
			case 3, 4:
				x.Free(env, kind, n)
			case 5, 6, 7:
				x.Move(env, to, kind, n)
			case 8:
				x.Close(env, to)
			default:
				quota, used := x.Quota(env, kind)
				if left := x.Left(env, kind); used < 0 || used > quota || left < 0 || left > all[kind] {
					t.Errorf("meanwhile: %d %d, %d left", quota, used, left)
				}
			}
		}
	})
	sums(t, x, all)
	for env := 1; env < api.MaxEnvs; env++ {
		errs(t, "Close", x.Close(env, 0), api.OK)
	}
	_, used := x.Quota(0, api.Frame)
	errs(t, "Free", x.Free(0, api.Frame, used), api.OK)
	if quota, used := x.Quota(0, api.Frame); quota != 512 || used != 0 {
		t.Errorf("at the end: %d %d", quota, used)
	}
}

// What is told of an environment is as it was at one time: never more is used than the quota, also while all is given and used, or freed and given back.
func TestAskedMeanwhile(t *testing.T) {
	x := New([4]int{512, 0, 0, 0})
	together(4, func(me int, r *rand.Rand) {
		for range 20000 {
			if me == 0 {
				x.Move(0, 1, api.Frame, 512)
				x.Take(1, api.Frame, 512)
				x.Free(1, api.Frame, 512)
				x.Move(1, 0, api.Frame, 512)
				continue
			}
			if quota, used := x.Quota(1, api.Frame); used > quota || x.Left(1, api.Frame) < 0 {
				t.Errorf("meanwhile: %d %d", quota, used)
			}
		}
	})
}

// The chapter's examples.

func TestExamples(t *testing.T) {
	x := New([4]int{10})
	errs(t, "Move", x.Move(0, 1, api.Frame, 4), api.OK)
	errs(t, "Take of 5", x.Take(1, api.Frame, 5), api.EQUOTA)
	errs(t, "Take of 4", x.Take(1, api.Frame, 4), api.OK)
}
