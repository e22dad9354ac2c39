package slots

import (
	"fmt"
	"math"
	"math/rand"
	"slices"
	"testing"

	"onionskin/api"
)

// ring is slots as they were handed over, and the place of the one whose turn it is: what a vector is held against.
type ring struct {
	envs []int
	turn int
}

// at tells the place so many turns on, past the end too.
func (r ring) at(turns int) int { return (r.turn + turns) % len(r.envs) }

// next tells the ring one turn on.
func (r ring) next() ring {
	if len(r.envs) == 0 {
		return r
	}
	return ring{slices.Clone(r.envs), r.at(1)}
}

// without tells the ring without the slots of an environment.
func (r ring) without(env int) ring {
	var left ring
	turn := r.turn
	for tries := 0; tries < len(r.envs) && r.envs[turn] == env; tries++ {
		turn = (turn + 1) % len(r.envs)
	}
	for place, e := range r.envs {
		if e == env {
			continue
		}
		if place < turn {
			left.turn++
		}
		left.envs = append(left.envs, e)
	}
	return left
}

// share tells how many slots an environment has.
func (r ring) share(env int) int {
	n := 0
	for _, e := range r.envs {
		if e == env {
			n++
		}
	}
	return n
}

// wait tells how many turns come ahead of an environment's next one.
func (r ring) wait(env int) (int, bool) {
	for turns := range r.envs {
		if r.envs[r.at(turns)] == env {
			return turns, true
		}
	}
	return 0, false
}

// all tells the environments from the turn on.
func (r ring) all() []int {
	var l []int
	for turns := range r.envs {
		l = append(l, r.envs[r.at(turns)])
	}
	return l
}

// noEnvs are numbers that no environment has; many are alike in their lowest bits to one that there may be.
var noEnvs = []int{
	-1, -2, -15, -16, -17, -32, 16, 17, 31, 32, 33, 255, 256, 257, -255, -256,
	1 << 16, 1<<16 + 1, -1 << 16, math.MaxInt32, math.MinInt32, 1 << 32, 1<<32 + 1, -1 << 32, 1<<32 + 15,
	math.MaxInt, math.MaxInt - 1, math.MinInt, math.MinInt + 1,
}

// anyEnvs are all environments that there may be, and numbers that none has.
func anyEnvs() []int {
	envs := slices.Clone(noEnvs)
	for env := range 16 {
		envs = append(envs, env)
	}
	return envs
}

// check holds all that a vector tells about itself against a ring.
func check(t *testing.T, v Vector, want ring) {
	t.Helper()
	if got := v.Len(); got != len(want.envs) {
		t.Fatalf("Len of %v: %d, not %d", want, got, len(want.envs))
	}
	if got := v.All(); !slices.Equal(got, want.all()) {
		t.Fatalf("All of %v: %v", want, got)
	}
	for _, env := range anyEnvs() {
		if got := v.Share(env); got != want.share(env) {
			t.Fatalf("Share(%d) of %v: %d, not %d", env, want, got, want.share(env))
		}
		turns, has := want.wait(env)
		if got, ok := v.Wait(env); got != turns || ok != has {
			t.Fatalf("Wait(%d) of %v: %d %v, not %d %v", env, want, got, ok, turns, has)
		}
	}
}

// checkCalls holds what a vector tells, and the vectors that it tells, against a ring; v itself stays as it was.
func checkCalls(t *testing.T, v Vector, want ring) {
	t.Helper()
	check(t, v, want)
	checkNext(t, v, want)
	for _, env := range anyEnvs() {
		check(t, v.Without(env), want.without(env))
	}
	check(t, v, want)
}

// checkNext holds Next against a ring, and tells both one turn on.
func checkNext(t *testing.T, v Vector, want ring) (Vector, ring) {
	t.Helper()
	next, env, ok := v.Next()
	check(t, v, want)
	if len(want.envs) == 0 {
		if next != v || env != 0 || ok {
			t.Fatalf("Next of no slots: %v %d %v", next, env, ok)
		}
		return next, want
	}
	if env != want.envs[want.turn] || !ok {
		t.Fatalf("Next of %v: %d %v", want, env, ok)
	}
	check(t, next, want.next())
	return next, want.next()
}

// of makes a vector that may be, and the ring of the same.
func of(t *testing.T, l ...int) (Vector, ring) {
	t.Helper()
	v, ok := Of(l...)
	if !ok {
		t.Fatalf("Of(%v) is refused", l)
	}
	want := ring{envs: slices.Clone(l)}
	check(t, v, want)
	return v, want
}

// refused sees to it that a vector may not be.
func refused(t *testing.T, l ...int) {
	t.Helper()
	if v, ok := Of(l...); ok || v != (Vector{}) {
		t.Fatalf("Of(%v): %v %v", l, v, ok)
	}
}

// full is as many slots as there may be: each environment has two, far apart.
func full() []int {
	var l []int
	for i := range 32 {
		l = append(l, i*5%16)
	}
	return l
}

// several are lists of slots that may be: one slot, the least and the greatest environment, several slots of one, ahead, in the middle and at the end, none, and all.
func several() [][]int {
	return [][]int{
		{}, {0}, {15}, {7}, {0, 0}, {0, 15}, {15, 0}, {1, 2, 1}, {3, 0, 3, 1}, {5, 5, 5}, {5, 5, 2}, {2, 5, 5}, {5, 2, 5}, {4, 4, 9, 4, 4},
		{0, 1, 2, 3, 4, 5, 6, 7, 8, 9, 10, 11, 12, 13, 14, 15}, {0, 0, 0, 1}, {1, 0, 0, 0}, {9, 8, 8, 9, 9, 8, 8},
		slices.Repeat([]int{0}, 32), slices.Repeat([]int{15}, 32), slices.Repeat([]int{1, 2, 1, 3}, 8), slices.Repeat([]int{6}, 31), full(), full()[:31],
	}
}

// Promise 16.1.

func TestOfNoSlots(t *testing.T) {
	for _, l := range [][]int{nil, {}} {
		v, want := of(t, l...)
		if v != (Vector{}) {
			t.Errorf("Of no slots: %v", v)
		}
		checkCalls(t, v, want)
	}
	if v, ok := Of(); !ok || v != (Vector{}) {
		t.Errorf("Of(): %v %v", v, ok)
	}
}

func TestOf(t *testing.T) {
	for _, l := range several() {
		v, want := of(t, l...)
		checkCalls(t, v, want)
	}
}

func TestOfEachEnvironment(t *testing.T) {
	for env := range api.MaxEnvs {
		v, want := of(t, env)
		checkCalls(t, v, want)
	}
}

func TestOfAsManyAsMayBe(t *testing.T) {
	if api.MaxSlots != 32 || api.MaxEnvs != 16 {
		t.Fatal("other limits")
	}
	for n := range 80 {
		l := make([]int, n)
		for i := range l {
			l[i] = i % 16
		}
		if n <= 32 {
			of(t, l...)
		} else {
			refused(t, l...)
		}
	}
	refused(t, make([]int, 1<<16)...)
	refused(t, make([]int, 1<<16+1)...)
	refused(t, append(full(), -1)...)
	refused(t, append(full(), 0)...)
}

func TestOfEnvironmentsThatMayNotBe(t *testing.T) {
	for _, env := range noEnvs {
		refused(t, env)
		refused(t, env, 1, 2)
		refused(t, 1, env, 2)
		refused(t, 1, 2, env)
		refused(t, env, env)
		for place := range 32 {
			l := full()
			l[place] = env
			refused(t, l...)
		}
		l := full()
		l[0], l[31] = env, -env
		refused(t, l...)
	}
}

func TestOfReadsNothingBehindALength(t *testing.T) {
	room := []int{1, 2, 99, 99}
	v, want := of(t, room[:2]...)
	check(t, v, want)
	if !slices.Equal(room, []int{1, 2, 99, 99}) {
		t.Errorf("the list that was handed over: %v", room)
	}
	of(t, make([]int, 40)[:32]...)
	of(t, slices.Repeat([]int{-1}, 40)[:0]...)
}

func TestZero(t *testing.T) {
	var v Vector
	checkCalls(t, v, ring{})
	next, env, ok := v.Next()
	if next != (Vector{}) || env != 0 || ok {
		t.Errorf("Next: %v %d %v", next, env, ok)
	}
	for _, env := range anyEnvs() {
		if got := v.Without(env); got != (Vector{}) {
			t.Errorf("Without(%d): %v", env, got)
		}
		if got := v.Share(env); got != 0 {
			t.Errorf("Share(%d): %d", env, got)
		}
		if n, ok := v.Wait(env); n != 0 || ok {
			t.Errorf("Wait(%d): %d %v", env, n, ok)
		}
	}
	if v.Len() != 0 || len(v.All()) != 0 {
		t.Errorf("Len %d, All %v", v.Len(), v.All())
	}
}

func TestNextRoundAndRound(t *testing.T) {
	for _, l := range several() {
		v, want := of(t, l...)
		for turn := range 3*len(l) + 2 {
			v, want = checkNext(t, v, want)
			if len(l) > 0 && want.turn != (turn+1)%len(l) {
				t.Fatalf("the ring itself: %v", want)
			}
		}
	}
}

func TestNextTellsWhoseTurnItWas(t *testing.T) {
	v, _ := of(t, 3, 0, 15, 0)
	var told []int
	for range 10 {
		next, env, ok := v.Next()
		if !ok {
			t.Fatal("no turn")
		}
		v, told = next, append(told, env)
	}
	if want := []int{3, 0, 15, 0, 3, 0, 15, 0, 3, 0}; !slices.Equal(told, want) {
		t.Errorf("told %v, not %v", told, want)
	}
	if want := []int{15, 0, 3, 0}; !slices.Equal(v.All(), want) {
		t.Errorf("All %v, not %v", v.All(), want)
	}
}

func TestNextLeavesTheOneAhead(t *testing.T) {
	for _, l := range several() {
		v, want := of(t, l...)
		was := v
		for range 5 {
			v.Next()
			if v != was {
				t.Fatalf("Next of %v changes it", l)
			}
		}
		check(t, v, want)
	}
}

func TestWithoutWhoseTurnItIsNot(t *testing.T) {
	v, _ := of(t, 1, 2, 1, 3)
	next, _, _ := v.Next() // 2's turn
	for _, c := range []struct {
		env  int
		want []int
	}{
		{1, []int{2, 3}}, {3, []int{2, 1, 1}}, {0, []int{2, 1, 3, 1}}, {15, []int{2, 1, 3, 1}},
	} {
		if got := next.Without(c.env).All(); !slices.Equal(got, c.want) {
			t.Errorf("Without(%d): %v, not %v", c.env, got, c.want)
		}
	}
}

func TestWithoutWhoseTurnItIs(t *testing.T) {
	for _, c := range []struct {
		slots []int
		turns int
		env   int
		want  []int
	}{
		{[]int{1, 2, 3}, 0, 1, []int{2, 3}},
		{[]int{1, 2, 3}, 1, 2, []int{3, 1}},
		{[]int{1, 2, 3}, 2, 3, []int{1, 2}},                      // past the end
		{[]int{1, 1, 1, 2, 3}, 0, 1, []int{2, 3}},                // past several slots
		{[]int{1, 1, 1, 2, 3}, 1, 1, []int{2, 3}},                // from the middle of them
		{[]int{1, 2, 3, 1, 1}, 3, 1, []int{2, 3}},                // past several, and the end, and one more
		{[]int{4, 0, 4, 5, 4}, 2, 4, []int{5, 0}},                // slots of it ahead and behind
		{[]int{4, 0, 4, 5, 4}, 4, 4, []int{0, 5}},                // the last slot
		{[]int{0, 6, 0, 7}, 2, 0, []int{7, 6}},                   // environment 0
		{[]int{15, 6, 15, 7}, 0, 15, []int{6, 7}},                // environment 15
		{[]int{9}, 0, 9, nil},                                    // the only one
		{[]int{9, 9, 9}, 1, 9, nil},                              // all of it
		{slices.Repeat([]int{8}, 32), 31, 8, nil},                // all that there may be
		{append(slices.Repeat([]int{8}, 31), 2), 5, 8, []int{2}}, // but one
	} {
		v, _ := of(t, c.slots...)
		for range c.turns {
			v, _, _ = v.Next()
		}
		if got := v.Without(c.env).All(); !slices.Equal(got, c.want) {
			t.Errorf("%v, %d turns on, without %d: %v, not %v", c.slots, c.turns, c.env, got, c.want)
		}
	}
}

func TestWithoutAtEachTurn(t *testing.T) {
	for _, l := range several() {
		v, want := of(t, l...)
		for range len(l) + 2 {
			checkCalls(t, v, want)
			v, want = checkNext(t, v, want)
		}
	}
}

func TestWithoutAnybodyChangesNothing(t *testing.T) {
	for _, l := range several() {
		v, _ := of(t, l...)
		for range len(l) + 1 {
			for _, env := range anyEnvs() {
				if !slices.Contains(l, env) && v.Without(env) != v {
					t.Fatalf("%v without %d: %v", v, env, v.Without(env))
				}
			}
			v, _, _ = v.Next()
		}
	}
}

func TestWithoutAllOneByOne(t *testing.T) {
	for _, l := range several() {
		for turns := range len(l) + 1 {
			v, want := of(t, l...)
			for range turns {
				v, want = checkNext(t, v, want)
			}
			for len(want.envs) > 0 {
				env := want.envs[want.turn]
				v, want = v.Without(env), want.without(env)
				checkCalls(t, v, want)
			}
			if v != (Vector{}) {
				t.Fatalf("%v without all: %v", l, v)
			}
		}
	}
}

func TestWithoutLeavesTheOneAhead(t *testing.T) {
	v, want := of(t, 1, 2, 1)
	was := v
	if left := v.Without(1); left.Len() != 1 {
		t.Errorf("left %v", left)
	}
	if v != was {
		t.Error("Without changes a vector")
	}
	check(t, v, want)
}

// TestGoneSlotsAreNowhere: what is left is as if the others had never been there.
func TestGoneSlotsAreNowhere(t *testing.T) {
	v, _ := of(t, 15, 14, 15, 13)
	w, _ := of(t, 14, 13)
	if v.Without(15) != w {
		t.Errorf("%v, not %v", v.Without(15), w)
	}
}

func TestExample(t *testing.T) {
	v, ok := Of(1, 2, 1)
	if !ok {
		t.Fatal("refused")
	}
	first := v
	for _, want := range []int{1, 2, 1, 1} {
		next, env, ok := v.Next()
		if env != want || !ok {
			t.Fatalf("%d %v, not %d", env, ok, want)
		}
		v = next
	}
	left := first.Without(1)
	if _, env, ok := left.Next(); env != 2 || !ok || left.Len() != 1 {
		t.Errorf("%d %v, %d left", env, ok, left.Len())
	}
}

// Promise 16.2.

func TestShareAndLen(t *testing.T) {
	v, _ := of(t, 3, 0, 3, 15, 3)
	for range 7 {
		for env, want := range map[int]int{3: 3, 0: 1, 15: 1, 1: 0, 14: 0, 16: 0, -1: 0, -3: 0, 19: 0, math.MaxInt: 0, math.MinInt: 0} {
			if got := v.Share(env); got != want {
				t.Errorf("Share(%d): %d, not %d", env, got, want)
			}
		}
		if v.Len() != 5 {
			t.Errorf("Len: %d", v.Len())
		}
		v, _, _ = v.Next()
	}
	if left := v.Without(3); left.Share(3) != 0 || left.Share(0) != 1 || left.Len() != 2 {
		t.Errorf("left: %v", left)
	}
}

func TestShareOfFew(t *testing.T) {
	v, _ := of(t, slices.Repeat([]int{0}, 32)...)
	if v.Share(0) != 32 || v.Share(1) != 0 || v.Len() != 32 {
		t.Errorf("of 32: %d %d %d", v.Share(0), v.Share(1), v.Len())
	}
	v, _ = of(t, 5) // behind the only slot there is no environment, not even 0
	if v.Share(0) != 0 || v.Share(5) != 1 || v.Len() != 1 {
		t.Errorf("of one: %d %d %d", v.Share(0), v.Share(5), v.Len())
	}
}

func TestWait(t *testing.T) {
	v, _ := of(t, 3, 0, 3, 15)
	for _, want := range []map[int]int{
		{3: 0, 0: 1, 15: 3},
		{0: 0, 3: 1, 15: 2},
		{3: 0, 15: 1, 0: 3},
		{15: 0, 3: 1, 0: 2},
		{3: 0, 0: 1, 15: 3},
	} {
		for _, env := range anyEnvs() {
			turns, has := want[env]
			if got, ok := v.Wait(env); got != turns || ok != has {
				t.Errorf("%v: Wait(%d): %d %v, not %d %v", v.All(), env, got, ok, turns, has)
			}
		}
		v, _, _ = v.Next()
	}
}

func TestWaitForTheLastOfAll(t *testing.T) {
	v, _ := of(t, append(slices.Repeat([]int{0}, 31), 9)...)
	for turns := 31; turns >= 0; turns-- {
		if got, ok := v.Wait(9); got != turns || !ok {
			t.Errorf("Wait: %d %v, not %d", got, ok, turns)
		}
		v, _, _ = v.Next()
	}
	if got, ok := v.Wait(9); got != 31 || !ok {
		t.Errorf("Wait behind its turn: %d %v", got, ok)
	}
}

// TestWaitIsTurnsOfOthers: Next tells as many times somebody else, then it.
func TestWaitIsTurnsOfOthers(t *testing.T) {
	for _, l := range several() {
		v, _ := of(t, l...)
		for range l {
			for _, env := range l {
				others := 0
				w, e, _ := v.Next()
				for e != env {
					others++
					w, e, _ = w.Next()
				}
				if got, ok := v.Wait(env); got != others || !ok {
					t.Fatalf("%v: Wait(%d): %d %v, not %d", v.All(), env, got, ok, others)
				}
			}
			v, _, _ = v.Next()
		}
	}
}

func TestAllFromTheTurnOn(t *testing.T) {
	v, _ := of(t, 0, 4, 15, 4)
	for _, want := range [][]int{{0, 4, 15, 4}, {4, 15, 4, 0}, {15, 4, 0, 4}, {4, 0, 4, 15}, {0, 4, 15, 4}} {
		if got := v.All(); !slices.Equal(got, want) {
			t.Errorf("All: %v, not %v", got, want)
		}
		v, _, _ = v.Next()
	}
}

// TestAllMakesItAgain: All, handed over, makes what tells the same.
func TestAllMakesItAgain(t *testing.T) {
	for _, l := range several() {
		v, _ := of(t, l...)
		for range len(l) + 1 {
			again, ok := Of(v.All()...)
			if !ok || again != v {
				t.Fatalf("Of(%v): %v %v", v.All(), again, ok)
			}
			v, _, _ = v.Next()
		}
	}
}

// Rule R4.

// spoil writes to a list, as far as it has room.
func spoil(l []int) {
	l = l[:cap(l)]
	for i := range l {
		l[i] = 99
	}
}

func TestListsAreTheAskersOwn(t *testing.T) {
	for _, l := range several() {
		v, want := of(t, l...)
		for range len(l) + 1 {
			told, other := v.All(), v.All()
			spoil(told)
			if !slices.Equal(other, want.all()) {
				t.Fatalf("another answer: %v", other)
			}
			checkCalls(t, v, want)
			v, want = checkNext(t, v, want)
		}
	}
}

func TestListsThatWereHandedOverAreNobodysElse(t *testing.T) {
	for _, l := range several() {
		handed := slices.Clone(l)
		v, ok := Of(handed...)
		if !ok || !slices.Equal(handed, l) {
			t.Fatalf("Of(%v): %v, %v", l, ok, handed)
		}
		next, _, _ := v.Next()
		left := v.Without(3)
		if !slices.Equal(handed, l) {
			t.Fatalf("handed over %v, and now it is %v", l, handed)
		}
		want := ring{envs: l}
		spoil(handed)
		checkCalls(t, v, want)
		checkCalls(t, next, want.next())
		checkCalls(t, left, want.without(3))
	}
}

// Promise 16.3.

// checkRound sees to it that each has its share in as many turns as there are slots, and that it is the same turn again then.
func checkRound(t *testing.T, v Vector) {
	t.Helper()
	var turns [api.MaxEnvs]int
	w := v
	for range v.Len() {
		next, env, ok := w.Next()
		if !ok {
			t.Fatalf("%v: no turn", w.All())
		}
		turns[env]++
		w = next
	}
	for env, n := range turns {
		if n != v.Share(env) {
			t.Fatalf("%v: environment %d had %d turns, not %d", v.All(), env, n, v.Share(env))
		}
	}
	if w != v || !slices.Equal(w.All(), v.All()) {
		t.Fatalf("%v, and a round on %v", v.All(), w.All())
	}
}

func TestEachHasItsShareFromEachTurnOn(t *testing.T) {
	for _, l := range several() {
		v, _ := of(t, l...)
		for range len(l) + 1 {
			checkRound(t, v)
			for _, env := range anyEnvs() {
				checkRound(t, v.Without(env))
			}
			v, _, _ = v.Next()
		}
	}
}

// All of it, against a ring.

// draw makes slots by chance: few environments often, all sometimes, as many as may be sometimes.
func draw(r *rand.Rand) []int {
	n := r.Intn(7)
	if r.Intn(3) == 0 {
		n = r.Intn(33)
	}
	l := make([]int, n)
	for i := range l {
		if n < 7 {
			l[i] = r.Intn(4)
		} else {
			l[i] = r.Intn(16)
		}
	}
	return l
}

// step makes one call by chance of both.
func step(t *testing.T, r *rand.Rand, v Vector, want ring) (Vector, ring) {
	t.Helper()
	switch r.Intn(8) {
	case 0:
		return of(t, draw(r)...)
	case 1:
		env := r.Intn(16)
		return v.Without(env), want.without(env)
	case 2:
		env := noEnvs[r.Intn(len(noEnvs))]
		l := append(draw(r), env)
		refused(t, slices.Insert(l, r.Intn(len(l)), 0)...)
		return v.Without(env), want.without(env)
	case 3:
		refused(t, make([]int, 33+r.Intn(40))...)
		spoil(v.All())
		return v, want
	}
	return checkNext(t, v, want)
}

func TestManyCalls(t *testing.T) {
	for seed := range 60 {
		r := rand.New(rand.NewSource(int64(seed)))
		var v Vector
		var want ring
		var ahead []Vector // every one that there was tells on what it told
		var rings []ring
		for range 200 {
			v, want = step(t, r, v, want)
			check(t, v, want)
			ahead, rings = append(ahead, v), append(rings, want)
		}
		for i, v := range ahead {
			check(t, v, rings[i])
			checkRound(t, v)
		}
	}
}

// Rule R5.

func TestTheSameCallsAgain(t *testing.T) {
	told := func() string {
		r := rand.New(rand.NewSource(7))
		var s string
		v, _ := Of(full()...)
		for range 300 {
			if r.Intn(40) == 0 {
				v, _ = Of(draw(r)...)
			}
			if r.Intn(10) == 0 {
				v = v.Without(r.Intn(16))
			}
			next, env, ok := v.Next()
			s += fmt.Sprintln(env, ok, v.All())
			v = next
		}
		return s
	}
	if told() != told() {
		t.Error("the same calls, and other answers")
	}
}
