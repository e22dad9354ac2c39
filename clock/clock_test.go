package clock

import (
	"math"
	"math/rand"
	"slices"
	"testing"

	"onionskin/api"
)

// times are ordinary ones and edges; some are alike in their lowest bits.
var times = []uint64{
	0, 1, 2, 3, 7, 4096, 1 << 31, 1<<32 - 1, 1 << 32, 1<<32 + 1, 1<<63 - 1, 1 << 63, 1<<63 + 1,
	math.MaxUint64 - 1, math.MaxUint64,
}

// goodEnvs are environments that there are, badEnvs those that there are not; some are one that there is in their lowest bits.
var goodEnvs = []int{0, 1, 2, 3, 4, 5, 6, 7, 8, 9, 10, 11, 12, 13, 14, 15}

var badEnvs = []int{
	-1, -2, -15, -16, -17, 16, 17, 31, 32, 255, 256, 1 << 31, 1 << 32, 1<<32 + 1, -1 << 31, -1 << 32,
	math.MaxInt, math.MinInt, math.MinInt + 1,
}

// goodSums may be consumed at once, badSums may not.
var goodSums = []int{0, 1, 2, 63, 64, 4095, 4096}

var badSums = []int{
	-1, -2, -4096, -4097, 4097, 4098, 8192, 1 << 16, 1 << 31, 1 << 32, 1<<32 + 1, -1 << 31, -1 << 32,
	math.MaxInt, math.MinInt, math.MinInt + 1,
}

// The limits that the chapter writes out as numbers.
func TestLimits(t *testing.T) {
	if api.MaxEnvs != 16 || api.MaxRun != 4096 {
		t.Fatalf("MaxEnvs %d, MaxRun %d, want 16 and 4096", api.MaxEnvs, api.MaxRun)
	}
}

// Promise 7.1.

// now asks how many steps a clock has counted, twice, as asking is no step.
func now(t *testing.T, c *Clock, want uint64) {
	t.Helper()
	for range 2 {
		if got := c.Now(); got != want {
			t.Fatalf("Now: %d, want %d", got, want)
		}
	}
}

// goes lets steps go by, and asks what is told, and what Now tells then.
func goes(t *testing.T, c *Clock, n, want uint64) {
	t.Helper()
	if got := c.Go(n); got != want {
		t.Fatalf("Go(%d): %d, want %d", n, got, want)
	}
	now(t, c, want)
}

func TestClockExample(t *testing.T) {
	var c Clock
	goes(t, &c, 5, 5)
	goes(t, &c, 2, 7)
}

func TestGo(t *testing.T) {
	var c Clock
	now(t, &c, 0)
	goes(t, &c, 0, 0)
	goes(t, &c, 1, 1)
	goes(t, &c, 0, 1)
	goes(t, &c, 1, 2)
	goes(t, &c, 4096, 4098)
	goes(t, &c, 1<<32, 1<<32+4098)
	goes(t, &c, 1<<63, 1<<63+1<<32+4098)
	goes(t, &c, 0, 1<<63+1<<32+4098)
}

func TestGoBeyondTheGreatest(t *testing.T) {
	var c Clock
	goes(t, &c, math.MaxUint64, math.MaxUint64)
	goes(t, &c, 0, math.MaxUint64)
	goes(t, &c, 1, 0)
	goes(t, &c, math.MaxUint64, math.MaxUint64)
	goes(t, &c, 3, 2)
	goes(t, &c, math.MaxUint64, 1)
	goes(t, &c, 1<<63, 1<<63+1)
	goes(t, &c, 1<<63, 1)
	goes(t, &c, math.MaxUint64, 0)
}

func TestGoOfAllTimes(t *testing.T) {
	for _, a := range times {
		for _, b := range times {
			var c Clock
			goes(t, &c, a, a)
			goes(t, &c, b, a+b)
			goes(t, &c, 1, a+b+1)
		}
	}
}

func TestClocksAreApart(t *testing.T) {
	var a, b Clock
	goes(t, &a, 5, 5)
	now(t, &b, 0)
	goes(t, &b, 9, 9)
	now(t, &a, 5)
}

func TestNilClock(t *testing.T) {
	var c *Clock
	now(t, c, 0)
	for _, n := range times {
		goes(t, c, n, 0)
	}
	var zero Clock
	now(t, &zero, 0)
}

// Promise 7.2.

// holds asks what each environment of a meter consumed, and all of them, twice, as asking changes nothing.
func holds(t *testing.T, m *Meter, want [16]int) {
	t.Helper()
	for range 2 {
		all := 0
		for env, n := range want {
			if got := m.Spent(env); got != n {
				t.Fatalf("Spent(%d): %d, want %d", env, got, n)
			}
			all += n
		}
		if got := m.All(); got != all {
			t.Fatalf("All: %d, want %d", got, all)
		}
	}
}

// filled tells a meter of whose environments each consumed otherwise, and what.
func filled(t *testing.T) (*Meter, [16]int) {
	t.Helper()
	m := &Meter{}
	var want [16]int
	for env := range want {
		want[env] = 1<<env%4096 + env
		if !m.Spend(env, want[env]) {
			t.Fatalf("Spend(%d, %d): false", env, want[env])
		}
	}
	return m, want
}

func TestSpend(t *testing.T) {
	for _, env := range goodEnvs {
		m := &Meter{}
		var want [16]int
		holds(t, m, want)
		for range 3 {
			for _, n := range goodSums {
				if !m.Spend(env, n) {
					t.Fatalf("Spend(%d, %d): false", env, n)
				}
				want[env] += n
				holds(t, m, want)
			}
		}
	}
}

func TestEachSpendsByItself(t *testing.T) {
	m, want := filled(t)
	holds(t, m, want)
	for env := range want {
		for other := range want {
			if env == other {
				continue
			}
			m.Spend(env, 100+other)
			want[env] += 100 + other
		}
		holds(t, m, want)
	}
}

func TestSpendIsRefused(t *testing.T) {
	for _, fresh := range []bool{true, false} {
		m, want := filled(t)
		if fresh {
			m, want = &Meter{}, [16]int{}
		}
		for _, env := range badEnvs {
			for _, n := range slices.Concat(goodSums, badSums) {
				if m.Spend(env, n) {
					t.Fatalf("Spend(%d, %d): true, where there is no such environment", env, n)
				}
			}
			holds(t, m, want)
		}
		for _, env := range goodEnvs {
			for _, n := range badSums {
				if m.Spend(env, n) {
					t.Fatalf("Spend(%d, %d): true, of what can't be consumed", env, n)
				}
			}
			holds(t, m, want)
		}
	}
}

// A meter's numbers go beyond what one call may add, and beyond 32 bits.
func TestSpendOften(t *testing.T) {
	var m Meter
	for i := 1; i <= 1<<21; i++ {
		if !m.Spend(3, 4096) {
			t.Fatalf("Spend(3, 4096), for the %dth time: false", i)
		}
	}
	holds(t, &m, [16]int{3: 1 << 33})
	if got := m.Clear(3); got != 1<<33 {
		t.Fatalf("Clear(3): %d, want %d", got, 1<<33)
	}
	holds(t, &m, [16]int{})
}

func TestSpentOfNone(t *testing.T) {
	m, want := filled(t)
	for _, env := range badEnvs {
		if got := m.Spent(env); got != 0 {
			t.Errorf("Spent(%d): %d, want 0", env, got)
		}
		if got := m.Clear(env); got != 0 {
			t.Errorf("Clear(%d): %d, want 0", env, got)
		}
		holds(t, m, want)
	}
}

func TestClear(t *testing.T) {
	for _, env := range goodEnvs {
		m, want := filled(t)
		for _, n := range []int{want[env], 0, 0} {
			if got := m.Clear(env); got != n {
				t.Fatalf("Clear(%d): %d, want %d", env, got, n)
			}
			want[env] = 0
			holds(t, m, want)
		}
		if !m.Spend(env, 9) {
			t.Fatalf("Spend(%d, 9) behind Clear: false", env)
		}
		want[env] = 9
		holds(t, m, want)
		if got := m.Clear(env); got != 9 {
			t.Fatalf("Clear(%d): %d, want 9", env, got)
		}
		want[env] = 0
		holds(t, m, want)
	}
}

func TestClearAll(t *testing.T) {
	m, want := filled(t)
	for env, n := range want {
		if got := m.Clear(env); got != n {
			t.Fatalf("Clear(%d): %d, want %d", env, got, n)
		}
		want[env] = 0
		holds(t, m, want)
	}
}

func TestMetersAreApart(t *testing.T) {
	a, want := filled(t)
	b := &Meter{}
	holds(t, b, [16]int{})
	b.Spend(4, 77)
	b.Clear(5)
	holds(t, a, want)
	holds(t, b, [16]int{4: 77})
}

// nothing asks all that can be asked of a meter that has nothing.
func nothing(t *testing.T, m *Meter) {
	t.Helper()
	holds(t, m, [16]int{})
	for _, env := range slices.Concat(goodEnvs, badEnvs) {
		if a, b := m.Spent(env), m.Clear(env); a != 0 || b != 0 {
			t.Fatalf("Spent(%d), Clear(%d): %d %d, want 0", env, env, a, b)
		}
	}
}

func TestNilMeter(t *testing.T) {
	var m *Meter
	for range 2 {
		nothing(t, m)
		for _, env := range slices.Concat(goodEnvs, badEnvs) {
			for _, n := range slices.Concat(goodSums, badSums) {
				if m.Spend(env, n) {
					t.Fatalf("Spend(%d, %d) of a nil meter: true, though nothing happens", env, n)
				}
			}
		}
	}
	nothing(t, &Meter{})
}

func TestZeroMeter(t *testing.T) {
	var m Meter
	nothing(t, &m)
	if !m.Spend(0, 0) || !m.Spend(15, 0) {
		t.Error("Spend of nothing: false")
	}
	nothing(t, &m)
}

func TestManyCallsOfAMeter(t *testing.T) {
	for seed := range int64(30) {
		r := rand.New(rand.NewSource(seed))
		var m Meter
		var want [16]int
		for range 400 {
			env, n := r.Intn(20)-2, r.Intn(4101)-2
			is := env >= 0 && env <= 15
			if r.Intn(5) == 0 {
				was := 0
				if is {
					was, want[env] = want[env], 0
				}
				if got := m.Clear(env); got != was {
					t.Fatalf("seed %d: Clear(%d): %d, want %d", seed, env, got, was)
				}
			} else {
				may := is && n >= 0 && n <= 4096
				if may {
					want[env] += n
				}
				if got := m.Spend(env, n); got != may {
					t.Fatalf("seed %d: Spend(%d, %d): %v, want %v", seed, env, n, got, may)
				}
			}
			holds(t, &m, want)
		}
	}
}

// Promise 7.3.

// due asks an alarm at a time.
func due(t *testing.T, a *Alarm, now uint64, want bool) {
	t.Helper()
	if got := a.Due(now); got != want {
		t.Fatalf("Due(%d): %v, want %v", now, got, want)
	}
}

// off takes an alarm back.
func off(t *testing.T, a *Alarm, want bool) {
	t.Helper()
	if got := a.Off(); got != want {
		t.Fatalf("Off: %v, want %v", got, want)
	}
}

// unset asks all that can be asked of an alarm that is not set.
func unset(t *testing.T, a *Alarm) {
	t.Helper()
	for _, at := range times {
		due(t, a, at, false)
		off(t, a, false)
	}
}

func TestAlarmExample(t *testing.T) {
	var a Alarm
	a.Set(3)
	due(t, &a, 2, false)
	due(t, &a, 4, true)
	due(t, &a, 5, false)
	unset(t, &a)
}

// An alarm that is set to any time is due at that time and behind it, and not ahead.
func TestDueAtAllTimes(t *testing.T) {
	for _, at := range times {
		for _, when := range times {
			var a Alarm
			a.Set(at)
			due(t, &a, when, when >= at)
			off(t, &a, when < at)
			unset(t, &a)
		}
	}
}

func TestDueAtItsTime(t *testing.T) {
	var a Alarm
	for _, at := range times[1:] {
		a.Set(at)
		due(t, &a, at-1, false)
		due(t, &a, 0, false)
		due(t, &a, at-1, false)
		due(t, &a, at, true)
		due(t, &a, at, false)
		due(t, &a, math.MaxUint64, false)
		unset(t, &a)
	}
}

func TestDueAtNought(t *testing.T) {
	for _, when := range times {
		var a Alarm
		due(t, &a, when, false)
		a.Set(0)
		due(t, &a, when, true)
		due(t, &a, when, false)
		unset(t, &a)
	}
}

func TestDueAtTheGreatest(t *testing.T) {
	var a Alarm
	due(t, &a, math.MaxUint64, false)
	a.Set(math.MaxUint64)
	for _, when := range times[:len(times)-1] {
		due(t, &a, when, false)
	}
	due(t, &a, math.MaxUint64, true)
	unset(t, &a)
}

func TestOff(t *testing.T) {
	for _, at := range times {
		var a Alarm
		off(t, &a, false)
		a.Set(at)
		off(t, &a, true)
		off(t, &a, false)
		unset(t, &a)
		a.Set(at)
		due(t, &a, at, true)
		off(t, &a, false)
		a.Set(at)
		off(t, &a, true)
		unset(t, &a)
	}
}

// The last time counts, and no other one is left behind it.
func TestSetAgain(t *testing.T) {
	for _, first := range times {
		for _, second := range times {
			var a Alarm
			a.Set(first)
			a.Set(second)
			if second > 0 {
				due(t, &a, second-1, false)
			}
			due(t, &a, second, true)
			unset(t, &a)
			a.Set(first)
			a.Set(second)
			off(t, &a, true)
			unset(t, &a)
			a.Set(first)
			off(t, &a, true)
			a.Set(second)
			due(t, &a, math.MaxUint64, true)
			unset(t, &a)
			a.Set(first)
			due(t, &a, math.MaxUint64, true)
			a.Set(second)
			due(t, &a, second, true)
			unset(t, &a)
		}
	}
}

func TestAlarmsAreApart(t *testing.T) {
	var a, b Alarm
	a.Set(3)
	unset(t, &b)
	b.Set(5)
	due(t, &a, 4, true)
	due(t, &b, 4, false)
	unset(t, &a)
	due(t, &b, 5, true)
}

func TestNilAlarm(t *testing.T) {
	var a *Alarm
	unset(t, a)
	for _, at := range times {
		a.Set(at)
		due(t, a, math.MaxUint64, false)
		off(t, a, false)
	}
	unset(t, a)
	unset(t, &Alarm{})
}

func TestZeroAlarm(t *testing.T) {
	unset(t, &Alarm{})
}

// Promise 7.4.

func TestDueOnceAtMost(t *testing.T) {
	for _, at := range times {
		var a Alarm
		a.Set(at)
		n := 0
		for range 3 {
			for _, when := range times {
				if a.Due(when) {
					n++
				}
			}
		}
		if n != 1 {
			t.Errorf("set to %d: due %d times, want 1", at, n)
		}
	}
}

func TestManyCallsOfAnAlarm(t *testing.T) {
	for seed := range int64(50) {
		r := rand.New(rand.NewSource(seed))
		var a Alarm
		set, at, sets, dues := false, uint64(0), 0, 0
		for range 300 {
			when := times[r.Intn(len(times))]
			switch r.Intn(4) {
			case 0:
				a.Set(when)
				set, at = true, when
				sets++
			case 1:
				off(t, &a, set)
				set = false
			default:
				is := set && when >= at
				due(t, &a, when, is)
				if is {
					set = false
					dues++
				}
			}
			if dues > sets {
				t.Fatalf("seed %d: set %d times, due %d times", seed, sets, dues)
			}
		}
	}
}
