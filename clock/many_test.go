package clock

import (
	"math"
	"runtime"
	"slices"
	"sync"
	"sync/atomic"
	"testing"
)

// Rule R7: what is counted is counted by many at once.

const (
	many  = 8
	often = 20000

	rounds = 5000 // of those that go in step, which takes longer
)

// atOnce does something by many at once, each with a number of its own, none of them ahead of the others' start.
func atOnce(do func(who int)) {
	var w sync.WaitGroup
	start := make(chan struct{})
	for who := range many {
		w.Go(func() {
			<-start
			do(who)
		})
	}
	close(start)
	w.Wait()
}

// inStep does something by many at once, round by round; each round begins for all of them as nearly together as may be, so that their calls meet.
func inStep(do func(round, who int)) {
	var came atomic.Int64
	atOnce(func(who int) {
		for round := range rounds {
			came.Add(1)
			for came.Load() < int64(many*(round+1)) {
				runtime.Gosched()
			}
			do(round, who)
		}
	})
}

func TestManyCountOnOneClock(t *testing.T) {
	var c Clock
	var told [many][]uint64
	atOnce(func(who int) {
		for range often {
			told[who] = append(told[who], c.Go(1))
		}
	})
	now(t, &c, many*often)
	var all []uint64
	for who, l := range told {
		if !slices.IsSorted(l) {
			t.Errorf("%d was told steps that go back", who)
		}
		all = append(all, l...)
	}
	slices.Sort(all)
	for i, n := range all {
		if n != uint64(i)+1 {
			t.Fatalf("the %dth that was told is %d", i+1, n)
		}
	}
}

func TestManyCountBeyondTheGreatest(t *testing.T) {
	var c Clock
	c.Go(math.MaxUint64 - 99)
	atOnce(func(who int) {
		for range often {
			c.Go(uint64(who))
		}
	})
	now(t, &c, many*(many-1)/2*often-100)
}

func TestClockIsAskedMeanwhile(t *testing.T) {
	var c Clock
	atOnce(func(who int) {
		last := uint64(0)
		for range often {
			if who%2 == 0 {
				c.Go(3)
			}
			n := c.Now()
			if n < last || n%3 != 0 || n > many/2*often*3 {
				t.Errorf("Now: %d, behind %d", n, last)
				return
			}
			last = n
		}
	})
	now(t, &c, many/2*often*3)
}

func TestManyCountOnOneMeter(t *testing.T) {
	var m Meter
	atOnce(func(who int) {
		for range often {
			if !m.Spend(who%3, 5) || !m.Spend(who+8, who) || m.Spend(16, 5) || m.Spend(who, 4097) {
				t.Errorf("Spend, meanwhile others did: %d", who)
				return
			}
		}
	})
	var want [16]int
	for who := range many {
		want[who%3] += 5 * often
		want[who+8] += who * often
	}
	holds(t, &m, want)
}

// What is spent is told by one Clear alone, or stays.
func TestManyClearOneMeter(t *testing.T) {
	var m Meter
	var told [many]int
	atOnce(func(who int) {
		for i := range often {
			m.Spend(7, 3)
			if i%3 == 0 {
				told[who] += m.Clear(7)
			}
		}
	})
	all := m.Spent(7)
	for _, n := range told {
		all += n
	}
	if all != many*often*3 {
		t.Errorf("cleared and left: %d, want %d", all, many*often*3)
	}
}

func TestOneAloneClears(t *testing.T) {
	var meters [rounds]Meter
	var told [rounds][many]int
	for round := range rounds {
		meters[round].Spend(7, 9)
	}
	inStep(func(round, who int) { told[round][who] = meters[round].Clear(7) })
	for round, l := range told {
		slices.Sort(l[:])
		if l != [many]int{many - 1: 9} {
			t.Fatalf("round %d: 9 were spent, and many that cleared were told %v", round, l)
		}
		holds(t, &meters[round], [16]int{})
	}
}

// What is spent while others clear is told by them or stays.
func TestClearLosesNothing(t *testing.T) {
	var meters [rounds]Meter
	var told [rounds][many]int
	inStep(func(round, who int) {
		if who%2 == 0 {
			meters[round].Spend(7, 9)
		} else {
			told[round][who] = meters[round].Clear(7)
		}
	})
	for round, l := range told {
		left := meters[round].Spent(7)
		if left < 0 || slices.Min(l[:]) < 0 || sum(l)+left != many/2*9 {
			t.Fatalf("round %d: %d were spent, %v cleared, %d left", round, many/2*9, l, left)
		}
	}
}

// What all consumed is never less than it was, while nobody clears, and never more than it comes to be.
func TestMeterIsAskedMeanwhile(t *testing.T) {
	var m Meter
	atOnce(func(who int) {
		last, mine := 0, 0
		for range often {
			if who%2 == 0 {
				m.Spend(who, 2)
				mine += 2
			}
			n := m.All()
			if n < last || n < mine || n%2 != 0 || n > many/2*often*2 {
				t.Errorf("All: %d, behind %d", n, last)
				return
			}
			last = n
			if who%2 == 0 && m.Spent(who) != mine {
				t.Errorf("Spent(%d): %d, want %d", who, m.Spent(who), mine)
				return
			}
		}
	})
	holds(t, &m, [16]int{0: 2 * often, 2: 2 * often, 4: 2 * often, 6: 2 * often})
}

// sum tells how many were told true.
func sum(told [many]int) int {
	n := 0
	for _, k := range told {
		n += k
	}
	return n
}

func TestOneAloneIsTold(t *testing.T) {
	var alarms [rounds]Alarm
	var told [rounds][many]int
	for round := range rounds {
		alarms[round].Set(50)
	}
	inStep(func(round, who int) {
		for _, when := range []uint64{49, 50 + uint64(who%3), 70} {
			if alarms[round].Due(when) {
				told[round][who]++
			}
		}
	})
	for round, l := range told {
		if n := sum(l); n != 1 {
			t.Fatalf("round %d: an alarm was due %d times, want 1", round, n)
		}
		unset(t, &alarms[round])
	}
}

func TestOneAloneTakesItBack(t *testing.T) {
	var alarms [rounds]Alarm
	var told [rounds][many]int
	for round := range rounds {
		alarms[round].Set(50)
	}
	inStep(func(round, who int) {
		if who%2 == 0 && alarms[round].Off() || alarms[round].Due(60) {
			told[round][who]++
		}
	})
	for round, l := range told {
		if n := sum(l); n != 1 {
			t.Fatalf("round %d: an alarm was off or due %d times, want 1", round, n)
		}
		unset(t, &alarms[round])
	}
}

// As often as it is set it may be due, and no more often, however many set it meanwhile.
func TestManySetOneAlarm(t *testing.T) {
	var a Alarm
	var told [many]int
	atOnce(func(who int) {
		for i := range often {
			if who < 2 && i%4 == 0 {
				a.Set(uint64(i % 7))
			}
			if a.Due(10) {
				told[who]++
			}
			if who == 3 && a.Off() {
				told[who]++
			}
		}
	})
	if n := sum(told); n == 0 || n > 2*often/4 {
		t.Errorf("set %d times, due or off %d times", 2*often/4, n)
	}
	unset(t, &a)
}

// Those that ask of a time that has come take nothing of a later one, that is set meanwhile.
func TestWhatIsSetMeanwhileStays(t *testing.T) {
	var alarms [rounds]Alarm
	var told [rounds][many]int
	for round := range rounds {
		alarms[round].Set(5)
	}
	inStep(func(round, who int) {
		if who == 0 {
			alarms[round].Set(100)
		} else if alarms[round].Due(50) {
			told[round][who]++
		}
	})
	for round, l := range told {
		if n := sum(l); n > 1 {
			t.Fatalf("round %d: an alarm was due %d times, want 1 at most", round, n)
		}
		due(t, &alarms[round], 99, false)
		due(t, &alarms[round], 100, true)
		unset(t, &alarms[round])
	}
}

// One that is set again and again, always to a time that has come, is due whoever asks, as long as nobody took it.
func TestOneThatHasComeIsDue(t *testing.T) {
	var a Alarm
	a.Set(1)
	missed := 0
	atOnce(func(who int) {
		for range often {
			if who > 0 {
				a.Set(uint64(who))
			} else if a.Set(9); !a.Due(10) {
				missed++
			}
		}
	})
	if missed > 0 {
		t.Errorf("%d of %d alarms that had come were not due", missed, often)
	}
}
