package port

import (
	"math"
	"math/rand"
	"slices"
	"testing"

	"onionskin/api"
)

// most is how many words a port may hold.
const most = 64

// seq tells n words from one on, rising.
func seq(from uint32, n int) []uint32 {
	l := make([]uint32, n)
	for i := range l {
		l[i] = from + uint32(i)
	}
	return l
}

// check asks a port for all that can be asked of it and changes nothing: these words wait, in order.
func check(t *testing.T, p *Port, want []uint32) {
	t.Helper()
	if n := p.Len(); n != len(want) {
		t.Fatalf("Len: %d, want %d", n, len(want))
	}
	if n := p.Room(); n != most-len(want) {
		t.Fatalf("Room: %d, want %d", n, most-len(want))
	}
	if n := p.Len() + p.Room(); n != api.MaxQueue {
		t.Fatalf("Len and Room: %d, want %d", n, api.MaxQueue)
	}
	for range 2 { // asking takes nothing
		if l := p.All(); !slices.Equal(l, want) {
			t.Fatalf("All: %v, want %v", l, want)
		}
	}
}

// receives takes one word that there is.
func receives(t *testing.T, p *Port, want uint32) {
	t.Helper()
	if w, ok := p.Receive(); w != want || !ok {
		t.Fatalf("Receive: %d %v, want %d true", w, ok, want)
	}
}

// receivesNone asks a port that has no words for one.
func receivesNone(t *testing.T, p *Port) {
	t.Helper()
	for range 2 {
		if w, ok := p.Receive(); w != 0 || ok {
			t.Fatalf("Receive: %d %v, want 0 false", w, ok)
		}
	}
}

// drains takes all words one by one, and asks for one more.
func drains(t *testing.T, p *Port, want []uint32) {
	t.Helper()
	for i, w := range want {
		check(t, p, want[i:])
		receives(t, p, w)
	}
	check(t, p, nil)
	receivesNone(t, p)
	check(t, p, nil)
}

// refuses asks a port to take words for which it has no room.
func refuses(t *testing.T, p *Port, want []uint32) {
	t.Helper()
	for _, w := range []uint32{0, 7, math.MaxUint32} {
		if p.Send(w) {
			t.Fatalf("Send(%d) without room: true", w)
		}
		check(t, p, want)
		if n := p.SendAll(w, w, w); n != 0 {
			t.Fatalf("SendAll without room: %d, want 0", n)
		}
		check(t, p, want)
	}
}

// turned tells a port that has no words, through which so many went ahead, so that its words wait from another place on.
func turned(t *testing.T, by int) *Port {
	t.Helper()
	p := &Port{}
	for i := range by {
		w := uint32(90000 + i)
		if !p.Send(w) {
			t.Fatalf("Send(%d): false", w)
		}
		receives(t, p, w)
	}
	check(t, p, nil)
	return p
}

// holding tells a port as turned does, to which these words were sent one by one.
func holding(t *testing.T, by int, words []uint32) *Port {
	t.Helper()
	p := turned(t, by)
	for _, w := range words {
		if !p.Send(w) {
			t.Fatalf("Send(%d): false", w)
		}
	}
	check(t, p, words)
	return p
}

// turns are some places from which words may wait: the first ones, the last ones, and round once more.
var turns = []int{0, 1, 2, 31, 32, 33, 62, 63, 64, 65, 127, 128, 129}

// Promise 9.1.

func TestExample(t *testing.T) {
	var p Port
	if !p.Send(1) || !p.Send(2) {
		t.Fatal("Send: false")
	}
	receives(t, &p, 1)
	if l := p.All(); !slices.Equal(l, []uint32{2}) {
		t.Errorf("All: %v, want 2", l)
	}
	check(t, &p, []uint32{2})
}

func TestMaxQueue(t *testing.T) {
	if api.MaxQueue != most {
		t.Errorf("MaxQueue: %d, want %d", api.MaxQueue, most)
	}
}

func TestZeroPort(t *testing.T) {
	var p Port
	check(t, &p, nil)
	receivesNone(t, &p)
	if n := p.Clear(); n != 0 {
		t.Errorf("Clear: %d, want 0", n)
	}
	check(t, &p, nil)
	if !p.Send(5) {
		t.Error("Send into the zero port: false")
	}
	check(t, &p, []uint32{5})
	drains(t, &p, []uint32{5})
}

func TestSendUntilThereIsNoRoom(t *testing.T) {
	for _, by := range turns {
		p := turned(t, by)
		words := seq(100, most)
		for i, w := range words {
			check(t, p, words[:i])
			if !p.Send(w) {
				t.Fatalf("Send(%d), with %d waiting: false", w, i)
			}
		}
		check(t, p, words)
		refuses(t, p, words)
		drains(t, p, words)
	}
}

func TestSendIntoTheLastPlace(t *testing.T) {
	for _, by := range turns {
		words := seq(1, most-1)
		p := holding(t, by, words)
		if !p.Send(900) {
			t.Fatal("Send, with one place left: false")
		}
		words = append(words, 900)
		check(t, p, words)
		refuses(t, p, words)
		receives(t, p, 1)
		if !p.Send(901) {
			t.Fatal("Send, with one place left again: false")
		}
		words = append(words[1:], 901)
		check(t, p, words)
		refuses(t, p, words)
		drains(t, p, words)
	}
}

// Of every length, into a port that holds every number of words: as many as there is room for.
func TestSendAll(t *testing.T) {
	for _, by := range turns {
		for held := range most + 1 {
			for _, n := range []int{0, 1, 2, most - held - 1, most - held, most - held + 1, most - 1, most, most + 1, 200} {
				if n >= 0 {
					sendsAll(t, by, held, n)
				}
			}
		}
	}
}

// sendsAll sends n words to a port that holds some.
func sendsAll(t *testing.T, by, held, n int) {
	t.Helper()
	p := holding(t, by, seq(1, held))
	l := seq(1000, n)
	sent := min(n, most-held)
	if got := p.SendAll(l...); got != sent {
		t.Fatalf("SendAll of %d words, with %d waiting: %d, want %d", n, held, got, sent)
	}
	if !slices.Equal(l, seq(1000, n)) {
		t.Fatalf("SendAll changed what it was handed: %v", l)
	}
	words := append(seq(1, held), seq(1000, sent)...)
	check(t, p, words)
	if len(words) == most {
		refuses(t, p, words)
	}
	for _, w := range words {
		receives(t, p, w)
	}
	receivesNone(t, p)
	check(t, p, nil)
}

func TestSendAllOfNoWords(t *testing.T) {
	for _, held := range []int{0, 1, 63, 64} {
		p := holding(t, 40, seq(1, held))
		for _, l := range [][]uint32{nil, {}, seq(5, 3)[:0]} {
			if n := p.SendAll(l...); n != 0 {
				t.Errorf("SendAll of no words: %d, want 0", n)
			}
			check(t, p, seq(1, held))
		}
		if n := p.SendAll(); n != 0 {
			t.Errorf("SendAll(): %d, want 0", n)
		}
		check(t, p, seq(1, held))
	}
}

func TestSendAllKeepsNothingOfWhatWasHandedIn(t *testing.T) {
	for _, n := range []int{1, 3, most, most + 5} {
		var p Port
		l := seq(10, n)
		p.SendAll(l...)
		want := seq(10, min(n, most))
		for i := range l {
			l[i] = 9999
		}
		check(t, &p, want)
		drains(t, &p, want)
	}
}

// What lies behind a list's length is neither sent nor changed, whatever is sent and received then.
func TestSendAllLeavesWhatLiesBehind(t *testing.T) {
	long := seq(10, 100)
	var p Port
	if n := p.SendAll(long[:3]...); n != 3 {
		t.Fatalf("SendAll: %d, want 3", n)
	}
	check(t, &p, seq(10, 3))
	p.SendAll(seq(500, 70)...)
	p.Receive()
	p.Send(7)
	p.Clear()
	if !slices.Equal(long, seq(10, 100)) {
		t.Errorf("what was handed in was changed: %v", long)
	}
}

func TestSendAllOfWhatAllTold(t *testing.T) {
	p := holding(t, 50, seq(1, 30))
	if n := p.SendAll(p.All()...); n != 30 {
		t.Errorf("SendAll of 30 words: %d", n)
	}
	words := append(seq(1, 30), seq(1, 30)...)
	check(t, p, words)
	if n := p.SendAll(p.All()...); n != 4 {
		t.Errorf("SendAll of 60 words, with 4 places left: %d", n)
	}
	words = append(words, 1, 2, 3, 4)
	check(t, p, words)
	drains(t, p, words)
}

func TestReceive(t *testing.T) {
	for _, by := range turns {
		for n := range most + 1 {
			drains(t, holding(t, by, seq(1, n)), seq(1, n))
		}
	}
}

// One that was asked for a word while it had none is none the worse.
func TestReceiveOfNone(t *testing.T) {
	for _, by := range turns {
		p := turned(t, by)
		for range 100 {
			receivesNone(t, p)
		}
		check(t, p, nil)
		if n := p.SendAll(seq(1, 65)...); n != most {
			t.Fatalf("SendAll of 65 words: %d, want %d", n, most)
		}
		drains(t, p, seq(1, most))
	}
}

func TestWordsAreAsTheyWereSent(t *testing.T) {
	words := []uint32{0, math.MaxUint32, 0, 0, 1, math.MaxUint32, math.MaxUint32 - 1, 1 << 31, 1<<31 - 1, 0}
	for bit := range 32 {
		words = append(words, 1<<bit)
	}
	for _, by := range turns {
		p := holding(t, by, words)
		drains(t, p, words)
		if n := p.SendAll(words...); n != len(words) {
			t.Fatalf("SendAll: %d, want %d", n, len(words))
		}
		drains(t, p, words)
	}
}

// A word that is 0 is one as any other: it waits, and is received with true.
func TestWordsOfNought(t *testing.T) {
	for _, w := range []uint32{0, math.MaxUint32} {
		words := slices.Repeat([]uint32{w}, most)
		p := holding(t, 20, words)
		refuses(t, p, words)
		drains(t, p, words)
	}
}

func TestAllIsTheAskersOwn(t *testing.T) {
	for _, by := range turns {
		for _, n := range []int{1, 2, 40, most} {
			p := holding(t, by, seq(1, n))
			a, b := p.All(), p.All()
			for i := range a {
				a[i] = 777
			}
			a = append(a[:0], 5, 6, 7)
			if !slices.Equal(b, seq(1, n)) || a[0] != 5 {
				t.Fatalf("another answer was changed: %v", b)
			}
			check(t, p, seq(1, n))
			p.Receive()
			p.Send(4000)
			p.Clear()
			p.SendAll(seq(5000, most)...)
			if !slices.Equal(b, seq(1, n)) {
				t.Fatalf("an answer was changed by the port: %v", b)
			}
		}
	}
}

func TestClear(t *testing.T) {
	for _, by := range turns {
		for n := range most + 1 {
			p := holding(t, by, seq(1, n))
			if got := p.Clear(); got != n {
				t.Fatalf("Clear, with %d waiting: %d", n, got)
			}
			check(t, p, nil)
			if got := p.Clear(); got != 0 {
				t.Fatalf("Clear, with none waiting: %d", got)
			}
			receivesNone(t, p)
			check(t, p, nil)
			if n := p.SendAll(seq(300, 100)...); n != most {
				t.Fatalf("SendAll of 100 words, behind Clear: %d, want %d", n, most)
			}
			refuses(t, p, seq(300, most))
			receives(t, p, 300)
			if !p.Send(9) {
				t.Fatal("Send, behind Clear: false")
			}
			drains(t, p, append(seq(301, most-1), 9))
		}
	}
}

func TestClearOfSomeThatWereReceived(t *testing.T) {
	p := holding(t, 10, seq(1, most))
	for w := range uint32(20) {
		receives(t, p, w+1)
	}
	if n := p.Clear(); n != most-20 {
		t.Errorf("Clear: %d, want %d", n, most-20)
	}
	check(t, p, nil)
	if !p.Send(3) {
		t.Error("Send, behind Clear: false")
	}
	drains(t, p, []uint32{3})
}

func TestPortsAreApart(t *testing.T) {
	a := holding(t, 5, seq(1, 10))
	b := holding(t, 60, seq(100, most))
	a.Send(50)
	check(t, b, seq(100, most))
	b.Receive()
	check(t, a, append(seq(1, 10), 50))
	a.Clear()
	check(t, b, seq(101, most-1))
	a.SendAll(seq(800, 3)...)
	b.Clear()
	check(t, a, seq(800, 3))
	b.Send(1)
	drains(t, a, seq(800, 3))
	drains(t, b, []uint32{1})
}

// nothing asks all that can be asked of a nil port, and sends to it.
func nothing(t *testing.T, p *Port) {
	t.Helper()
	if a, b := p.Len(), p.Room(); a != 0 || b != 0 {
		t.Fatalf("Len, Room of a nil port: %d %d, want 0 0", a, b)
	}
	if l := p.All(); len(l) != 0 {
		t.Fatalf("All of a nil port: %v, want none", l)
	}
	receivesNone(t, p)
	if n := p.Clear(); n != 0 {
		t.Fatalf("Clear of a nil port: %d, want 0", n)
	}
}

func TestNilPort(t *testing.T) {
	var p *Port
	nothing(t, p)
	for _, w := range []uint32{0, 1, math.MaxUint32} {
		if p.Send(w) {
			t.Fatalf("Send(%d) to a nil port: true", w)
		}
		nothing(t, p)
	}
	for _, n := range []int{0, 1, 2, most, most + 1, 200} {
		l := seq(1, n)
		if got := p.SendAll(l...); got != 0 {
			t.Fatalf("SendAll of %d words to a nil port: %d, want 0", n, got)
		}
		if !slices.Equal(l, seq(1, n)) {
			t.Fatalf("SendAll changed what it was handed: %v", l)
		}
		nothing(t, p)
	}
	if n := p.SendAll(); n != 0 {
		t.Fatalf("SendAll() to a nil port: %d, want 0", n)
	}
	check(t, &Port{}, nil)
}

// Promise 9.2.

// Words go round and round at every length, each of them once, in the order in which they were sent.
func TestRoundAndRound(t *testing.T) {
	for n := range most + 1 {
		var p Port
		sent, got := uint32(0), uint32(0)
		for p.Len() < n {
			p.Send(sent)
			sent++
		}
		for range 5*most + 3 {
			if n < most {
				if !p.Send(sent) {
					t.Fatalf("Send(%d), with %d waiting: false", sent, n)
				}
				sent++
				receives(t, &p, got)
			} else {
				receives(t, &p, got)
				if !p.Send(sent) {
					t.Fatalf("Send(%d), with one place left: false", sent)
				}
				sent++
			}
			got++
			check(t, &p, seq(got, n))
		}
		drains(t, &p, seq(got, n))
	}
}

// Words are sent many at a time, and received many at a time, at every two numbers.
func TestManyAtATime(t *testing.T) {
	for in := 1; in <= most+1; in++ {
		for out := 1; out <= most; out++ {
			var p Port
			sent, got := uint32(0), uint32(0)
			for range 12 {
				sent += uint32(p.SendAll(seq(sent, in)...))
				for range min(out, p.Len()) {
					receives(t, &p, got)
					got++
				}
				check(t, &p, seq(got, int(sent-got)))
			}
			drains(t, &p, seq(got, int(sent-got)))
		}
	}
}

// All calls in any order, against a list that grows at its end and shrinks at its beginning.
func TestManyCalls(t *testing.T) {
	for seed := range int64(200) {
		r := rand.New(rand.NewSource(seed))
		var p Port
		var want []uint32
		for range 500 {
			want = doSomething(t, r, &p, want)
			check(t, &p, want)
		}
		drains(t, &p, want)
	}
}

// doSomething makes one call, and tells which words wait then.
func doSomething(t *testing.T, r *rand.Rand, p *Port, want []uint32) []uint32 {
	t.Helper()
	switch c := r.Intn(100); {
	case c < 40:
		w := r.Uint32()
		room := len(want) < most
		if got := p.Send(w); got != room {
			t.Fatalf("Send(%d), with %d waiting: %v", w, len(want), got)
		}
		if room {
			want = append(want, w)
		}
	case c < 50:
		l := seq(r.Uint32(), r.Intn(30))
		n := min(len(l), most-len(want))
		if got := p.SendAll(l...); got != n {
			t.Fatalf("SendAll of %d words, with %d waiting: %d, want %d", len(l), len(want), got, n)
		}
		want = append(want, l[:n]...)
	case c < 99 && len(want) > 0:
		receives(t, p, want[0])
		want = want[1:]
	case c < 99:
		receivesNone(t, p)
	default:
		if got := p.Clear(); got != len(want) {
			t.Fatalf("Clear: %d, want %d", got, len(want))
		}
		want = nil
	}
	return want
}

// Of a word that was received nothing is kept.
func TestNothingIsKept(t *testing.T) {
	for _, by := range turns {
		p := holding(t, by, seq(1, most))
		drains(t, p, seq(1, most))
		if p.words != [most]uint32{} {
			t.Fatalf("kept: %v", p.words)
		}
		p = holding(t, by, seq(1, most))
		p.Clear()
		if p.words != [most]uint32{} {
			t.Fatalf("kept behind Clear: %v", p.words)
		}
	}
}
