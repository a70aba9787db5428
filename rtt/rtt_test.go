package rtt_test

import (
	"math"
	"math/big"
	"math/rand"
	"testing"

	"longline/api"
	"longline/rtt"
)

const (
	most     = 65536
	maxBacks = 6
)

// asWorded is a meter as the document words it, in numbers of any size, of which the quotients are rounded down.
type asWorded struct {
	mean8, spread4 *big.Int
	backs          int
}

func down(v *big.Int, by int64) *big.Int {
	quotient, _ := new(big.Int).DivMod(v, big.NewInt(by), new(big.Int))
	return quotient
}

func (a *asWorded) measure(n int) {
	if a.mean8 == nil {
		a.mean8, a.spread4 = big.NewInt(8*int64(n)), big.NewInt(2*int64(n))
	} else {
		d := new(big.Int).Sub(big.NewInt(int64(n)), down(a.mean8, 8))
		more := new(big.Int).Sub(new(big.Int).Abs(d), down(a.spread4, 4))
		a.spread4 = new(big.Int).Add(a.spread4, more)
		a.mean8 = new(big.Int).Add(a.mean8, d)
	}
	a.backs = 0
}

func (a *asWorded) mean() int {
	if a.mean8 == nil {
		return 0
	}
	return int(down(a.mean8, 8).Int64())
}

func (a *asWorded) wait() int {
	wait := int64(4)
	if a.mean8 != nil {
		spread := a.spread4.Int64()
		if spread < 1 {
			spread = 1
		}
		wait = down(a.mean8, 8).Int64() + spread
	}
	for range a.backs {
		wait *= 2
	}
	if wait < 2 {
		wait = 2
	}
	if wait > 64 {
		wait = 64
	}
	return int(wait)
}

func mustMeasure(t *testing.T, m *rtt.Meter, n int) {
	t.Helper()
	if e := m.Measure(n); e != api.OK {
		t.Fatalf("Measure(%d): %v", n, e)
	}
}

func mustBack(t *testing.T, m *rtt.Meter) {
	t.Helper()
	if e := m.Back(); e != api.OK {
		t.Fatalf("Back: %v", e)
	}
}

func want(t *testing.T, m *rtt.Meter, wait, mean, backs int) {
	t.Helper()
	if m.Wait() != wait || m.Mean() != mean || m.Backs() != backs {
		t.Fatalf("Wait = %d, Mean = %d, Backs = %d, want %d, %d, %d", m.Wait(), m.Mean(), m.Backs(), wait, mean, backs)
	}
}

func wantAsWorded(t *testing.T, m *rtt.Meter, a *asWorded) {
	t.Helper()
	want(t, m, a.wait(), a.mean(), a.backs)
}

// P8.1: a new meter, which measured nothing, and is doubled all the same.
func TestNothingMeasured(t *testing.T) {
	m := rtt.New()
	if m == nil {
		t.Fatal("New is nil")
	}
	want(t, m, 4, 0, 0)
	for i, wait := range []int{8, 16, 32, 64, 64, 64, 64, 64, 64} {
		mustBack(t, m)
		want(t, m, wait, 0, min(i+1, maxBacks))
	}
	mustMeasure(t, m, 2)
	want(t, m, 6, 2, 0)
}

// P8.1: the first measure: the mean is it, and the wait three times it, within its bounds.
func TestFirstMeasure(t *testing.T) {
	for _, x := range []struct{ n, wait int }{
		{0, 2}, {1, 3}, {2, 6}, {3, 9}, {7, 21}, {8, 24}, {20, 60}, {21, 63}, {22, 64}, {63, 64}, {64, 64}, {65, 64}, {1000, 64}, {most - 1, 64}, {most, 64},
	} {
		m := rtt.New()
		mustMeasure(t, m, x.n)
		want(t, m, x.wait, x.n, 0)
	}
}

// Worked by hand: what is rounded, and where the mean falls.
func TestLaterMeasures(t *testing.T) {
	m := rtt.New()
	for _, x := range []struct{ n, wait, mean int }{
		{8, 24, 8},  // 8 times the mean is 64, the spread's number 16
		{16, 29, 9}, // d 8: 72, 16 + 8 - 4 = 20
		{0, 31, 7},  // d -9: 63, 20 + 9 - 5 = 24
		{7, 25, 7},  // d 0: 63, 24 - 6 = 18
		{8, 23, 8},  // d 1: 64, 18 + 1 - 4 = 15
		{8, 20, 8},  // d 0: 64, 15 - 3 = 12
		{9, 18, 8},  // d 1: 65, 12 + 1 - 3 = 10
		{0, 23, 7},  // d -8: 57, 10 + 8 - 2 = 16
		{6, 20, 7},  // d -1: 56, 16 + 1 - 4 = 13
	} {
		mustMeasure(t, m, x.n)
		want(t, m, x.wait, x.mean, 0)
	}
}

// P8.1: what is no number of ticks is told, and changes nothing, not even how often it was doubled.
func TestWrongTicks(t *testing.T) {
	wrong := []int{math.MinInt, math.MinInt32, -most, -8, -1, most + 1, 1 << 32, 1<<32 + 8, math.MaxInt32, math.MaxInt}
	for _, measures := range [][]int{nil, {8}, {8, 3, most, 0}} {
		m, a := rtt.New(), &asWorded{}
		for _, n := range measures {
			mustMeasure(t, m, n)
			a.measure(n)
		}
		for range 2 {
			for _, n := range wrong {
				if e := m.Measure(n); e != api.ErrArg {
					t.Fatalf("Measure(%d): %v", n, e)
				}
				wantAsWorded(t, m, a)
			}
			mustBack(t, m)
			a.backs++
		}
		mustMeasure(t, m, 5)
		a.measure(5)
		wantAsWorded(t, m, a)
	}
}

// P8.1: doubled 6 times at most, whatever was measured; a measure ends it.
func TestBacks(t *testing.T) {
	for _, x := range []struct {
		n     int
		waits []int
	}{
		// Of 0 the wait is 1, which is doubled, and only then held at 2.
		{0, []int{2, 2, 4, 8, 16, 32, 64, 64, 64}},
		{1, []int{3, 6, 12, 24, 48, 64, 64, 64, 64}},
		{8, []int{24, 48, 64, 64, 64, 64, 64, 64, 64}},
		{most, []int{64, 64, 64, 64, 64, 64, 64, 64, 64}},
	} {
		m := rtt.New()
		for range 3 {
			mustBack(t, m)
		}
		mustMeasure(t, m, x.n)
		for i, wait := range x.waits {
			want(t, m, wait, x.n, min(i, maxBacks))
			mustBack(t, m)
		}
		for range 100 {
			mustBack(t, m)
		}
		want(t, m, x.waits[len(x.waits)-1], x.n, maxBacks)
		mustMeasure(t, m, x.n)
		if m.Backs() != 0 {
			t.Fatalf("Backs = %d behind a measure", m.Backs())
		}
	}
}

// P8.1 and P8.2: any measures and doublings, held against the document's own wording.
func TestAnyMeasures(t *testing.T) {
	r := rand.New(rand.NewSource(1))
	bounds := []int{1, 2, 4, 10, 30, 100, 5000, most + 1}
	for range 400 {
		m, a := rtt.New(), &asWorded{}
		bound := bounds[r.Intn(len(bounds))]
		for range 200 {
			switch r.Intn(8) {
			case 0, 1, 2:
				was := m.Wait()
				mustBack(t, m)
				a.backs = min(a.backs+1, maxBacks)
				if m.Wait() < was {
					t.Fatalf("Back makes the wait %d of %d", m.Wait(), was)
				}
			case 3:
				bound = bounds[r.Intn(len(bounds))]
			default:
				n := r.Intn(bound)
				if r.Intn(20) == 0 {
					n = []int{0, most}[r.Intn(2)]
				}
				mustMeasure(t, m, n)
				a.measure(n)
			}
			wantAsWorded(t, m, a)
			if m.Wait() < 2 || m.Wait() > api.MaxRTO {
				t.Fatalf("Wait = %d", m.Wait())
			}
		}
	}
}

// What is asked changes nothing.
func TestAskedOften(t *testing.T) {
	m := rtt.New()
	mustMeasure(t, m, 5)
	mustBack(t, m)
	for range 100 {
		want(t, m, 30, 5, 1)
	}
	mustMeasure(t, m, 5)
	want(t, m, 13, 5, 0)
}

// P8.3: of the same measures alone the mean is that one, and the wait never rises, down to it and 3.
func TestSameMeasures(t *testing.T) {
	measures := []int{1000, 4096, most - 1, most}
	for n := range 200 {
		measures = append(measures, n)
	}
	for _, n := range measures {
		m := rtt.New()
		was := api.MaxRTO
		for range 100 {
			mustMeasure(t, m, n)
			if m.Mean() != n || m.Wait() > was {
				t.Fatalf("of %d alone: Mean = %d, Wait = %d behind %d", n, m.Mean(), m.Wait(), was)
			}
			was = m.Wait()
		}
		if was > min(max(2, n+3), api.MaxRTO) {
			t.Errorf("behind 100 measures of %d: Wait = %d", n, was)
		}
	}
}

// The greatest measures, one behind the other, and then none: no number gets too great, nor falls below 0.
func TestExtremes(t *testing.T) {
	m, a := rtt.New(), &asWorded{}
	for i := range 2000 {
		n := most
		if i%7 > 3 || i > 1000 {
			n = 0
		}
		mustMeasure(t, m, n)
		a.measure(n)
		wantAsWorded(t, m, a)
		if m.Mean() < 0 || m.Mean() > most {
			t.Fatalf("Mean = %d", m.Mean())
		}
	}
}

// P8.1: of nil, and of one that no call made.
func TestNoMeter(t *testing.T) {
	var none *rtt.Meter
	var zero rtt.Meter
	held := struct{ rtt.Meter }{}
	for i, m := range []*rtt.Meter{none, &zero, new(rtt.Meter), {}, &held.Meter} {
		for range 2 {
			for _, n := range []int{0, 8, most, -1, most + 1, math.MinInt, math.MaxInt} {
				if e := m.Measure(n); e != api.ErrNil {
					t.Errorf("%d: Measure(%d): %v", i, n, e)
				}
			}
			if e := m.Back(); e != api.ErrNil {
				t.Errorf("%d: Back: %v", i, e)
			}
			want(t, m, 0, 0, 0)
		}
	}
	if zero != (rtt.Meter{}) {
		t.Errorf("a Meter that no call made has changed")
	}
}

// Meters side by side have nothing in common.
func TestSideBySide(t *testing.T) {
	a, b := rtt.New(), rtt.New()
	mustMeasure(t, a, 9)
	mustBack(t, b)
	want(t, a, 27, 9, 0)
	want(t, b, 8, 0, 1)
	copied := *a
	mustMeasure(t, a, 0)
	want(t, &copied, 27, 9, 0)
}
