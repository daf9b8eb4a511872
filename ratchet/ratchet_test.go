package ratchet_test

import (
	"math"
	"math/rand"
	"slices"
	"testing"

	"weighbridge/ratchet"
)

// most is the greatest time.
const most = math.MaxUint64

// times are some at all edges.
func times() []uint64 {
	return []uint64{0, 1, 2, 5, 999999999, 1000000000, 1<<32 - 1, 1 << 32, 1<<63 - 1, 1 << 63, 1<<63 + 1, most - 1, most}
}

// lists tells all lists of so many times out of a few.
func lists(n int) [][]uint64 {
	if n == 0 {
		return [][]uint64{nil}
	}
	var out [][]uint64
	for _, l := range lists(n - 1) {
		for _, t := range []uint64{0, 1, 3, 1 << 63, most} {
			out = append(out, append(slices.Clone(l), t))
		}
	}
	return out
}

// drawn tells a list of times; those of some are near each other, so that many are equal.
func drawn(draw *rand.Rand) []uint64 {
	l := make([]uint64, draw.Intn(40))
	for i := range l {
		l[i] = draw.Uint64() >> draw.Intn(64)
		if draw.Intn(2) == 0 {
			l[i] %= 10
		}
	}
	return l
}

// all tells the lists that the calls are held to: all short ones of a few times, and many drawn ones.
func all() [][]uint64 {
	var out [][]uint64
	for n := range 6 {
		out = append(out, lists(n)...)
	}
	draw := rand.New(rand.NewSource(251))
	for range 5000 {
		out = append(out, drawn(draw))
	}
	return out
}

// greatest tells the greatest time up to each one, each time looked up anew.
func greatest(l []uint64) []uint64 {
	var out []uint64
	for i := range l {
		out = append(out, slices.Max(l[:i+1]))
	}
	return out
}

// P25.1

func TestStepOfExamples(t *testing.T) {
	cases := []struct {
		last    uint64
		seen    bool
		t       uint64
		now     uint64
		elapsed uint64
	}{
		{5, true, 9, 9, 4}, {5, true, 6, 6, 1}, {5, true, 5, 5, 0}, {5, true, 4, 5, 0}, {5, true, 0, 5, 0}, {0, true, 0, 0, 0}, {0, true, 5, 5, 5},
		{5, false, 9, 9, 0}, {5, false, 5, 5, 0}, {5, false, 4, 4, 0}, {5, false, 0, 0, 0}, {0, false, most, most, 0}, {most, false, 0, 0, 0},
		{0, true, most, most, most}, {most, true, 0, most, 0}, {most - 1, true, most, most, 1}, {most, true, most - 1, most, 0}, {1, true, 1 << 63, 1 << 63, 1<<63 - 1},
	}
	for _, c := range cases {
		if now, elapsed := ratchet.Step(c.last, c.seen, c.t); now != c.now || elapsed != c.elapsed {
			t.Errorf("Step(%d, %v, %d) = %d, %d, not %d, %d", c.last, c.seen, c.t, now, elapsed, c.now, c.elapsed)
		}
	}
}

func TestStep(t *testing.T) {
	for _, last := range times() {
		for _, at := range times() {
			if now, elapsed := ratchet.Step(last, false, at); now != at || elapsed != 0 {
				t.Errorf("Step(%d, false, %d) = %d, %d", last, at, now, elapsed)
			}
			now, elapsed := ratchet.Step(last, true, at)
			if want := max(last, at); now != want || elapsed != want-last {
				t.Errorf("Step(%d, true, %d) = %d, %d", last, at, now, elapsed)
			}
		}
	}
}

// P25.2

func TestRun(t *testing.T) {
	if got := ratchet.Run([]uint64{5, 3, 9, 9, 20, 1}); !slices.Equal(got, []uint64{5, 5, 9, 9, 20, 20}) {
		t.Errorf("Run of the example = %d", got)
	}
	for _, l := range all() {
		if got, want := ratchet.Run(l), greatest(l); !slices.Equal(got, want) {
			t.Fatalf("Run(%d) = %d, not %d", l, got, want)
		}
	}
}

// P25.3

func TestBack(t *testing.T) {
	if got := ratchet.Back([]uint64{5, 3, 9, 9, 20, 1}); !slices.Equal(got, []int{1, 5}) {
		t.Errorf("Back of the example = %d", got)
	}
	for _, l := range all() {
		var want []int
		for i, most := range greatest(l) {
			if l[i] < most {
				want = append(want, i)
			}
		}
		if got := ratchet.Back(l); !slices.Equal(got, want) {
			t.Fatalf("Back(%d) = %d, not %d", l, got, want)
		}
	}
}

// P25.4

func TestLongestOfExamples(t *testing.T) {
	cases := []struct {
		l    []uint64
		want uint64
		at   int
	}{
		{[]uint64{5, 3, 9, 9, 20, 1}, 11, 4}, {nil, 0, -1}, {[]uint64{}, 0, -1}, {[]uint64{0}, 0, -1}, {[]uint64{most}, 0, -1},
		{[]uint64{5, 5}, 0, 1}, {[]uint64{9, 3}, 0, 1}, {[]uint64{9, 3, 1}, 0, 1}, {[]uint64{most, most, most}, 0, 1}, {[]uint64{3, 9}, 6, 1},
		{[]uint64{100, 101}, 1, 1}, {[]uint64{1, 2, 3}, 1, 1}, {[]uint64{1, 1, 2, 3}, 1, 2}, {[]uint64{1, 4, 2, 7}, 3, 1}, {[]uint64{1, 3, 0, 7}, 4, 3},
		{[]uint64{0, most}, most, 1}, {[]uint64{0, 1, most}, most - 1, 2}, {[]uint64{0, 1 << 63, most}, 1 << 63, 1},
	}
	for _, c := range cases {
		if got, at := ratchet.Longest(c.l); got != c.want || at != c.at {
			t.Errorf("Longest(%d) = %d, %d, not %d, %d", c.l, got, at, c.want, c.at)
		}
	}
}

func TestLongest(t *testing.T) {
	for _, l := range all() {
		var gaps []uint64
		up := greatest(l)
		for i := 1; i < len(up); i++ {
			gaps = append(gaps, up[i]-up[i-1])
		}
		want, wantAt := uint64(0), -1
		if len(gaps) > 0 {
			want = slices.Max(gaps)
			wantAt = slices.Index(gaps, want) + 1
		}
		if got, at := ratchet.Longest(l); got != want || at != wantAt {
			t.Fatalf("Longest(%d) = %d, %d, not %d, %d", l, got, at, want, wantAt)
		}
	}
}

// P25.5

// Whatever is told as the last time while none was seen, steps come to the greatest time, and what went by to all of the time from the first one on.
func TestStepsComeToTheGreatest(t *testing.T) {
	for _, l := range all() {
		for _, last := range []uint64{0, 7, most} {
			var sum uint64
			for i, at := range l {
				var elapsed uint64
				last, elapsed = ratchet.Step(last, i > 0, at)
				sum += elapsed
				if want := slices.Max(l[:i+1]); last != want || sum != want-l[0] {
					t.Fatalf("steps of %d come to %d after %d", l[:i+1], last, sum)
				}
			}
		}
	}
}

// P3 of the general rules: arguments stay as they are, results share nothing, and only what is within the length counts.

func TestArgumentsStay(t *testing.T) {
	l := []uint64{5, 3, 9, 9, 20, 1, 30, 2}
	before := slices.Clone(l)
	ratchet.Run(l[:6])
	ratchet.Back(l[:6])
	ratchet.Longest(l[:6])
	if !slices.Equal(l, before) {
		t.Errorf("the argument became %d", l)
	}
}

func TestResultsAreNewMemory(t *testing.T) {
	// Of times that never go back, the greatest ones are the times themselves.
	l := []uint64{1, 2, 3}
	first, second := ratchet.Run(l), ratchet.Run(l)
	for i := range first[:cap(first)] {
		first[:cap(first)][i] = 99
	}
	if want := []uint64{1, 2, 3}; !slices.Equal(l, want) || !slices.Equal(second, want) || !slices.Equal(ratchet.Run(l), want) {
		t.Errorf("the times are %d, the other result %d", l, second)
	}
	back, again := ratchet.Back([]uint64{5, 3, 4}), ratchet.Back([]uint64{5, 3, 4})
	for i := range back[:cap(back)] {
		back[:cap(back)][i] = 99
	}
	if want := []int{1, 2}; !slices.Equal(again, want) || !slices.Equal(ratchet.Back([]uint64{5, 3, 4}), want) {
		t.Errorf("the other result of Back is %d", again)
	}
}

func TestOnlyTheLengthCounts(t *testing.T) {
	l := []uint64{5, 3, 9, 1, 8000}
	if got := ratchet.Run(l[:2]); !slices.Equal(got, []uint64{5, 5}) {
		t.Errorf("Run = %d", got)
	}
	if got := ratchet.Back(l[:3]); !slices.Equal(got, []int{1}) {
		t.Errorf("Back = %d", got)
	}
	if got, at := ratchet.Longest(l[:4]); got != 4 || at != 2 {
		t.Errorf("Longest = %d, %d", got, at)
	}
	if got, at := ratchet.Longest(l[:1]); got != 0 || at != -1 {
		t.Errorf("Longest of one = %d, %d", got, at)
	}
}

func TestNilIsEmpty(t *testing.T) {
	for _, l := range [][]uint64{nil, {}, make([]uint64, 0, 5)} {
		if up, back := ratchet.Run(l), ratchet.Back(l); len(up) != 0 || len(back) != 0 {
			t.Errorf("Run = %d, Back = %d", up, back)
		}
		if got, at := ratchet.Longest(l); got != 0 || at != -1 {
			t.Errorf("Longest = %d, %d", got, at)
		}
	}
}

// P5 of the general rules: a call answers the same whatever was called ahead of it.
func TestNothingIsKept(t *testing.T) {
	for range 3 {
		if now, elapsed := ratchet.Step(5, true, 9); now != 9 || elapsed != 4 {
			t.Errorf("Step = %d, %d", now, elapsed)
		}
		if now, elapsed := ratchet.Step(0, false, 2); now != 2 || elapsed != 0 {
			t.Errorf("Step of the first time = %d, %d", now, elapsed)
		}
		if got := ratchet.Run([]uint64{4, 3}); !slices.Equal(got, []uint64{4, 4}) {
			t.Errorf("Run = %d", got)
		}
		if got := ratchet.Back([]uint64{4, 3}); !slices.Equal(got, []int{1}) {
			t.Errorf("Back = %d", got)
		}
		if got, at := ratchet.Longest([]uint64{1, 3}); got != 2 || at != 1 {
			t.Errorf("Longest = %d, %d", got, at)
		}
	}
}
