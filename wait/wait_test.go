package wait_test

import (
	"math"
	"math/big"
	"testing"

	"garland/wait"
)

// begins are times, those beside which differences go round among them.
var begins = []int{
	0, 1, 2, 3, 7, 10, 1000, 1<<31 - 1, 1 << 31, 1<<32 - 1, 1 << 32, 1 << 40, 1 << 62,
	-1, -2, -3, -4, -7, -8, -1 << 31, -1 << 32, -1 << 40, -1 << 62,
	math.MaxInt, math.MaxInt - 1, math.MaxInt - 2, math.MaxInt - 3, math.MaxInt - 4, math.MaxInt - 7, math.MaxInt - 8,
	math.MinInt, math.MinInt + 1, math.MinInt + 3, math.MinInt + 4, math.MinInt + 7,
}

// noTries are numbers of tries below 1.
var noTries = []int{0, -1, -2, -3, -4, -255, -256, -1 << 31, -1 << 32, -1<<32 + 1, -1 << 40, math.MinInt, math.MinInt + 1, math.MinInt + 2, math.MinInt + 3}

// manyTries are numbers of tries that are at least 3.
var manyTries = []int{3, 4, 5, 6, 7, 8, 255, 256, 257, 258, 65537, 1<<31 + 1, 1 << 32, 1<<32 + 1, 1<<32 + 2, 1 << 40, math.MaxInt - 1, math.MaxInt}

// rounded is a number as an int, by 2^64 round.
func rounded(n *big.Int) int {
	whole := new(big.Int).Lsh(big.NewInt(1), 64)
	n = new(big.Int).Mod(n, whole)
	if n.Bit(63) == 1 {
		n.Sub(n, whole)
	}
	return int(n.Int64())
}

// moved is a time so many ticks on.
func moved(at, by int) int {
	return rounded(new(big.Int).Add(big.NewInt(int64(at)), big.NewInt(int64(by))))
}

// less is one number less another.
func less(a, b int) int { return rounded(new(big.Int).Sub(big.NewInt(int64(a)), big.NewInt(int64(b)))) }

// behind is the wait behind a try, by the document's words.
func behind(tries int) int {
	if tries < 1 {
		return 0
	}
	return map[int]int{1: 1, 2: 2}[tries] + 4*min(max(tries-2, 0), 1)
}

// asked holds what the calls answer of a call.
func asked(t *testing.T, sent, tries, now int, due, over bool, left int) {
	t.Helper()
	if got := wait.Due(sent, tries, now); got != due {
		t.Fatalf("Due(%d, %d, %d) = %t", sent, tries, now, got)
	}
	if got := wait.Over(sent, tries, now); got != over {
		t.Fatalf("Over(%d, %d, %d) = %t", sent, tries, now, got)
	}
	if got := wait.Left(sent, tries, now); got != left {
		t.Fatalf("Left(%d, %d, %d) = %d; want %d", sent, tries, now, got, left)
	}
}

// P9.1.
func TestWait(t *testing.T) {
	for tries, want := range map[int]int{1: 1, 2: 2, 3: 4} {
		if n := wait.Wait(tries); n != want {
			t.Errorf("Wait(%d) = %d; want %d", tries, n, want)
		}
	}
	for _, tries := range noTries {
		if n := wait.Wait(tries); n != 0 {
			t.Errorf("Wait(%d) = %d; want 0", tries, n)
		}
	}
	for _, tries := range manyTries {
		if n := wait.Wait(tries); n != 4 {
			t.Errorf("Wait(%d) = %d; want 4", tries, n)
		}
	}
}

// P9.1, P9.2: written out.
func TestRows(t *testing.T) {
	for _, c := range []struct {
		sent, tries, now int
		due, over        bool
		left             int
	}{
		{10, 1, 10, false, false, 1}, {10, 1, 11, true, false, 0}, {10, 1, 12, true, false, 0}, {10, 1, 99, true, false, 0}, {10, 1, 9, false, false, 2}, {10, 1, -10, false, false, 21},
		{10, 2, 10, false, false, 2}, {10, 2, 11, false, false, 1}, {10, 2, 12, true, false, 0}, {10, 2, 13, true, false, 0}, {10, 2, 0, false, false, 12},
		{10, 3, 10, false, false, 4}, {10, 3, 12, false, false, 2}, {10, 3, 13, false, false, 1}, {10, 3, 14, false, true, 0}, {10, 3, 15, false, true, 0}, {10, 3, 8, false, false, 6},
		{10, 4, 13, false, false, 1}, {10, 4, 14, false, true, 0}, {10, 1 << 40, 13, false, false, 1}, {10, 1 << 40, 14, false, true, 0},
		{10, 0, 10, false, false, 0}, {10, 0, 14, false, false, 0}, {10, 0, 9, false, false, 1}, {10, -1, 99, false, false, 0}, {10, -3, 5, false, false, 5},
		{-2, 1, -2, false, false, 1}, {-2, 1, -1, true, false, 0}, {-2, 2, 0, true, false, 0}, {-2, 3, 1, false, false, 1}, {-2, 3, 2, false, true, 0},
		{math.MaxInt, 1, math.MaxInt, false, false, 1}, {math.MaxInt, 1, math.MinInt, true, false, 0},
		{math.MaxInt, 2, math.MinInt, false, false, 1}, {math.MaxInt, 2, math.MinInt + 1, true, false, 0},
		{math.MaxInt, 3, math.MinInt + 2, false, false, 1}, {math.MaxInt, 3, math.MinInt + 3, false, true, 0},
		{math.MinInt, 1, math.MaxInt, false, false, 2}, {math.MinInt, 3, math.MaxInt - 5, false, false, 10},
		{0, 1, math.MaxInt, true, false, 0}, {0, 2, math.MaxInt, true, false, 0}, {0, 3, math.MaxInt, false, true, 0},
		{-1, 1, math.MaxInt, false, false, 0}, {-1, 3, math.MaxInt, false, false, 0}, // the difference is below 0: all the way round
		{0, 1, math.MinInt, false, false, 0}, {0, 1, math.MinInt + 1, false, false, 0}, {0, 1, math.MinInt + 2, false, false, math.MaxInt},
		{0, 3, math.MinInt + 4, false, false, 0}, {0, 3, math.MinInt + 5, false, false, math.MaxInt}, {0, 0, math.MinInt, false, false, 0}, {0, 0, math.MinInt + 1, false, false, math.MaxInt},
	} {
		asked(t, c.sent, c.tries, c.now, c.due, c.over, c.left)
	}
}

// P9.1, P9.2: all times against each other, by numbers that do not go round but where the document says so.
func TestAll(t *testing.T) {
	var tries []int
	tries = append(append(append(tries, noTries...), manyTries...), 1, 2)
	for _, sent := range begins {
		var nows []int
		for by := -12; by <= 12; by++ {
			nows = append(nows, moved(sent, by))
		}
		for _, now := range append(nows, begins...) {
			for _, n := range tries {
				gone := less(now, sent)
				asked(t, sent, n, now, (n == 1 && gone >= 1) || (n == 2 && gone >= 2), n >= 3 && gone >= 4, max(0, less(behind(n), gone)))
			}
		}
	}
}

// P9.2.
func TestPlan(t *testing.T) {
	for begin, want := range map[int][4]int{
		10: {10, 11, 13, 17}, 0: {0, 1, 3, 7}, -5: {-5, -4, -2, 2}, -7: {-7, -6, -4, 0}, 1 << 40: {1 << 40, 1<<40 + 1, 1<<40 + 3, 1<<40 + 7},
		math.MinInt:     {math.MinInt, math.MinInt + 1, math.MinInt + 3, math.MinInt + 7},
		math.MaxInt:     {math.MaxInt, math.MinInt, math.MinInt + 2, math.MinInt + 6},
		math.MaxInt - 7: {math.MaxInt - 7, math.MaxInt - 6, math.MaxInt - 4, math.MaxInt},
		math.MaxInt - 6: {math.MaxInt - 6, math.MaxInt - 5, math.MaxInt - 3, math.MinInt},
	} {
		if plan := wait.Plan(begin); plan != want {
			t.Errorf("Plan(%d) = %v; want %v", begin, plan, want)
		}
	}
	for _, begin := range begins {
		if plan, want := wait.Plan(begin), [4]int{begin, moved(begin, 1), moved(begin, 3), moved(begin, 7)}; plan != want {
			t.Errorf("Plan(%d) = %v; want %v", begin, plan, want)
		}
	}
}

// told is when a call is tried that is first tried at begin, and asked at each tick, and when it is over; most so many ticks on.
func told(t *testing.T, begin, most int) []int {
	t.Helper()
	l, tries := []int{begin}, 1
	sent := begin
	for by := range most {
		now := moved(begin, by)
		due, over := wait.Due(sent, tries, now), wait.Over(sent, tries, now)
		switch {
		case due && over:
			t.Fatalf("begun at %d: due and over at %d", begin, now)
		case over:
			return append(l, now)
		case due:
			l, sent, tries = append(l, now), now, tries+1
		}
	}
	return l
}

// P9.3.
func TestAsPlanned(t *testing.T) {
	for _, begin := range begins {
		plan, l := wait.Plan(begin), told(t, begin, 50)
		if len(l) != 4 || [4]int(l) != plan || less(l[3], begin) != 7 {
			t.Fatalf("begun at %d: %v; planned %v", begin, l, plan)
		}
	}
	if l := told(t, 0, 7); len(l) != 3 {
		t.Errorf("ahead of the seventh tick: %v", l)
	}
}

// P9.3: not at one time, whatever is asked.
func TestNeverBoth(t *testing.T) {
	for _, sent := range begins {
		for _, now := range begins {
			for tries := -5; tries < 300; tries++ {
				if wait.Due(sent, tries, now) && wait.Over(sent, tries, now) {
					t.Fatalf("tried %d times, last at %d: due and over at %d", tries, sent, now)
				}
			}
		}
	}
}

// P9.1, P9.2: asked at its ticks, a call is due, or over, when there is nothing left to wait.
func TestLeftIsAwaited(t *testing.T) {
	for _, sent := range begins {
		for tries := 1; tries < 6; tries++ {
			for by := range 9 {
				now := moved(sent, by)
				left := wait.Left(sent, tries, now)
				if done := wait.Due(sent, tries, now) || wait.Over(sent, tries, now); done != (left == 0) {
					t.Fatalf("tried %d times, last at %d: at %d %d left, %t", tries, sent, now, left, done)
				}
				then := moved(now, left)
				if !wait.Due(sent, tries, then) && !wait.Over(sent, tries, then) {
					t.Fatalf("tried %d times, last at %d: at %d neither due nor over", tries, sent, then)
				}
			}
		}
	}
}

// R3, R4: what is told is told again, whatever was asked between, and is nobody else's.
func TestAnswersAreOwn(t *testing.T) {
	plan := wait.Plan(10)
	plan[0], plan[3] = 99, 99
	wait.Plan(-1)
	for _, tries := range manyTries {
		wait.Due(0, tries, 9)
		wait.Over(0, tries, 9)
		wait.Left(0, tries, 9)
	}
	if again := wait.Plan(10); again != [4]int{10, 11, 13, 17} {
		t.Errorf("told again: %v", again)
	}
	if a, b, c := wait.Wait(1), wait.Wait(2), wait.Wait(3); a != 1 || b != 2 || c != 4 {
		t.Errorf("the waits again: %d, %d, %d", a, b, c)
	}
}
