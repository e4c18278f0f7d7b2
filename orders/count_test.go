package orders_test

import (
	"testing"

	"dunnage/api"
	"dunnage/orders"
)

// P5.2: the examples of the chapter.
func TestCountExamples(t *testing.T) {
	c, e := orders.Take(api.Count{Many: 2}, 8, 3, 7)
	want(t, "Take", c, e, api.Count{Many: 3}, api.OK)
	c, e = orders.Take(api.Count{Many: 2}, 8, 3, 8)
	want(t, "Take", c, e, api.Count{Window: 1, Many: 1}, api.OK)
	c, e = orders.Take(api.Count{Many: 3}, 8, 3, 7)
	want(t, "Take", c, e, api.Count{}, api.ErrQuota)
	n, e := orders.Remaining(api.Count{Many: 3}, 8, 3, 7)
	want(t, "Remaining", n, e, 0, api.OK)
	n, e = orders.Remaining(api.Count{Many: 3}, 8, 3, 8)
	want(t, "Remaining", n, e, 3, api.OK)
	wantErrno(t, "CheckCount of 4", orders.CheckCount(api.Count{Many: 4}, 8, 3), api.ErrBad)
	wantErrno(t, "CheckCount for a window of 0", orders.CheckCount(api.Count{}, 0, 3), api.ErrArg)
	wantErrno(t, "CheckCount for a window of 65", orders.CheckCount(api.Count{}, 65, 3), api.ErrArg)
}

// The third submission of a window with a quota of 2 is refused, and accepted in the next one.
func TestQuotaOfTheDocument(t *testing.T) {
	c := api.Count{}
	for _, x := range []struct {
		now  uint64
		many int
		e    api.Errno
	}{{0, 1, api.OK}, {7, 2, api.OK}, {7, 0, api.ErrQuota}, {8, 1, api.OK}} {
		after, e := orders.Take(c, 8, 2, x.now)
		want(t, "Take", after.Many, e, x.many, x.e)
		if e == api.OK {
			c = after
		}
	}
}

// checkCountFunctions compares the three functions with the chapter's definitions.
func checkCountFunctions(t *testing.T, c api.Count, window, quota int, now uint64) {
	t.Helper()
	if e := orders.CheckCount(c, window, quota); e != specCount(c, window, quota) {
		t.Errorf("CheckCount of %v, %d, %d: %d", c, window, quota, e)
	}
	after, e := orders.Take(c, window, quota, now)
	wanted, wantE := specTake(c, window, quota, now)
	if after != wanted || e != wantE {
		t.Errorf("Take of %v, %d, %d, %d: %v, %d, want %v, %d", c, window, quota, now, after, e, wanted, wantE)
	}
	left, e := orders.Remaining(c, window, quota, now)
	wantLeft, wantE := specRemaining(c, window, quota, now)
	if left != wantLeft || e != wantE {
		t.Errorf("Remaining of %v, %d, %d, %d: %d, %d, want %d, %d", c, window, quota, now, left, e, wantLeft, wantE)
	}
}

// P5.2: small numbers of all arguments, the limits and numbers beyond them.
func TestCounts(t *testing.T) {
	windows := append([]int{-1, 0, 1, 2, 8, 63, 64, 65}, hugeNumbers...)
	quotas := append([]int{-1, 0, 1, 3, 15, 16, 17}, hugeNumbers...)
	counts := append([]int{-1, 0, 1, 2, 3, 4, 15, 16, 17}, hugeNumbers...)
	numbers := append([]uint64{0, 1, 2, api.MaxTick / 64, api.MaxTick / 63, api.MaxTick / 8, api.MaxTick - 1, api.MaxTick}, lateTicks...)
	for _, window := range windows {
		for _, quota := range quotas {
			for _, many := range counts {
				for _, number := range numbers {
					for _, now := range []uint64{0, 7, 8, 64, api.MaxTick - 1, api.MaxTick, api.MaxTick + 1, 1<<64 - 1} {
						checkCountFunctions(t, api.Count{Window: number, Many: many}, window, quota, now)
					}
				}
			}
		}
	}
}

// P5.2: each length of a window, with each tick near the limits of one.
func TestWindows(t *testing.T) {
	for window := 1; window <= 64; window++ {
		for number := range uint64(4) {
			for now := range uint64(3*window + 2) {
				checkCountFunctions(t, api.Count{Window: number, Many: 2}, window, 2, now)
				checkCountFunctions(t, api.Count{Window: number, Many: 1}, window, 2, now)
			}
		}
	}
}

// P5.2, R1: CheckCount's errors come first, ErrArg before ErrBad, and a late tick before ErrQuota.
func TestOrderOfErrorsOfCounts(t *testing.T) {
	bad := api.Count{Window: api.MaxTick + 1, Many: -1}
	for _, x := range []struct {
		c             api.Count
		window, quota int
		want          api.Errno
	}{{bad, 0, 3, api.ErrArg}, {bad, 8, 17, api.ErrArg}, {bad, 8, 3, api.ErrBad}, {api.Count{Window: 1<<62 + 1}, 8, 3, api.ErrBad}, {api.Count{Window: api.MaxTick, Many: 3}, 1, 3, api.ErrArg}} {
		c, e := orders.Take(x.c, x.window, x.quota, api.MaxTick+1)
		want(t, "Take", c, e, api.Count{}, x.want)
		n, e := orders.Remaining(x.c, x.window, x.quota, api.MaxTick+1)
		want(t, "Remaining", n, e, 0, x.want)
	}
	c, e := orders.Take(api.Count{Window: api.MaxTick, Many: 3}, 1, 3, api.MaxTick)
	want(t, "Take in the last window", c, e, api.Count{}, api.ErrQuota)
}

// P5.7: in a window, as many submissions are accepted as remain at first.
func TestTakeUntilTheQuota(t *testing.T) {
	for _, first := range []uint64{0, 5, 1000, api.MaxTick - 70} {
		for _, window := range []int{1, 2, 7, 64} {
			for quota := 1; quota <= 16; quota++ {
				number := first / uint64(window)
				for many := range quota + 1 {
					for _, c := range []api.Count{{Window: number, Many: many}, {Window: number + 1, Many: many}, {Window: max(number, 1) - 1, Many: many}} {
						checkUntilTheQuota(t, c, window, quota, first)
					}
				}
			}
		}
	}
}

// checkUntilTheQuota takes submissions at ticks of a window until there is an error.
func checkUntilTheQuota(t *testing.T, c api.Count, window, quota int, now uint64) {
	t.Helper()
	number := now / uint64(window)
	last := number*uint64(window) + uint64(window) - 1
	left, e := orders.Remaining(c, window, quota, now)
	if c.Window != number {
		want(t, "Remaining in another window", left, e, quota, api.OK)
	} else {
		want(t, "Remaining", left, e, quota-c.Many, api.OK)
	}
	for ; left > 0; left-- {
		n, e := orders.Remaining(c, window, quota, now)
		want(t, "Remaining", n, e, left, api.OK)
		c, e = orders.Take(c, window, quota, now)
		want(t, "Take", c, e, api.Count{Window: number, Many: quota - left + 1}, api.OK)
		now = min(now+1, last)
	}
	for _, tick := range []uint64{number * uint64(window), now, last} {
		bad, e := orders.Take(c, window, quota, tick)
		want(t, "Take after the last one", bad, e, api.Count{}, api.ErrQuota)
	}
	n, e := orders.Remaining(c, window, quota, last+1)
	want(t, "Remaining in the next window", n, e, quota, api.OK)
	if number > 0 {
		n, e = orders.Remaining(c, window, quota, number*uint64(window)-1)
		want(t, "Remaining in an earlier window", n, e, quota, api.OK)
	}
}
