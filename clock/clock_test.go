package clock_test

import (
	"math"
	"math/big"
	"math/rand"
	"slices"
	"strconv"
	"testing"

	"distaff/api"
	"distaff/clock"
	"distaff/span"
)

// greatest is the greatest time, by the chapter's words.
const greatest = 1 << 62

// someNumbers are numbers at and beside the edges of spans and of int64.
func someNumbers() []int64 {
	var l []int64
	for _, n := range []int64{0, 7, 1000000, 1 << 32, 1 << 61, greatest, math.MaxInt64 - 1, math.MinInt64 + 1} {
		l = append(l, n-1, n, n+1)
		if n > 1<<20 {
			l = append(l, -n)
		}
	}
	return l
}

// someMillis are milliseconds that have spans, and some that have none.
func someMillis() []float64 {
	return []float64{0, math.Copysign(0, -1), math.SmallestNonzeroFloat64, 0.0000001, 0.0000009, 0.000001, 0.0000019, 0.5, 1, 1.5, 10, 1 << 33, 1e12, 4611686018427.387904, 1e13, math.MaxFloat64, math.Inf(1),
		math.NaN(), math.Inf(-1), -math.MaxFloat64, -1, -0.0000001, -math.SmallestNonzeroFloat64}
}

// at is a clock whose time is n.
func at(t *testing.T, n int64) *clock.Clock {
	t.Helper()
	c := new(clock.Clock)
	if e := c.Add(n); e != api.OK || c.Now() != n {
		t.Fatalf("a clock at %d: %d, %d", n, e, c.Now())
	}
	return c
}

// model is a clock by the chapter's words: its time has no end, and its laps are all kept.
type model struct {
	now  *big.Int
	laps []int64
}

// goOn lets n go by, in numbers that do not go round.
func (m *model) goOn(n int64) {
	m.now = new(big.Int).Add(m.now, big.NewInt(n))
	if m.now.Cmp(big.NewInt(greatest)) > 0 {
		m.now = big.NewInt(greatest)
	}
}

// millis adds the spans of milliseconds up to the first one that has none.
func (m *model) millis(l []float64) (int, api.Errno) {
	for i, f := range l {
		n, e := span.Nanos(f)
		if e != api.OK {
			return i, api.ErrSpan
		}
		m.goOn(n)
	}
	return len(l), api.OK
}

// since is how much of the model's time is gone since t.
func (m *model) since(t int64) *big.Int {
	gone := new(big.Int).Set(m.now)
	if t > 0 {
		gone.Sub(gone, big.NewInt(t))
	}
	if gone.Sign() < 0 {
		return new(big.Int)
	}
	return gone
}

// mark keeps all laps; those that are told are the last ones.
func (m *model) mark() int {
	m.laps = append(m.laps, m.now.Int64())
	return min(len(m.laps), 64)
}

// told are the laps that are not forgotten.
func (m *model) told() []int64 { return m.laps[max(0, len(m.laps)-64):] }

// twin is the same model, apart from this one.
func (m *model) twin() *model { return &model{m.now, slices.Clone(m.laps)} }

// text is the model's time: of its digits the last six stand behind the point.
func (m *model) text() string {
	s := m.now.String()
	for len(s) < 7 {
		s = "0" + s
	}
	return s[:len(s)-6] + "." + s[len(s)-6:]
}

// hold holds all that a clock tells against its model.
func hold(t *testing.T, what string, c *clock.Clock, m *model) {
	t.Helper()
	if now := c.Now(); now != m.now.Int64() {
		t.Fatalf("%s: the time is %d, not %d", what, now, m.now)
	}
	if full := c.Full(); full != (m.now.Int64() == greatest) {
		t.Fatalf("%s: Full is %t at %d", what, full, m.now)
	}
	if s := c.Text(); s != m.text() {
		t.Fatalf("%s: the text is %q, not %q", what, s, m.text())
	}
	if l := c.Laps(); !slices.Equal(l, m.told()) {
		t.Fatalf("%s: the laps are %v, not %v", what, l, m.told())
	}
}

// P4.1, P4.2, P4.3
func TestAZeroClockIsOneAtFirst(t *testing.T) {
	var c clock.Clock
	for i, x := range []*clock.Clock{&c, new(clock.Clock), {}, c.Copy()} {
		if x.Now() != 0 || x.Full() || x.Text() != "0.000000" || len(x.Laps()) != 0 || x.Since(0) != 0 || !x.Due(0, 0) || x.Due(0, 1) {
			t.Errorf("%d: %d, %t, %q, %v", i, x.Now(), x.Full(), x.Text(), x.Laps())
		}
	}
	if clock.MaxLaps != 64 || span.Max != greatest {
		t.Errorf("MaxLaps %d, span.Max %d", clock.MaxLaps, span.Max)
	}
}

// P4.1, P4.2, P4.3
func TestANilClock(t *testing.T) {
	var c *clock.Clock
	for range 2 {
		for _, n := range someNumbers() {
			if e := c.Add(n); e != api.ErrNil {
				t.Errorf("Add(%d): %d", n, e)
			}
			if since := c.Since(n); since != 0 {
				t.Errorf("Since(%d): %d", n, since)
			}
			for _, d := range someNumbers() {
				if c.Due(n, d) {
					t.Errorf("Due(%d, %d)", n, d)
				}
			}
		}
		for _, f := range someMillis() {
			if n, e := c.Millis(f); n != 0 || e != api.ErrNil {
				t.Errorf("Millis(%g): %d, %d", f, n, e)
			}
		}
		for _, l := range [][]float64{nil, {}, {0, 0}, {1, math.NaN()}} {
			if n, e := c.Millis(l...); n != 0 || e != api.ErrNil {
				t.Errorf("Millis(%v): %d, %d", l, n, e)
			}
		}
		if c.Now() != 0 || c.Full() || c.Mark() != 0 || len(c.Laps()) != 0 || c.Text() != "" || c.Copy() != nil {
			t.Errorf("%d, %t, %d, %v, %q, %v", c.Now(), c.Full(), c.Mark(), c.Laps(), c.Text(), c.Copy())
		}
	}
}

// P4.1
func TestAddOfNamedNumbers(t *testing.T) {
	for _, x := range []struct {
		name    string
		from, n int64
		e       api.Errno
		now     int64
	}{
		{"0 at first", 0, 0, api.OK, 0},
		{"1 at first", 0, 1, api.OK, 1},
		{"0 later on", 9, 0, api.OK, 9},
		{"some later on", 9, 33, api.OK, 42},
		{"-1", 9, -1, api.ErrArg, 9},
		{"-1 at first", 0, -1, api.ErrArg, 0},
		{"as much below 0 as the time", 9, -9, api.ErrArg, 9},
		{"the least one", 9, math.MinInt64, api.ErrArg, 9},
		{"the least one, of a time that is full", greatest, math.MinInt64, api.ErrArg, greatest},
		{"one less than span.Max", 0, greatest - 1, api.OK, greatest - 1},
		{"span.Max", 0, greatest, api.OK, greatest},
		{"one more than span.Max", 0, greatest + 1, api.OK, greatest},
		{"the greatest one", 0, math.MaxInt64, api.OK, greatest},
		{"just below span.Max", 5, greatest - 6, api.OK, greatest - 1},
		{"up to span.Max", 5, greatest - 5, api.OK, greatest},
		{"just past span.Max", 5, greatest - 4, api.OK, greatest},
		{"twice half of it", greatest / 2, greatest / 2, api.OK, greatest},
		{"a sum of 2^63 less 1", greatest - 1, greatest, api.OK, greatest},
		{"a sum of 2^63", greatest, greatest, api.OK, greatest},
		{"a sum that int64 does not hold", greatest, math.MaxInt64, api.OK, greatest},
		{"0 of a time that is full", greatest, 0, api.OK, greatest},
		{"1 of a time that is full", greatest, 1, api.OK, greatest},
		{"-1 of a time that is full", greatest, -1, api.ErrArg, greatest},
		{"one more from the last but one", greatest - 1, 1, api.OK, greatest},
		{"two more from the last but one", greatest - 1, 2, api.OK, greatest},
	} {
		c := at(t, x.from)
		if e := c.Add(x.n); e != x.e || c.Now() != x.now {
			t.Errorf("%s: %d, %d; want %d, %d", x.name, e, c.Now(), x.e, x.now)
		}
	}
}

// P4.1
func TestMillisOfNamedLists(t *testing.T) {
	nan, inf, nought := math.NaN(), math.Inf(1), math.Copysign(0, -1)
	for _, x := range []struct {
		name  string
		from  int64
		l     []float64
		added int
		e     api.Errno
		now   int64
	}{
		{"nil", 7, nil, 0, api.OK, 7},
		{"none", 7, []float64{}, 0, api.OK, 7},
		{"an example", 0, []float64{1.5, nought, 2}, 3, api.OK, 3500000},
		{"another example", 0, []float64{1, nan, 2}, 1, api.ErrSpan, 1000000},
		{"noughts", 7, []float64{0, nought, 0}, 3, api.OK, 7},
		{"one", 7, []float64{1}, 1, api.OK, 1000007},
		{"the same twice", 0, []float64{10, 10}, 2, api.OK, 20000000},
		{"a nanosecond", 0, []float64{0.000001}, 1, api.OK, 1},
		{"what is behind the point is left out of each one", 0, []float64{0.0000006, 0.0000006, 0.0000019, 0.0000019}, 4, api.OK, 2},
		{"the least ones", 3, []float64{math.SmallestNonzeroFloat64, 0.0000001}, 2, api.OK, 3},
		{"NaN alone", 7, []float64{nan}, 0, api.ErrSpan, 7},
		{"NaN behind good ones", 0, []float64{1, 2, nan}, 2, api.ErrSpan, 3000000},
		{"good ones behind NaN", 0, []float64{nan, 1, 2}, 0, api.ErrSpan, 0},
		{"two bad ones, good ones between", 0, []float64{1, nan, 2, -1, 4}, 1, api.ErrSpan, 1000000},
		{"bad ones one behind the other", 0, []float64{1, 2, 4, -1, nan, -1}, 3, api.ErrSpan, 7000000},
		{"noughts ahead of a bad one", 5, []float64{0, nought, -1, 9}, 2, api.ErrSpan, 5},
		{"a millisecond below 0", 5, []float64{-1}, 0, api.ErrSpan, 5},
		{"a good one, and as much below 0", 0, []float64{1, -1, 1}, 1, api.ErrSpan, 1000000},
		{"the least float below 0", 5, []float64{1, -math.SmallestNonzeroFloat64}, 1, api.ErrSpan, 1000005},
		{"less than a nanosecond below 0", 5, []float64{1, -0.0000001}, 1, api.ErrSpan, 1000005},
		{"-Inf", 5, []float64{2, math.Inf(-1)}, 1, api.ErrSpan, 2000005},
		{"+Inf", 5, []float64{inf}, 1, api.OK, greatest},
		{"+Inf, and some more", 5, []float64{inf, 5, inf}, 3, api.OK, greatest},
		{"+Inf, and a bad one", 5, []float64{inf, nan, 5}, 1, api.ErrSpan, greatest},
		{"a bad one ahead of +Inf", 5, []float64{nan, inf}, 0, api.ErrSpan, 5},
		{"+Inf, and -Inf", 5, []float64{inf, math.Inf(-1)}, 1, api.ErrSpan, greatest},
		{"the greatest float", 5, []float64{math.MaxFloat64, math.MaxFloat64}, 2, api.OK, greatest},
		{"too great a one", 5, []float64{1e13}, 1, api.OK, greatest},
		{"span.Max", 0, []float64{4611686018427.387904}, 1, api.OK, greatest},
		{"several, up past span.Max", 0, []float64{3e12, 3e12, 3e12, 3e12}, 4, api.OK, greatest},
		{"a bad one past span.Max", 0, []float64{3e12, 3e12, 3e12, -1, 3e12}, 3, api.ErrSpan, greatest},
		{"some, of a time that is full", greatest, []float64{1, 2, 0}, 3, api.OK, greatest},
		{"a bad one, of a time that is full", greatest, []float64{1, -2, 0}, 1, api.ErrSpan, greatest},
		{"one too many", greatest - 999999, []float64{1}, 1, api.OK, greatest},
		{"just up to it", greatest - 1000000, []float64{1}, 1, api.OK, greatest},
		{"just below it", greatest - 1000001, []float64{1}, 1, api.OK, greatest - 1},
	} {
		c := at(t, x.from)
		if added, e := c.Millis(x.l...); added != x.added || e != x.e || c.Now() != x.now {
			t.Errorf("%s: %d, %d, %d; want %d, %d, %d", x.name, added, e, c.Now(), x.added, x.e, x.now)
		}
	}
}

// P4.1
func TestMillisOfMany(t *testing.T) {
	l := slices.Repeat([]float64{0.001}, 100000)
	c := new(clock.Clock)
	if added, e := c.Millis(l...); added != 100000 || e != api.OK || c.Now() != 100000000 {
		t.Errorf("%d, %d, %d", added, e, c.Now())
	}
	l[99999] = -1
	if added, e := c.Millis(l...); added != 99999 || e != api.ErrSpan || c.Now() != 199999000 {
		t.Errorf("%d, %d, %d", added, e, c.Now())
	}
}

// P4.1
func TestTheExamples(t *testing.T) {
	var c clock.Clock
	if e := c.Add(-1); e != api.ErrArg || c.Now() != 0 {
		t.Errorf("%d, %d", e, c.Now())
	}
	if e := c.Add(1 << 62); e != api.OK {
		t.Errorf("%d", e)
	}
	if e := c.Add(9); e != api.OK || c.Now() != 1<<62 || !c.Full() {
		t.Errorf("%d, %d, %t", e, c.Now(), c.Full())
	}
	var d clock.Clock
	if added, e := d.Millis(1.5, math.Copysign(0, -1), 2); added != 3 || e != api.OK || d.Now() != 3500000 || d.Text() != "3.500000" {
		t.Errorf("%d, %d, %d, %q", added, e, d.Now(), d.Text())
	}
}

// P4.2
func TestSinceOfNamedTimes(t *testing.T) {
	for _, x := range []struct {
		name      string
		now, from int64
		want      int64
	}{
		{"at first, since 0", 0, 0, 0},
		{"at first, since -1", 0, -1, 0},
		{"at first, since 1", 0, 1, 0},
		{"at first, since the least", 0, math.MinInt64, 0},
		{"at first, since the greatest", 0, math.MaxInt64, 0},
		{"since 0", 1000, 0, 1000},
		{"since 1", 1000, 1, 999},
		{"since the last but one", 1000, 999, 1},
		{"since now", 1000, 1000, 0},
		{"since the next one", 1000, 1001, 0},
		{"since much later", 1000, 1 << 62, 0},
		{"since the greatest", 1000, math.MaxInt64, 0},
		{"since -1", 1000, -1, 1000},
		{"since as much below 0", 1000, -1000, 1000},
		{"since the least", 1000, math.MinInt64, 1000},
		{"of a full one, since 0", greatest, 0, greatest},
		{"of a full one, since -1", greatest, -1, greatest},
		{"of a full one, since the least", greatest, math.MinInt64, greatest},
		{"of a full one, since -2^62", greatest, -greatest, greatest},
		{"of a full one, since 1", greatest, 1, greatest - 1},
		{"of a full one, since now", greatest, greatest, 0},
		{"of a full one, since later", greatest, greatest + 1, 0},
		{"of a full one, since the greatest", greatest, math.MaxInt64, 0},
	} {
		if since := at(t, x.now).Since(x.from); since != x.want {
			t.Errorf("%s: %d; want %d", x.name, since, x.want)
		}
	}
}

// P4.2
func TestDueOfNamedSpans(t *testing.T) {
	for _, x := range []struct {
		name         string
		now, from, d int64
		want         bool
	}{
		{"just as much", 1000, 0, 1000, true},
		{"one more", 1000, 0, 1001, false},
		{"one less", 1000, 0, 999, true},
		{"of a part", 1000, 400, 600, true},
		{"of a part, one more", 1000, 400, 601, false},
		{"since below 0, as much as since 0", 1000, -5, 1000, true},
		{"since below 0, no more than since 0", 1000, -5, 1001, false},
		{"since the least", 1000, math.MinInt64, 1000, true},
		{"since the least, one more", 1000, math.MinInt64, 1001, false},
		{"0 since now", 1000, 1000, 0, true},
		{"1 since now", 1000, 1000, 1, false},
		{"0 since what is ahead of the clock", 1000, 2000, 0, true},
		{"1 since what is ahead of the clock", 1000, 2000, 1, false},
		{"-1 since what is ahead of the clock", 1000, 2000, -1, true},
		{"-1000 since what is ahead of the clock by more", 1000, 3000, -1000, true},
		{"-1 since the greatest", 1000, math.MaxInt64, -1, true},
		{"-1", 1000, 0, -1, true},
		{"the least", 1000, 0, math.MinInt64, true},
		{"the least, at first", 0, 0, math.MinInt64, true},
		{"0, at first", 0, 0, 0, true},
		{"1, at first", 0, 0, 1, false},
		{"the greatest", 1000, 0, math.MaxInt64, false},
		{"the greatest, of a full one", greatest, 0, math.MaxInt64, false},
		{"the greatest since the least, of a full one", greatest, math.MinInt64, math.MaxInt64, false},
		{"span.Max, of a full one", greatest, 0, greatest, true},
		{"span.Max since 1, of a full one", greatest, 1, greatest, false},
		{"span.Max and one, of a full one", greatest, 0, greatest + 1, false},
	} {
		if due := at(t, x.now).Due(x.from, x.d); due != x.want {
			t.Errorf("%s: %t", x.name, due)
		}
	}
}

// P4.2
func TestSinceAndDueByAllNumbers(t *testing.T) {
	for _, now := range []int64{0, 1, 6, 7, 1000000, 1 << 61, greatest - 1, greatest} {
		c, m := at(t, now), &model{now: big.NewInt(now)}
		for _, from := range someNumbers() {
			want := m.since(from)
			if since := c.Since(from); since != want.Int64() {
				t.Fatalf("at %d, since %d: %d; want %d", now, from, since, want)
			}
			for _, d := range append(someNumbers(), want.Int64()-1, want.Int64(), want.Int64()+1) {
				if due := c.Due(from, d); due != (want.Cmp(big.NewInt(d)) >= 0) {
					t.Fatalf("at %d, since %d, %d: %t", now, from, d, due)
				}
			}
		}
	}
}

// P4.2
func TestFull(t *testing.T) {
	for _, x := range []struct {
		now  int64
		want bool
	}{{0, false}, {1, false}, {1 << 61, false}, {greatest - 1, false}, {greatest, true}} {
		if full := at(t, x.now).Full(); full != x.want {
			t.Errorf("at %d: %t", x.now, full)
		}
	}
	past := new(clock.Clock)
	past.Add(math.MaxInt64)
	if !past.Full() {
		t.Errorf("past it: %d", past.Now())
	}
	c := at(t, greatest-2)
	for i, want := range []bool{false, true, true, true} {
		c.Add(1)
		if c.Full() != want {
			t.Errorf("%d: %d, %t", i, c.Now(), c.Full())
		}
	}
}

// P4.3
func TestLapsUpToMaxLapsAndPastIt(t *testing.T) {
	c, m := new(clock.Clock), &model{now: new(big.Int)}
	for i := range 3*clock.MaxLaps + 5 {
		// Rising by more and more, so that each lap is another one; the first lap is at 0.
		if n, want := c.Mark(), m.mark(); n != want || n != min(i+1, 64) {
			t.Fatalf("lap %d: %d; want %d", i, n, want)
		}
		hold(t, "lap "+strconv.Itoa(i), c, m)
		c.Add(int64(i + 1))
		m.goOn(int64(i + 1))
		hold(t, "behind lap "+strconv.Itoa(i), c, m)
	}
	last := c.Laps()
	if len(last) != 64 || last[0] != 133*134/2 || last[63] != 196*197/2 {
		t.Errorf("%v", last)
	}
}

// P4.3
func TestLapsOfTheSameTimeAreAllLaps(t *testing.T) {
	c := at(t, 5)
	for i := range 70 {
		if n := c.Mark(); n != min(i+1, 64) {
			t.Errorf("%d: %d", i, n)
		}
	}
	if l := c.Laps(); !slices.Equal(l, slices.Repeat([]int64{5}, 64)) {
		t.Errorf("%v", l)
	}
	c.Add(math.MaxInt64)
	for range 3 {
		if n := c.Mark(); n != 64 {
			t.Errorf("%d", n)
		}
	}
	if l := c.Laps(); !slices.Equal(l, append(slices.Repeat([]int64{5}, 61), greatest, greatest, greatest)) {
		t.Errorf("%v", l)
	}
}

// P4.3
func TestTextOfNamedTimes(t *testing.T) {
	for _, x := range []struct {
		now  int64
		want string
	}{
		{0, "0.000000"}, {1, "0.000001"}, {999999, "0.999999"}, {1000000, "1.000000"}, {1500000, "1.500000"}, {10000001, "10.000001"}, {greatest - 1, "4611686018427.387903"}, {greatest, "4611686018427.387904"},
	} {
		if s := at(t, x.now).Text(); s != x.want {
			t.Errorf("at %d: %q; want %q", x.now, s, x.want)
		}
	}
}

// P4.3
func TestACopyThatIsPlayedOn(t *testing.T) {
	for _, laps := range []int{0, 1, 2, 63, 64, 65, 100} {
		c, m := new(clock.Clock), &model{now: new(big.Int)}
		for i := range laps {
			c.Add(int64(i))
			m.goOn(int64(i))
			c.Mark()
			m.mark()
		}
		name := strconv.Itoa(laps) + " laps"
		d, n := c.Copy(), m.twin()
		hold(t, name+", the copy", d, n)
		for i := range 70 {
			d.Millis(1, -1)
			n.goOn(1000000)
			if told, want := d.Mark(), n.mark(); told != want {
				t.Fatalf("%s, the copy's lap %d: %d; want %d", name, i, told, want)
			}
			hold(t, name+", the copy, played on", d, n)
			hold(t, name+", behind its copy", c, m)
		}
		for i := range 70 {
			c.Add(3)
			m.goOn(3)
			if told, want := c.Mark(), m.mark(); told != want {
				t.Fatalf("%s, lap %d behind the copy's: %d; want %d", name, i, told, want)
			}
			hold(t, name+", played on", c, m)
			hold(t, name+", the copy left behind", d, n)
		}
	}
}

// P4.3
func TestACopyOfACopyIsApartFromBoth(t *testing.T) {
	c := at(t, 9)
	c.Mark()
	d := c.Copy()
	e := d.Copy()
	if c == d || d == e || c == e {
		t.Error("the same clock")
	}
	c.Add(greatest)
	d.Add(1)
	d.Mark()
	if e.Now() != 9 || e.Full() || !slices.Equal(e.Laps(), []int64{9}) || d.Now() != 10 || d.Full() || !slices.Equal(d.Laps(), []int64{9, 10}) || !slices.Equal(c.Laps(), []int64{9}) {
		t.Errorf("%d %v, %d %v, %v", e.Now(), e.Laps(), d.Now(), d.Laps(), c.Laps())
	}
}

// bits are floats' bits, by which NaN is what it was.
func bits(l []float64) []uint64 {
	var out []uint64
	for _, f := range l {
		out = append(out, math.Float64bits(f))
	}
	return out
}

// P4.4
func TestWhatIsHandedInIsOnlyRead(t *testing.T) {
	all := append(someMillis(), 1, 2, math.NaN(), 3)
	kept := bits(all)
	c := new(clock.Clock)
	for from := range all {
		for to := from; to <= len(all); to++ {
			c.Millis(all[from:to]...)
			(*clock.Clock)(nil).Millis(all[from:to]...)
		}
	}
	if !slices.Equal(bits(all), kept) {
		t.Errorf("%v", all)
	}
}

// P4.4
func TestWhatIsHandedInIsNotKept(t *testing.T) {
	c := new(clock.Clock)
	l := []float64{1, 2, 3}
	c.Millis(l...)
	l[0], l[1], l[2] = 100, 200, 300
	c.Mark()
	if c.Now() != 6000000 || !slices.Equal(c.Laps(), []int64{6000000}) {
		t.Errorf("%d, %v", c.Now(), c.Laps())
	}
}

// spoil overwrites an answer, and what lies behind its length.
func spoil(l []int64) {
	l = l[:cap(l)]
	for i := range l {
		l[i] = -77
	}
}

// P4.4
func TestLapsAreNewMemory(t *testing.T) {
	for _, laps := range []int{0, 1, 3, 63, 64, 65, 130} {
		c, m := new(clock.Clock), &model{now: new(big.Int)}
		for range laps {
			c.Add(2)
			m.goOn(2)
			c.Mark()
			m.mark()
		}
		before, first, second, twin := slices.Clone(m.told()), c.Laps(), c.Laps(), c.Copy()
		spoil(first)
		_ = append(first[:len(first)/2], 88, 88)
		if !slices.Equal(second, before) {
			t.Fatalf("%d laps, another answer: %v", laps, second)
		}
		hold(t, strconv.Itoa(laps)+" laps, one answer spoilt", c, m)
		hold(t, strconv.Itoa(laps)+" laps, the copy", twin, m)
		for range 3 {
			c.Add(5)
			m.goOn(5)
			c.Mark()
			m.mark()
		}
		hold(t, strconv.Itoa(laps)+" laps, played on", c, m)
		if !slices.Equal(second, before) {
			t.Fatalf("%d laps, what was answered ahead: %v", laps, second)
		}
	}
}

// P4.5
func TestAPlayOfAllCalls(t *testing.T) {
	source := rand.New(rand.NewSource(1))
	numbers, millis := someNumbers(), someMillis()
	for play := range 300 {
		c, m := new(clock.Clock), &model{now: new(big.Int)}
		for step := range 200 {
			before := c.Now()
			what := "play " + strconv.Itoa(play) + ", step " + strconv.Itoa(step)
			switch source.Intn(5) {
			case 0:
				n := int64(source.Intn(1000)) - 100
				// Rarely, as the greatest numbers soon make it full.
				if source.Intn(60) == 0 {
					n = numbers[source.Intn(len(numbers))]
				}
				want := api.OK
				if n < 0 {
					want = api.ErrArg
				} else {
					m.goOn(n)
				}
				if e := c.Add(n); e != want {
					t.Fatalf("%s: Add(%d): %d", what, n, e)
				}
			case 1:
				l := make([]float64, source.Intn(5))
				for i := range l {
					l[i] = source.Float64()*20 - 1
					if source.Intn(60) == 0 {
						l[i] = millis[source.Intn(len(millis))]
					}
				}
				want, wantE := m.millis(l)
				if added, e := c.Millis(l...); added != want || e != wantE {
					t.Fatalf("%s: Millis(%v): %d, %d; want %d, %d", what, l, added, e, want, wantE)
				}
			case 2:
				if n, want := c.Mark(), m.mark(); n != want {
					t.Fatalf("%s: Mark: %d; want %d", what, n, want)
				}
			case 3:
				c = c.Copy()
			case 4:
				from := source.Int63n(m.now.Int64() + 9)
				if since := c.Since(from); since != m.since(from).Int64() {
					t.Fatalf("%s: Since(%d): %d", what, from, since)
				}
			}
			hold(t, what, c, m)
			if c.Now() < before || !slices.IsSorted(c.Laps()) {
				t.Fatalf("%s: from %d to %d, laps %v", what, before, c.Now(), c.Laps())
			}
		}
	}
}

// P4.5
func TestTheOrderInWhichSpansAreAddedCountsForNothing(t *testing.T) {
	source := rand.New(rand.NewSource(2))
	for _, l := range [][]int64{{}, {0, 0}, {5, 7, 1000000}, {greatest, 1, 2}, {greatest - 10, 4, 3, 2}, {greatest - 10, 4, 3, 3}, {greatest - 10, 5, 5, 5}, {greatest / 2, greatest / 2, greatest / 2}, {math.MaxInt64, 3, math.MaxInt64}} {
		want := span.Sum(l...)
		mixed := slices.Clone(l)
		for range 50 {
			source.Shuffle(len(mixed), func(i, j int) { mixed[i], mixed[j] = mixed[j], mixed[i] })
			c := new(clock.Clock)
			for _, n := range mixed {
				c.Add(n)
			}
			if c.Now() != want {
				t.Fatalf("%v: %d; want %d", mixed, c.Now(), want)
			}
		}
	}
}

// P4.5
func TestTheOrderOfMillisecondsAndNanosecondsCountsForNothing(t *testing.T) {
	source := rand.New(rand.NewSource(3))
	for range 300 {
		top := 100.0
		if source.Intn(2) == 0 {
			top = 4e12
		}
		l, spans := make([]float64, source.Intn(8)), []int64{}
		for i := range l {
			l[i] = source.Float64() * top
			n, _ := span.Nanos(l[i])
			spans = append(spans, n)
		}
		want := span.Sum(spans...)
		for range 5 {
			one, several := new(clock.Clock), new(clock.Clock)
			for _, i := range source.Perm(len(l)) {
				if source.Intn(2) == 0 {
					one.Millis(l[i])
				} else {
					one.Add(spans[i])
				}
			}
			source.Shuffle(len(l), func(i, j int) { l[i], l[j], spans[i], spans[j] = l[j], l[i], spans[j], spans[i] })
			several.Millis(l...)
			if one.Now() != want || several.Now() != want {
				t.Fatalf("%v: %d, %d; want %d", l, one.Now(), several.Now(), want)
			}
		}
	}
}

// P4.5
func TestWhatIsRefusedChangesNothing(t *testing.T) {
	for _, now := range []int64{0, 5, greatest - 1, greatest} {
		c, m := at(t, now), &model{now: big.NewInt(now)}
		for range 66 {
			c.Mark()
			m.mark()
		}
		for _, n := range someNumbers() {
			if n >= 0 {
				continue
			}
			if e := c.Add(n); e != api.ErrArg {
				t.Errorf("Add(%d): %d", n, e)
			}
			hold(t, "Add of a number below 0", c, m)
		}
		for _, f := range []float64{math.NaN(), math.Inf(-1), -1, -math.SmallestNonzeroFloat64} {
			if added, e := c.Millis(f, 1, 2); added != 0 || e != api.ErrSpan {
				t.Errorf("Millis(%g ..): %d, %d", f, added, e)
			}
			hold(t, "Millis of what has no span", c, m)
		}
	}
}

// P4.5
func TestWhatOnlyAsksChangesNothing(t *testing.T) {
	c, m := at(t, 12), &model{now: big.NewInt(12)}
	c.Mark()
	m.mark()
	for _, n := range someNumbers() {
		c.Since(n)
		c.Due(n, -n)
		c.Copy().Mark()
		c.Laps()
		c.Text()
		c.Full()
		hold(t, "asked", c, m)
	}
}

// P4.5
func TestOnceFullItStaysSo(t *testing.T) {
	c := at(t, greatest)
	for _, n := range someNumbers() {
		c.Add(n)
		c.Mark()
		if !c.Full() || c.Now() != greatest {
			t.Fatalf("Add(%d): %d", n, c.Now())
		}
	}
	for _, f := range someMillis() {
		c.Millis(f)
		if !c.Full() || !c.Copy().Full() || c.Now() != greatest {
			t.Fatalf("Millis(%g): %d", f, c.Now())
		}
	}
}

// P4.5
func TestWhatWasDueIsDueLater(t *testing.T) {
	type asked struct{ from, d int64 }
	source := rand.New(rand.NewSource(4))
	for range 20 {
		c, due := new(clock.Clock), map[asked]bool{}
		for range 60 {
			c.Add(source.Int63n(1 << source.Intn(60)))
			now := c.Now()
			for _, from := range append(someNumbers(), now-1, now, now+1, now/2) {
				for _, d := range []int64{math.MinInt64, -1, 0, 1, 2, now / 2, now, now + 1, greatest, math.MaxInt64} {
					was := due[asked{from, d}]
					is := c.Due(from, d)
					if was && !is {
						t.Fatalf("since %d, %d: not due any more at %d", from, d, now)
					}
					due[asked{from, d}] = is
				}
			}
		}
	}
}
