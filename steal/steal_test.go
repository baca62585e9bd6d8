package steal_test

import (
	"math"
	"math/rand"
	"slices"
	"strconv"
	"strings"
	"testing"

	"distaff/cell"
	"distaff/conf"
	"distaff/get"
	"distaff/put"
	"distaff/steal"
)

// round is where heads and tails go round.
const round = 1 << 32

// someRooms are all that a config may have.
var someRooms = []int{2, 4, 8, 16, 32, 64}

// ps is how many Ps the tests' configs have.
const ps = 3

// of is a config whose rings have room q.
func of(q int) conf.Config { return conf.Config{N: ps, Q: q, G: 5, M: ps + 1, T: 2} }

// wrong are configs that are not right.
var wrong = []conf.Config{{}, {N: 0, Q: 4, G: 5, M: 4, T: 2}, {N: 9, Q: 4, G: 5, M: 16, T: 2}, {N: 3, Q: 3, G: 5, M: 4, T: 2}, {N: 3, Q: 0, G: 5, M: 4, T: 2}, {N: 3, Q: 1, G: 5, M: 4, T: 2}, {N: 3, Q: 128, G: 5, M: 4, T: 2}, {N: 3, Q: -4, G: 5, M: 4, T: 2}, {N: 3, Q: 4, G: 0, M: 4, T: 2}, {N: 3, Q: 4, G: 5, M: 3, T: 2}, {N: 3, Q: 4, G: 5, M: 4, T: 1}, {N: 3, Q: 4, G: 5, M: 4, T: 2, S: -1}, {N: math.MaxInt, Q: math.MaxInt, G: math.MaxInt, M: math.MaxInt, T: math.MaxInt, S: math.MaxInt}}

// noPs are numbers of no P of the tests' configs.
var noPs = []int{math.MinInt, -round, -2, -1, ps, ps + 1, 8, round, math.MaxInt}

// heads are where rings of room q may begin: in whichever slot, and such as go round.
func heads(q int) []int64 {
	n := int64(q)
	return []int64{0, 1, n/2 - 1, n / 2, n - 1, n, 1 << 31, round - n - 1, round - n, round - n + 1, round - n/2, round - n/2 + 1, round - 2, round - 1}
}

// lengths are how many may be in a ring of room q: all of a small one, the edges of a great one.
func lengths(q int) []int {
	if q <= 8 {
		return upTo(0, q+1)
	}
	return []int{0, 1, 2, 3, 4, q/2 - 1, q / 2, q/2 + 1, q - 2, q - 1, q}
}

// tooLong are lengths above Q, up to the greatest one.
func tooLong(q int) []int64 {
	n := int64(q)
	return []int64{n + 1, n + n/2, 2 * n, 65536, 1<<31 - 1, 1 << 31, 1<<31 + 1, round - n, round - 2, round - 1}
}

// half is how many the older half of n numbers has.
func half(n int) int { return (n + 1) / 2 }

// upTo is n numbers from the first on, rising.
func upTo(first, n int) []int {
	l := make([]int, n)
	for i := range l {
		l[i] = first + i
	}
	return l
}

// mod is a remainder from 0 on.
func mod(n, by int64) int64 { return (n%by + by) % by }

// wordAt is the address of a ring's word, by chapter 5's words.
func wordAt(q, p int) int { return 4 + p*(6+q) }

// slotAt is that of a place's slot; places need not go round.
func slotAt(q, p int, place int64) int { return wordAt(q, p) + 6 + int(mod(place, int64(q))) }

// wordOf is a ring's word.
func wordOf(head, tail int64) uint64 { return uint64(mod(head, round))<<32 | uint64(mod(tail, round)) }

// ring is what a P's ring has in it, and where it begins.
type ring struct {
	p    int
	head int64
	l    []int
}

// lay lays a ring.
func (r ring) lay(m *cell.Mem, q int) {
	m.Store(wordAt(q, r.p), wordOf(r.head, r.head+int64(len(r.l))))
	for i, g := range r.l {
		m.Store(slotAt(q, r.p, r.head+int64(i)), uint64(g))
	}
}

// ringsOf is a memory with some rings. What stands in all other cells is theirs alone.
func ringsOf(q int, rings ...ring) *cell.Mem {
	m := cell.New(of(q).Cells())
	for a := range m.Len() {
		m.Store(a, uint64(7000+a))
	}
	for _, r := range rings {
		r.lay(m, q)
	}
	return m
}

// in is what is in a ring, beside the accesses.
func in(m *cell.Mem, q, p int) []int {
	cells := m.All()
	w := cells[wordAt(q, p)]
	var l []int
	for i := range mod(int64(w%round)-int64(w/round), round) {
		l = append(l, int(cells[slotAt(q, p, int64(w/round)+i)]))
	}
	return l
}

// take lets somebody else take the n oldest of a ring.
func take(m *cell.Mem, q, p, n int) []int {
	l := in(m, q, p)[:n]
	m.Add(wordAt(q, p), uint64(n)<<32)
	return l
}

// cut lets the owner cut the n youngest of a ring off.
func cut(m *cell.Mem, q, p, n int) []int {
	l := in(m, q, p)
	w := m.Load(wordAt(q, p))
	m.Store(wordAt(q, p), wordOf(int64(w/round), int64(w%round)-int64(n)))
	return l[len(l)-n:]
}

// push lets the owner put one into a ring that has room.
func push(m *cell.Mem, q, p, g int) {
	w := m.Load(wordAt(q, p))
	m.Store(slotAt(q, p, int64(w%round)), uint64(g))
	m.Store(wordAt(q, p), wordOf(int64(w/round), int64(w%round)+1))
}

// Accesses, told of the cells as they are ahead of them.
func loading(m *cell.Mem, a int) cell.Access {
	old := m.All()[a]
	return cell.Access{Kind: cell.Load, At: a, Old: old, New: old}
}

func storing(m *cell.Mem, a int, v uint64) cell.Access {
	return cell.Access{Kind: cell.Store, At: a, Old: m.All()[a], New: v}
}

func swapping(m *cell.Mem, a int, old, new uint64) cell.Access {
	stood := m.All()[a]
	if stood != old {
		new = stood
	}
	return cell.Access{Kind: cell.CAS, At: a, Old: stood, New: new}
}

// told is what a steal should tell. What it got is the first of its hands, behind its end.
type told struct {
	done        bool
	many        int
	hands, left []int
}

// nothing is what is told by one that is done, and has nothing.
var nothing = told{done: true}

// tells holds what a steal tells, without an access, against what it should.
func tells(t *testing.T, what string, x *steal.Steal, want told) {
	t.Helper()
	g, has := x.Got()
	oldest, some := 0, want.done && want.many > 0
	if some {
		oldest = want.hands[0]
	}
	if x.Done() != want.done || g != oldest || has != some || x.Many() != want.many || !slices.Equal(x.Hands(), want.hands) || !slices.Equal(x.Left(), want.left) {
		t.Fatalf("%s: done %t, got %d %t, many %d, hands %v, left %v; want %v", what, x.Done(), g, has, x.Many(), x.Hands(), x.Left(), want)
	}
}

// since are the accesses from a count on.
func since(m *cell.Mem, before uint64) []cell.Access {
	switch n := m.Ops() - before; n {
	case 0:
		return nil
	case 1:
		// The log is long, and this is asked often.
		last, _ := m.Last()
		return []cell.Access{last}
	default:
		log := m.Log()
		return log[len(log)-int(min(n, uint64(len(log)))):]
	}
}

// stepped does a step, and holds its answer, and its accesses, against what they should be. Nothing but accesses changes cells.
func stepped(t *testing.T, what string, x *steal.Steal, m *cell.Mem, done bool, want ...cell.Access) {
	t.Helper()
	before := m.Ops()
	if x.Step(m) != done {
		t.Fatalf("%s: the step answered %t", what, !done)
	}
	if got := since(m, before); !slices.Equal(got, want) {
		t.Fatalf("%s: accesses %v; want %v", what, got, want)
	}
}

// still holds that a steal is done, for good, and does no access any more.
func still(t *testing.T, what string, x *steal.Steal, want told) {
	t.Helper()
	want.done = true
	m := ringsOf(4, ring{0, 3, nil}, ring{1, 3, []int{1, 2}}, ring{2, 5, []int{3, 4, 5, 6}})
	for range 3 {
		tells(t, what, x, want)
		stepped(t, what, x, m, true)
		stepped(t, what, x, nil, true)
	}
	tells(t, what, x, want)
}

// run does steps up to a steal's end; how many.
func run(t *testing.T, x *steal.Steal, m *cell.Mem) int {
	t.Helper()
	for n := 1; n <= 1000; n++ {
		if x.Step(m) {
			return n
		}
	}
	t.Fatal("no end")
	return 0
}

// model is a steal by the chapter's table, and its lay by chapter 9's.
type model struct {
	q, p, v        int
	at             string
	w              uint64
	copied, gained []int
	// What the lay holds, what it saw at its last look, and how far it came.
	list []int
	seen uint64
	k, n int
}

func newSteal(q, p, v int) *model { return &model{q: q, p: p, v: v, at: "look"} }

func (x *model) done() bool { return x.at == "done" }

// told is what it tells.
func (x *model) told() told {
	y := told{done: x.done(), many: len(x.gained)}
	if y.many > 0 {
		y.hands = append([]int{x.gained[0]}, x.list...)
	}
	if y.done {
		y.left = x.list
	}
	return y
}

// length is a word's.
func length(w uint64) int64 { return mod(int64(w%round)-int64(w/round), round) }

// step is what a step does by the tables; it tells its access, but leaves the cells as they are.
func (x *model) step(m *cell.Mem) []cell.Access {
	word := wordAt(x.q, x.v)
	h, n := int64(x.w/round), int(length(x.w))
	switch x.at {
	case "look":
		a := loading(m, word)
		x.w, x.copied, x.at = a.New, nil, "copy"
		if n := length(x.w); n == 0 || n > int64(x.q) {
			x.at = "done"
		}
		return []cell.Access{a}
	case "copy":
		a := loading(m, slotAt(x.q, x.v, h+int64(len(x.copied))))
		x.copied = append(x.copied, int(a.New))
		if len(x.copied) == n-n/2 {
			x.at = "gain"
		}
		return []cell.Access{a}
	case "gain":
		a := swapping(m, word, x.w, wordOf(h+int64(n-n/2), int64(x.w%round)))
		x.at = "look"
		if a.Old == x.w {
			x.has()
		}
		return []cell.Access{a}
	case "done":
		return nil
	}
	return x.lay(m)
}

// has is what stands behind a gain.
func (x *model) has() {
	x.gained, x.at = x.copied, "lay: look"
	if len(x.gained) == 1 {
		x.at = "done"
	}
	for _, g := range x.gained[1:] {
		if g >= 0 {
			x.list = append(x.list, g)
		}
	}
}

// lay is a step of the lay.
func (x *model) lay(m *cell.Mem) []cell.Access {
	word := wordAt(x.q, x.p)
	h, t := int64(x.seen/round), int64(x.seen%round)
	switch x.at {
	case "lay: look":
		if len(x.list) == 0 {
			x.at = "done"
			return nil
		}
		a := loading(m, word)
		x.seen, x.k, x.at = a.New, 0, "lay: store"
		x.n = int(min(int64(len(x.list)), max(0, int64(x.q)-length(x.seen))))
		if x.n == 0 {
			x.at = "done"
		}
		return []cell.Access{a}
	case "lay: store":
		a := storing(m, slotAt(x.q, x.p, t+int64(x.k)), uint64(x.list[x.k]))
		x.k++
		if x.k == x.n {
			x.at = "lay: swing"
		}
		return []cell.Access{a}
	case "lay: swing":
		a := swapping(m, word, x.seen, wordOf(h, t+int64(x.n)))
		x.at = "lay: look"
		if a.Old == x.seen {
			x.list, x.at = x.list[x.n:], "done"
		}
		return []cell.Access{a}
	}
	return nil
}

// along does steps of a steal and of its model, until both are done, or so many were done; between any two steps something else is done.
func along(t *testing.T, what string, x *steal.Steal, y *model, m *cell.Mem, between func(), steps int) {
	t.Helper()
	tells(t, what+", at first", x, y.told())
	for i := range steps {
		at := what + ", step " + strconv.Itoa(i) + ", at " + y.at
		want := y.step(m)
		stepped(t, at, x, m, y.done(), want...)
		tells(t, at, x, y.told())
		if y.done() {
			still(t, at+", behind it", x, y.told())
			return
		}
		between()
	}
}

// none is done between two steps.
func none() {}

// name is what a test tells of a thief and its victim.
func name(q, p, v int, head int64, n int) string {
	return "room " + strconv.Itoa(q) + ", P " + strconv.Itoa(p) + " of P " + strconv.Itoa(v) + ", head " + strconv.FormatInt(head, 10) + ", length " + strconv.Itoa(n)
}

// each goes over rings of all rooms, and all pairs of Ps.
func each(try func(what string, q, p, v int, head int64, n int)) {
	for _, q := range someRooms {
		for pair := range ps * ps {
			p, v := pair/ps, pair%ps
			if p == v {
				continue
			}
			for _, head := range heads(q) {
				for _, n := range lengths(q) {
					try(name(q, p, v, head, n), q, p, v, head, n)
				}
			}
		}
	}
}

// P11.1, P11.2
func TestANilOne(t *testing.T) {
	var x *steal.Steal
	still(t, "a nil steal", x, nothing)
}

// P11.1, P11.2
func TestAZeroOne(t *testing.T) {
	var x steal.Steal
	still(t, "a zero steal", &x, nothing)
	still(t, "a new one", new(steal.Steal), nothing)
}

// P11.1, P11.2
func TestWhatMayNotBe(t *testing.T) {
	for _, c := range wrong {
		for p := -1; p <= ps; p++ {
			for v := -1; v <= ps; v++ {
				still(t, "by a config that is not right", steal.New(c, p, v), nothing)
			}
		}
	}
	for _, p := range noPs {
		for v := range ps {
			still(t, "a thief "+strconv.Itoa(p), steal.New(of(4), p, v), nothing)
			still(t, "a victim "+strconv.Itoa(p), steal.New(of(4), v, p), nothing)
		}
		for _, v := range noPs {
			still(t, "a thief "+strconv.Itoa(p)+" of "+strconv.Itoa(v), steal.New(of(4), p, v), nothing)
		}
	}
	for p := range ps {
		for v := range ps {
			x := steal.New(of(4), p, v)
			if p == v {
				still(t, "of itself", x, nothing)
			} else {
				tells(t, "of another one", x, told{})
			}
		}
	}
}

// P11.1, P11.2: at the edges of what a config may be. With one P there is nobody to steal of.
func TestTheLeastAndTheGreatestConfig(t *testing.T) {
	for p := -1; p <= 1; p++ {
		for v := -1; v <= 1; v++ {
			still(t, "one P", steal.New(conf.Config{N: 1, Q: 2, G: 1, M: 2, T: 2}, p, v), nothing)
		}
	}
	for _, c := range []conf.Config{{N: 2, Q: 2, G: 1, M: 3, T: 2}, {N: 8, Q: 64, G: 256, M: 16, T: 200, S: 1000}} {
		for p := -1; p <= c.N; p++ {
			for v := -1; v <= c.N; v++ {
				x := steal.New(c, p, v)
				if p == v || min(p, v) < 0 || max(p, v) == c.N {
					still(t, "no P", x, nothing)
					continue
				}
				m := cell.New(c.Cells())
				victim := wordAt(c.Q, v)
				ring{v, 1, []int{p + 5, v}}.lay(m, c.Q)
				stepped(t, "look", x, m, false, loading(m, victim))
				stepped(t, "copy", x, m, false, loading(m, slotAt(c.Q, v, 1)))
				stepped(t, "gain", x, m, true, swapping(m, victim, wordOf(1, 3), wordOf(2, 3)))
				still(t, "gain", x, told{many: 1, hands: []int{p + 5}})
			}
		}
	}
}

// P11.1, P11.2
func TestTheFirstExample(t *testing.T) {
	m := ringsOf(4, ring{0, 0, nil}, ring{1, 0, []int{5, 6, 7}})
	x := steal.New(of(4), 0, 1)
	tells(t, "at first", x, told{})
	stepped(t, "look", x, m, false, loading(m, 14))
	tells(t, "look", x, told{})
	stepped(t, "copy", x, m, false, loading(m, 20))
	tells(t, "copy", x, told{})
	stepped(t, "copy", x, m, false, loading(m, 21))
	tells(t, "copy", x, told{})
	stepped(t, "gain", x, m, false, swapping(m, 14, 3, 2<<32|3))
	tells(t, "gain", x, told{many: 2, hands: []int{5, 6}})
	stepped(t, "lay", x, m, false, loading(m, 4))
	tells(t, "lay", x, told{many: 2, hands: []int{5, 6}})
	stepped(t, "lay", x, m, false, storing(m, 10, 6))
	tells(t, "lay", x, told{many: 2, hands: []int{5, 6}})
	stepped(t, "lay", x, m, true, swapping(m, 4, 0, 1))
	still(t, "lay", x, told{many: 2, hands: []int{5}})
	if !slices.Equal(in(m, 4, 0), []int{6}) || !slices.Equal(in(m, 4, 1), []int{7}) {
		t.Errorf("%v, %v", in(m, 4, 0), in(m, 4, 1))
	}
}

// P11.1, P11.2
func TestTheSecondExample(t *testing.T) {
	m := ringsOf(4, ring{0, 0, nil}, ring{1, 0, []int{5, 6, 7}})
	x := steal.New(of(4), 0, 1)
	stepped(t, "look", x, m, false, loading(m, 14))
	take(m, 4, 1, 1)
	stepped(t, "copy", x, m, false, loading(m, 20))
	stepped(t, "copy", x, m, false, loading(m, 21))
	stepped(t, "gain", x, m, false, swapping(m, 14, 3, 0))
	tells(t, "gain", x, told{})
	stepped(t, "look", x, m, false, loading(m, 14))
	tells(t, "look", x, told{})
	stepped(t, "copy", x, m, false, loading(m, 21))
	tells(t, "copy", x, told{})
	stepped(t, "gain", x, m, true, swapping(m, 14, 1<<32|3, 2<<32|3))
	still(t, "gain", x, told{many: 1, hands: []int{6}})
	if len(in(m, 4, 0)) != 0 || !slices.Equal(in(m, 4, 1), []int{7}) {
		t.Errorf("%v, %v", in(m, 4, 0), in(m, 4, 1))
	}
}

// P11.1, P11.2: the document's fourth example of the whole.
func TestOfFiveThreeAreTaken(t *testing.T) {
	m := ringsOf(8, ring{0, 6, nil}, ring{1, 0, upTo(1, 5)})
	x := steal.New(of(8), 0, 1)
	run(t, x, m)
	still(t, "of five", x, told{many: 3, hands: []int{1}})
	if !slices.Equal(in(m, 8, 0), []int{2, 3}) || !slices.Equal(in(m, 8, 1), []int{4, 5}) {
		t.Errorf("%v, %v", in(m, 8, 0), in(m, 8, 1))
	}
}

// P11.1, P11.2
func TestAStealOfWhichNothingIsChangedBetween(t *testing.T) {
	each(func(what string, q, p, v int, head int64, n int) {
		k := half(n)
		was := upTo(50, n)
		// The thief's ring begins elsewhere.
		mine := head + int64(n) + 3
		m := ringsOf(q, ring{p, mine, nil}, ring{v, head, was})
		want := m.All()
		x := steal.New(of(q), p, v)
		along(t, what, x, newSteal(q, p, v), m, none, 100)
		if n == 0 {
			still(t, what, x, nothing)
		} else {
			still(t, what, x, told{many: k, hands: was[:1]})
			want[wordAt(q, v)] = wordOf(head+int64(k), head+int64(n))
			want[wordAt(q, p)] = wordOf(mine, mine+int64(k)-1)
			for i, g := range was[1:k] {
				want[slotAt(q, p, mine+int64(i))] = uint64(g)
			}
		}
		if !slices.Equal(m.All(), want) {
			t.Fatalf("%s: %v; want %v", what, m.All(), want)
		}
	})
}

// P11.1
func TestHowManyStepsAStealHas(t *testing.T) {
	each(func(what string, q, p, v int, head int64, n int) {
		want := 2*half(n) + 3
		switch half(n) {
		case 0:
			want = 1
		case 1:
			want = 3
		}
		m := ringsOf(q, ring{p, 0, nil}, ring{v, head, upTo(1, n)})
		if got := run(t, steal.New(of(q), p, v), m); got != want {
			t.Fatalf("%s: %d steps, not %d", what, got, want)
		}
	})
}

// P11.1, P11.2
func TestAnEmptyRing(t *testing.T) {
	for _, q := range someRooms {
		for _, head := range heads(q) {
			m := ringsOf(q, ring{0, 2, []int{1}}, ring{2, head, nil})
			x := steal.New(of(q), 0, 2)
			tells(t, "an empty ring, at first", x, told{})
			stepped(t, "an empty ring", x, m, true, loading(m, wordAt(q, 2)))
			still(t, "an empty ring", x, nothing)
		}
	}
}

// P11.1, P11.2
func TestARingWhoseLengthIsAboveQ(t *testing.T) {
	for _, q := range someRooms {
		for _, head := range heads(q) {
			for _, n := range tooLong(q) {
				what := name(q, 2, 1, head, int(n))
				m := ringsOf(q, ring{2, 0, nil})
				w := wordAt(q, 1)
				m.Store(w, wordOf(head, head+n))
				x := steal.New(of(q), 2, 1)
				stepped(t, what, x, m, true, loading(m, w))
				still(t, what, x, nothing)
			}
		}
	}
}

// P11.1, P11.2
func TestARingThatComesToBeTooLong(t *testing.T) {
	for _, q := range someRooms {
		for _, n := range append(tooLong(q), 0) {
			m := ringsOf(q, ring{0, 0, nil}, ring{1, 3, upTo(50, q)})
			w := wordAt(q, 1)
			x := steal.New(of(q), 0, 1)
			for range 1 + q/2 {
				x.Step(m)
			}
			m.Store(w, wordOf(3, 3+n))
			stepped(t, "gain", x, m, false, swapping(m, w, wordOf(3, 3+int64(q)), 0))
			tells(t, "gain", x, told{})
			stepped(t, "look", x, m, true, loading(m, w))
			still(t, "look", x, nothing)
		}
	}
}

// great are numbers of a cell, as ints.
var great = map[uint64]int{math.MaxUint64: -1, 1 << 63: math.MinInt, 1<<63 - 1: math.MaxInt, 1 << 32: 1 << 32, math.MaxUint32: math.MaxUint32}

// P11.2: a lay has no numbers below 0, by chapter 9.
func TestNumbersOfASlotGoRoundAsAnInt(t *testing.T) {
	for v, g := range great {
		for place := range 3 {
			m := ringsOf(8, ring{0, 1, nil}, ring{1, 7, upTo(50, 6)})
			m.Store(slotAt(8, 1, 7+int64(place)), v)
			x := steal.New(of(8), 0, 1)
			along(t, "a great number", x, newSteal(8, 0, 1), m, none, 20)
			gained := upTo(50, 3)
			gained[place] = g
			still(t, "a great number", x, told{many: 3, hands: gained[:1]})
			others := slices.DeleteFunc(gained[1:], func(g int) bool { return g < 0 })
			if !slices.Equal(in(m, 8, 0), others) || !slices.Equal(in(m, 8, 1), upTo(53, 3)) {
				t.Errorf("%d at %d: %v, %v", g, place, in(m, 8, 0), in(m, 8, 1))
			}
		}
	}
}

// P11.1, P11.2: a lay of none is done without an access, by chapter 9.
func TestOthersOfWhomNobodyIsLaid(t *testing.T) {
	m := ringsOf(8, ring{0, 1, nil}, ring{1, 7, []int{3, -1, math.MinInt, 4, 5, 6}})
	w := m.All()[wordAt(8, 1)]
	x := steal.New(of(8), 0, 1)
	for range 4 {
		x.Step(m)
	}
	stepped(t, "gain", x, m, false, swapping(m, wordAt(8, 1), w, w+3<<32))
	tells(t, "gain", x, told{many: 3, hands: []int{3}})
	stepped(t, "lay", x, m, true)
	still(t, "lay", x, told{many: 3, hands: []int{3}})
	if len(in(m, 8, 0)) != 0 {
		t.Errorf("%v", in(m, 8, 0))
	}
}

// P11.2
func TestANoughtIsNotNothing(t *testing.T) {
	m := ringsOf(4, ring{0, 0, nil}, ring{1, 5, []int{0, 0, 0, 7}})
	x := steal.New(of(4), 0, 1)
	run(t, x, m)
	if g, has := x.Got(); g != 0 || !has || !slices.Equal(x.Hands(), []int{0}) || !slices.Equal(in(m, 4, 0), []int{0}) {
		t.Errorf("%d, %t, %v, %v", g, has, x.Hands(), in(m, 4, 0))
	}
	still(t, "noughts", x, told{many: 2, hands: []int{0}})
	m = ringsOf(4, ring{0, 0, nil}, ring{1, 5, nil})
	y := steal.New(of(4), 0, 1)
	run(t, y, m)
	if g, has := y.Got(); g != 0 || has || len(y.Hands()) != 0 || y.Many() != 0 {
		t.Errorf("%d, %t, %v", g, has, y.Hands())
	}
}

// P11.2: what was loaded is nobody's until it is gained; from then on it is held, but got only behind the end.
func TestWhatIsHeldAtEachStep(t *testing.T) {
	for _, q := range someRooms[1:] {
		k := q / 2
		m := ringsOf(q, ring{0, 2, nil}, ring{1, 3, upTo(50, q)})
		x := steal.New(of(q), 0, 1)
		for i := range 1 + k {
			x.Step(m)
			tells(t, "ahead of the gain", x, told{})
			if !slices.Equal(in(m, q, 1), upTo(50, q)) {
				t.Fatalf("behind step %d: %v", i, in(m, q, 1))
			}
		}
		for i := range 1 + k {
			if x.Step(m) {
				t.Fatalf("done at step %d behind the copies", i)
			}
			tells(t, "behind the gain", x, told{many: k, hands: upTo(50, k)})
			if len(in(m, q, 0)) != 0 || !slices.Equal(in(m, q, 1), upTo(50+k, q-k)) {
				t.Fatalf("step %d behind the copies: %v, %v", i, in(m, q, 0), in(m, q, 1))
			}
		}
		if !x.Step(m) {
			t.Fatal("not done")
		}
		still(t, "behind the lay", x, told{many: k, hands: []int{50}})
		if !slices.Equal(in(m, q, 0), upTo(51, k-1)) {
			t.Fatalf("laid: %v", in(m, q, 0))
		}
	}
}

// P11.1, P11.2: of one number there is no lay, whatever the thief's ring is.
func TestAStealOfOneIsDoneAtItsGain(t *testing.T) {
	for _, q := range someRooms {
		for n := 1; n <= 2; n++ {
			for _, mine := range []int{0, 1, q} {
				m := ringsOf(q, ring{0, 9, upTo(80, mine)}, ring{2, round - 1, upTo(50, n)})
				w := wordAt(q, 2)
				x := steal.New(of(q), 0, 2)
				stepped(t, "look", x, m, false, loading(m, w))
				stepped(t, "copy", x, m, false, loading(m, slotAt(q, 2, round-1)))
				stepped(t, "gain", x, m, true, swapping(m, w, wordOf(round-1, round-1+int64(n)), wordOf(0, int64(n)-1)))
				still(t, "gain", x, told{many: 1, hands: []int{50}})
				if !slices.Equal(in(m, q, 0), upTo(80, mine)) {
					t.Fatalf("the thief's ring: %v", in(m, q, 0))
				}
			}
		}
	}
}

// P11.1, P11.2: the lay lays as many as there is room for; the others are left over, and held.
func TestAThiefsRingWithoutRoomForAll(t *testing.T) {
	for _, q := range someRooms {
		for _, head := range heads(q) {
			for _, n := range lengths(q) {
				for _, mine := range lengths(q) {
					what := name(q, 2, 0, head, n) + ", the thief's " + strconv.Itoa(mine)
					m := ringsOf(q, ring{2, head, upTo(200, mine)}, ring{0, 3, upTo(50, n)})
					x := steal.New(of(q), 2, 0)
					along(t, what, x, newSteal(q, 2, 0), m, none, 200)
					gained := upTo(50, half(n))
					others := gained[min(1, len(gained)):]
					laid := min(len(others), q-mine)
					want := told{many: len(gained), left: others[laid:]}
					want.hands = append(slices.Clone(gained[:len(gained)-len(others)]), want.left...)
					still(t, what, x, want)
					if !slices.Equal(in(m, q, 2), append(upTo(200, mine), others[:laid]...)) {
						t.Fatalf("%s: %v", what, in(m, q, 2))
					}
				}
			}
		}
	}
}

// P11.1, P11.2: there is no room in a ring that is longer than Q.
func TestAThiefsRingWhoseLengthIsAboveQ(t *testing.T) {
	for _, q := range someRooms[1:] {
		for _, n := range tooLong(q) {
			m := ringsOf(q, ring{1, 3, upTo(50, q)})
			m.Store(wordAt(q, 0), wordOf(5, 5+n))
			x := steal.New(of(q), 0, 1)
			for range 2 + q/2 {
				x.Step(m)
			}
			stepped(t, "lay", x, m, true, loading(m, wordAt(q, 0)))
			still(t, "lay", x, told{many: q / 2, hands: upTo(50, q/2), left: upTo(51, q/2-1)})
		}
	}
}

// P11.1, P11.2
func TestALayWhoseSwingFailsLooksAgain(t *testing.T) {
	for _, q := range someRooms[1:] {
		for full := range q {
			m := ringsOf(q, ring{0, round - 2, nil}, ring{1, 3, upTo(50, q)})
			x, y := steal.New(of(q), 0, 1), newSteal(q, 0, 1)
			first := true
			along(t, "a swing that fails", x, y, m, func() {
				if y.at == "lay: swing" && first {
					ring{0, round - 1, upTo(300, full)}.lay(m, q)
					first = false
				}
			}, 200)
			others := upTo(51, q/2-1)
			laid := min(len(others), q-full)
			still(t, "a swing that fails", x, told{many: q / 2, hands: append([]int{50}, others[laid:]...), left: others[laid:]})
			if first || !slices.Equal(in(m, q, 0), append(upTo(300, full), others[:laid]...)) {
				t.Fatalf("%v", in(m, q, 0))
			}
		}
	}
}

// P11.1, P11.2: behind its gain a steal has nothing to do with its victim any more.
func TestTheVictimBehindTheGain(t *testing.T) {
	m := ringsOf(8, ring{0, 0, nil}, ring{1, 3, upTo(50, 8)})
	x, y := steal.New(of(8), 0, 1), newSteal(8, 0, 1)
	along(t, "the victim behind the gain", x, y, m, func() {
		if len(y.gained) > 0 {
			m.Store(wordAt(8, 1), 99)
			m.Store(slotAt(8, 1, 3), 99)
			m.Store(slotAt(8, 1, 4), 99)
		}
	}, 30)
	still(t, "the victim behind the gain", x, told{many: 4, hands: []int{50}})
	if !slices.Equal(in(m, 8, 0), []int{51, 52, 53}) {
		t.Errorf("%v", in(m, 8, 0))
	}
}

// P11.1, P11.2
func TestAStealWhoseGainFailsLooksAgain(t *testing.T) {
	for _, q := range someRooms {
		for _, head := range heads(q) {
			w := wordAt(q, 1)
			m := ringsOf(q, ring{0, 0, nil}, ring{1, head, upTo(50, q)})
			x := steal.New(of(q), 0, 1)
			for i := range int64(q) {
				stepped(t, "look", x, m, false, loading(m, w))
				tells(t, "look", x, told{})
				for k := range int64(half(q - int(i))) {
					stepped(t, "copy", x, m, false, loading(m, slotAt(q, 1, head+i+k)))
					tells(t, "copy", x, told{})
				}
				take(m, q, 1, 1)
				stepped(t, "gain", x, m, false, swapping(m, w, wordOf(head+i, head+int64(q)), 0))
				tells(t, "gain", x, told{})
			}
			stepped(t, "the last look", x, m, true, loading(m, w))
			still(t, "the last look", x, nothing)
		}
	}
}

// P11.1, P11.2: what comes between fails the gain, wherever it comes; up to it the copies go on by the word that was seen.
func TestWhereverAnotherWordComesBetween(t *testing.T) {
	for _, q := range someRooms {
		for n := 1; n <= q; n++ {
			for where := range 1 + half(n) {
				m := ringsOf(q, ring{0, 0, nil}, ring{1, round - 2, upTo(50, n)})
				x, y := steal.New(of(q), 0, 1), newSteal(q, 0, 1)
				step := 0
				along(t, "another word", x, y, m, func() {
					if step == where {
						take(m, q, 1, 1)
						ring{2, 0, nil}.lay(m, q)
					}
					step++
				}, 200)
				if n == 1 {
					still(t, "another word", x, nothing)
					continue
				}
				still(t, "another word", x, told{many: half(n - 1), hands: []int{51}})
				if !slices.Equal(in(m, q, 0), upTo(52, half(n-1)-1)) {
					t.Fatalf("room %d, of %d, at %d: %v", q, n, where, in(m, q, 0))
				}
			}
		}
	}
}

// P11.1, P11.2
func TestAStealWhoseGainFailsForgetsWhatItCopied(t *testing.T) {
	for _, q := range someRooms {
		for _, head := range heads(q) {
			for n := 1; n <= q; n++ {
				m := ringsOf(q, ring{0, 6, nil}, ring{2, head, upTo(50, q)})
				x, y := steal.New(of(q), 0, 2), newSteal(q, 0, 2)
				first := true
				along(t, "another ring", x, y, m, func() {
					if y.at == "gain" && first {
						// The same slots, with others in them.
						ring{2, head + int64(q), upTo(500, n)}.lay(m, q)
						first = false
					}
				}, 300)
				still(t, "another ring", x, told{many: half(n), hands: []int{500}})
				if first || !slices.Equal(in(m, q, 0), upTo(501, half(n)-1)) || !slices.Equal(in(m, q, 2), upTo(500+half(n), n-half(n))) {
					t.Fatalf("room %d, then %d: %v, %v", q, n, in(m, q, 0), in(m, q, 2))
				}
			}
		}
	}
}

// P11.1, P11.2: nothing of the word but all of it counts for a CAS.
func TestAnotherWordIsAnotherOne(t *testing.T) {
	for _, q := range someRooms {
		for _, n := range []int{1, 2, q} {
			was := wordOf(5, 5+int64(n))
			for bit := range 64 {
				m := ringsOf(q, ring{2, 0, nil}, ring{0, 5, upTo(50, n)})
				x := steal.New(of(q), 2, 0)
				for range 1 + half(n) {
					x.Step(m)
				}
				m.Store(wordAt(q, 0), was^1<<bit)
				stepped(t, "another word", x, m, false, swapping(m, wordAt(q, 0), was, 0))
				tells(t, "another word", x, told{})
			}
			for _, other := range []int64{1, int64(q), round / 2, round - 1} {
				m := ringsOf(q, ring{2, 0, nil}, ring{0, 5, upTo(50, n)})
				x, y := steal.New(of(q), 2, 0), newSteal(q, 2, 0)
				fails := 0
				along(t, "another head", x, y, m, func() {
					if y.at == "gain" && fails == 0 {
						fails++
						m.Store(wordAt(q, 0), wordOf(5+other, 5+other+int64(n)))
					}
				}, 200)
				if !y.done() || y.w != wordOf(5+other, 5+other+int64(n)) {
					t.Fatalf("another head: %x", y.w)
				}
			}
		}
	}
}

// P11.1, P11.2: what comes back to what it was is taken as what it was, and what was copied as what is there.
func TestAWordThatComesBack(t *testing.T) {
	for _, q := range someRooms[1:] {
		m := ringsOf(q, ring{0, 0, nil}, ring{1, 3, []int{50, 51, 52}})
		w := m.Load(wordAt(q, 1))
		x := steal.New(of(q), 0, 1)
		stepped(t, "look", x, m, false, loading(m, wordAt(q, 1)))
		m.Store(slotAt(q, 1, 3), 60)
		stepped(t, "copy", x, m, false, loading(m, slotAt(q, 1, 3)))
		m.Store(slotAt(q, 1, 3), 70)
		m.Store(slotAt(q, 1, 4), 61)
		stepped(t, "copy", x, m, false, loading(m, slotAt(q, 1, 4)))
		m.Store(slotAt(q, 1, 4), 71)
		m.Store(wordAt(q, 1), 99)
		m.Store(wordAt(q, 1), w)
		stepped(t, "gain", x, m, false, swapping(m, wordAt(q, 1), w, wordOf(5, 6)))
		tells(t, "gain", x, told{many: 2, hands: []int{60, 61}})
		run(t, x, m)
		still(t, "lay", x, told{many: 2, hands: []int{60}})
		if !slices.Equal(in(m, q, 0), []int{61}) {
			t.Fatalf("%v", in(m, q, 0))
		}
	}
}

// mess changes a cell or two, as nobody would who keeps to the chapters.
func mess(source *rand.Rand, m *cell.Mem, q, p int) {
	w := wordAt(q, p)
	head := source.Int63n(round)
	switch source.Intn(12) {
	case 0:
		m.Store(w, wordOf(head, head+source.Int63n(int64(q)+2)))
	case 1:
		m.Store(w, wordOf(head, head+int64(q)))
	case 2:
		m.Store(w, wordOf(round-1, round-1+source.Int63n(int64(q)+1)))
	case 3:
		m.Store(w, source.Uint64())
	case 4, 5:
		m.Store(slotAt(q, p, source.Int63n(int64(q))), source.Uint64())
	case 6:
		m.Store(source.Intn(m.Len()), source.Uint64())
	case 7, 8:
		m.Add(w, 1<<32)
	}
}

// P11.1, P11.2
func TestWhateverIsChangedBetween(t *testing.T) {
	source := rand.New(rand.NewSource(1))
	ends := map[string]int{}
	for range 15000 {
		q, p := someRooms[source.Intn(len(someRooms))], source.Intn(ps)
		v := (p + 1 + source.Intn(ps-1)) % ps
		some := func(p, first int) ring {
			return ring{p, heads(q)[source.Intn(len(heads(q)))], upTo(first, source.Intn(q+1))}
		}
		m := ringsOf(q, some(p, 50), some(v, 500))
		x, y := steal.New(of(q), p, v), newSteal(q, p, v)
		often := 1 + source.Intn(20)
		along(t, "whatever is changed", x, y, m, func() {
			if source.Intn(often) == 0 {
				mess(source, m, q, p)
				mess(source, m, q, v)
			}
		}, 200)
		ends[y.at]++
	}
	if ends["done"] < 7500 {
		t.Errorf("few came to an end: %v", ends)
	}
}

// P11.1: a steal keeps nothing of a memory but what it loaded.
func TestTheMemoryIsNotKept(t *testing.T) {
	a := ringsOf(4, ring{0, 1, nil}, ring{1, 2, []int{50, 51, 52}})
	b := ringsOf(4, ring{0, 2, []int{9}}, ring{1, 2, []int{60, 61, 62}})
	x := steal.New(of(4), 0, 1)
	stepped(t, "look", x, a, false, loading(a, wordAt(4, 1)))
	stepped(t, "copy", x, b, false, loading(b, slotAt(4, 1, 2)))
	stepped(t, "copy", x, a, false, loading(a, slotAt(4, 1, 3)))
	before := a.Ops()
	stepped(t, "gain", x, b, false, swapping(b, wordAt(4, 1), wordOf(2, 5), wordOf(4, 5)))
	stepped(t, "lay", x, b, false, loading(b, wordAt(4, 0)))
	stepped(t, "lay", x, b, false, storing(b, slotAt(4, 0, 3), 51))
	stepped(t, "lay", x, b, true, swapping(b, wordAt(4, 0), wordOf(2, 3), wordOf(2, 4)))
	still(t, "lay", x, told{many: 2, hands: []int{60}})
	if a.Ops() != before || !slices.Equal(in(a, 4, 1), []int{50, 51, 52}) || !slices.Equal(in(b, 4, 1), []int{62}) || !slices.Equal(in(b, 4, 0), []int{9, 51}) {
		t.Errorf("%v, %v, %v", in(a, 4, 1), in(b, 4, 1), in(b, 4, 0))
	}
}

// withoutRings are memories that have not even the word of P 0, of a config of room 4.
func withoutRings() []*cell.Mem {
	return []*cell.Mem{nil, new(cell.Mem), cell.New(0), cell.New(-1), cell.New(wordAt(4, 0))}
}

// P11.1, P11.2: chapter 6 tells what a memory answers of cells that it has not.
func TestMemoriesWithoutTheRings(t *testing.T) {
	for _, m := range withoutRings() {
		x := steal.New(of(4), 0, 1)
		// A word that is not there is 0: an empty ring's.
		stepped(t, "look", x, m, true)
		still(t, "look", x, nothing)
		// One that comes between two steps has no cell to load, or to change.
		whole := ringsOf(4, ring{0, 0, nil}, ring{1, 8, []int{50, 51, 52}})
		x = steal.New(of(4), 0, 1)
		stepped(t, "look", x, whole, false, loading(whole, wordAt(4, 1)))
		stepped(t, "copy", x, m, false)
		stepped(t, "copy", x, whole, false, loading(whole, slotAt(4, 1, 9)))
		stepped(t, "gain", x, m, false)
		tells(t, "gain", x, told{})
		stepped(t, "look", x, whole, false, loading(whole, wordAt(4, 1)))
		stepped(t, "copy", x, m, false)
		stepped(t, "copy", x, m, false)
		stepped(t, "gain", x, whole, false, swapping(whole, wordAt(4, 1), wordOf(8, 11), wordOf(10, 11)))
		tells(t, "gain", x, told{many: 2, hands: []int{0, 0}})
		// The lay takes what is not there as an empty ring, and can't swing.
		stepped(t, "lay", x, m, false)
		stepped(t, "lay", x, m, false)
		stepped(t, "lay", x, m, false)
		tells(t, "lay", x, told{many: 2, hands: []int{0, 0}})
		stepped(t, "lay", x, whole, false, loading(whole, wordAt(4, 0)))
		stepped(t, "lay", x, whole, false, storing(whole, slotAt(4, 0, 0), 0))
		stepped(t, "lay", x, whole, true, swapping(whole, wordAt(4, 0), 0, 1))
		still(t, "lay", x, told{many: 2, hands: []int{0}})
	}
}

// P11.1, P11.2
func TestAMemoryWithTheVictimsWordAlone(t *testing.T) {
	w := wordAt(4, 1)
	m := cell.New(w + 1)
	m.Store(w, 3)
	x := steal.New(of(4), 0, 1)
	stepped(t, "look", x, m, false, loading(m, w))
	stepped(t, "copy", x, m, false)
	stepped(t, "copy", x, m, false)
	stepped(t, "gain", x, m, false, swapping(m, w, 3, wordOf(2, 3)))
	stepped(t, "lay", x, m, false, loading(m, wordAt(4, 0)))
	stepped(t, "lay", x, m, false, storing(m, slotAt(4, 0, 0), 0))
	stepped(t, "lay", x, m, true, swapping(m, wordAt(4, 0), 0, 1))
	still(t, "lay", x, told{many: 2, hands: []int{0}})
}

// P11.1: a greater memory has cells that are nobody's.
func TestAGreaterMemory(t *testing.T) {
	m := cell.New(cell.MaxCells)
	ring{1, round - 64, upTo(0, 64)}.lay(m, 64)
	want := m.All()
	x := steal.New(of(64), 2, 1)
	along(t, "a greater memory", x, newSteal(64, 2, 1), m, none, 100)
	still(t, "a greater memory", x, told{many: 32, hands: []int{0}})
	want[wordAt(64, 1)], want[wordAt(64, 2)] = wordOf(-32, 0), 31
	for i := range int64(31) {
		want[slotAt(64, 2, i)] = uint64(i + 1)
	}
	if !slices.Equal(m.All(), want) {
		t.Errorf("%v, %v", in(m, 64, 1), in(m, 64, 2))
	}
}

// P11.1, P11.2: steals beside each other are apart.
func TestStealsAreApart(t *testing.T) {
	m := ringsOf(4, ring{0, 0, upTo(50, 4)}, ring{1, 1, upTo(60, 4)}, ring{2, 2, nil})
	x, y := steal.New(of(4), 2, 0), steal.New(of(4), 2, 1)
	for range 4 {
		x.Step(m)
		y.Step(m)
	}
	tells(t, "the one", x, told{many: 2, hands: []int{50, 51}})
	tells(t, "the other", y, told{many: 2, hands: []int{60, 61}})
	run(t, x, m)
	still(t, "the one", x, told{many: 2, hands: []int{50}})
	tells(t, "the other", y, told{many: 2, hands: []int{60, 61}})
	run(t, y, m)
	still(t, "the one", x, told{many: 2, hands: []int{50}})
	still(t, "the other", y, told{many: 2, hands: []int{60}})
	if !slices.Equal(in(m, 4, 2), []int{51, 61}) {
		t.Errorf("%v", in(m, 4, 2))
	}
}

// P11.1, P11.2: one that was assigned goes on as the one that it was, in a memory of its own, while that one goes on in its own.
func TestAnAssignedStealIsApart(t *testing.T) {
	for _, q := range someRooms {
		for behind := range q + 3 {
			m := ringsOf(q, ring{0, 5, nil}, ring{1, 2, upTo(50, q)})
			x, y := steal.New(of(q), 0, 1), newSteal(q, 0, 1)
			for range behind {
				y.step(m)
				x.Step(m)
			}
			early, model, twin := *x, *y, m.Copy()
			model.copied = slices.Clone(y.copied)
			ring{1, 2, upTo(500, q)}.lay(m, q)
			for step := range 200 {
				what := name(q, 0, 1, 2, q) + ", step " + strconv.Itoa(step) + " behind " + strconv.Itoa(behind)
				want := y.step(m)
				stepped(t, what, x, m, y.done(), want...)
				want = model.step(twin)
				stepped(t, what+", the assigned one", &early, twin, model.done(), want...)
				tells(t, what, x, y.told())
				tells(t, what+", the assigned one", &early, model.told())
			}
			if !slices.Equal(in(twin, q, 0), upTo(51, half(q)-1)) || !slices.Equal(in(twin, q, 1), upTo(50+half(q), q-half(q))) {
				t.Fatalf("room %d, behind step %d: %v, %v", q, behind, in(twin, q, 0), in(twin, q, 1))
			}
		}
	}
}

// spoil writes over an answer, and behind its length.
func spoil(l []int) {
	_ = append(l, 99, 99, 99)
	l = l[:cap(l)]
	for i := range l {
		l[i] = 99
	}
}

// P11.3
func TestWhatIsAnsweredIsNewMemory(t *testing.T) {
	for n := range 9 {
		for mine := range 9 {
			m := ringsOf(8, ring{0, 3, upTo(80, mine)}, ring{1, 7, upTo(50, n)})
			x, y := steal.New(of(8), 0, 1), newSteal(8, 0, 1)
			along(t, "a steal", x, y, m, func() {
				spoil(x.Hands())
				spoil(x.Left())
			}, 30)
			hands, left, again, over := x.Hands(), x.Left(), x.Hands(), x.Left()
			spoil(hands)
			spoil(left)
			if !slices.Equal(again, y.told().hands) || !slices.Equal(over, y.told().left) {
				t.Fatalf("answers share memory: %v, %v", again, over)
			}
			still(t, "a steal", x, y.told())
		}
	}
}

// P11.3
func TestAnswersStayAsTheyWere(t *testing.T) {
	m := ringsOf(8, ring{0, 0, upTo(80, 6)}, ring{1, 2, upTo(50, 8)})
	x := steal.New(of(8), 0, 1)
	for range 6 {
		x.Step(m)
	}
	early := x.Hands()
	run(t, x, m)
	hands, left := x.Hands(), x.Left()
	for g := range 9 {
		other := ringsOf(8, ring{0, 0, upTo(80, 6)}, ring{1, int64(g), upTo(90+g, 8)})
		run(t, steal.New(of(8), 0, 1), other)
		x.Step(other)
	}
	if !slices.Equal(early, upTo(50, 4)) || !slices.Equal(hands, []int{50, 53}) || !slices.Equal(left, []int{53}) {
		t.Errorf("%v, %v, %v", early, hands, left)
	}
}

// whole runs something for all rows of choices that it makes, one after the other; how many rows these are.
func whole(do func(choose func(n int) int)) int {
	var row, bounds []int
	for runs := 1; ; runs++ {
		at := 0
		do(func(n int) int {
			if at == len(row) {
				row, bounds = append(row, 0), append(bounds, n)
			}
			at++
			return row[at-1]
		})
		last := len(row) - 1
		for last >= 0 && row[last] == bounds[last]-1 {
			last--
		}
		if last < 0 {
			return runs
		}
		row, bounds = row[:last+1], bounds[:last+1]
		row[last]++
	}
}

// sorted are numbers, rising.
func sorted(l []int) []int {
	l = slices.Clone(l)
	slices.Sort(l)
	return l
}

// yard is the rings of a thief and of its victim, with what others do to them between a steal's steps, each deed at once.
type yard struct {
	m       *cell.Mem
	q       int
	next    int
	outside []int
}

// The thief and the victim of a yard.
const thief, victim = 0, 1

// deeds are what others may do: nothing; to the victim's ring a get, a put, a cut, and a steal; to the thief's a gain of its oldest, and of all.
const deeds = 7

// do does one of these; those that can't be done are not.
func (y *yard) do(deed int) {
	n, mine := len(in(y.m, y.q, victim)), len(in(y.m, y.q, thief))
	switch {
	case deed == 1 && n > 0:
		y.outside = append(y.outside, take(y.m, y.q, victim, 1)...)
	case deed == 2 && n < y.q:
		push(y.m, y.q, victim, y.next)
		y.next++
	case deed == 3 && n == y.q:
		y.outside = append(y.outside, cut(y.m, y.q, victim, y.q/2)...)
	case deed == 4 && n > 0:
		y.outside = append(y.outside, take(y.m, y.q, victim, half(n))...)
	case deed == 5 && mine > 0:
		y.outside = append(y.outside, take(y.m, y.q, thief, 1)...)
	case deed == 6 && mine > 0:
		y.outside = append(y.outside, take(y.m, y.q, thief, mine)...)
	}
}

// gains holds a step of a steal that had gained nothing ahead of it against its victim's ring, as that was.
func gains(t *testing.T, what string, x *steal.Steal, last []int) {
	t.Helper()
	n := x.Many()
	if n > 0 && (n != half(len(last)) || !slices.Equal(x.Hands(), last[:n])) {
		t.Fatalf("%s: gained %v of %v", what, x.Hands(), last)
	}
	if n == 0 && x.Done() && len(last) > 0 {
		t.Fatalf("%s: gained nothing of %v", what, last)
	}
}

// yields holds P11.4 of a steal, between whose steps others do as is chosen, so many deeds at most.
func yields(t *testing.T, q int, head int64, n, most int, choose func(n int) int) {
	t.Helper()
	what := name(q, thief, victim, head, n)
	y := &yard{q: q, next: 50 + n, m: ringsOf(q, ring{thief, head + 3, nil}, ring{victim, head, upTo(50, n)})}
	x := steal.New(of(q), thief, victim)
	for step := 0; !x.Done(); step++ {
		if step > 1000 {
			t.Fatalf("%s: no end", what)
		}
		last, had := in(y.m, q, victim), x.Many()
		if x.Step(y.m); had == 0 {
			gains(t, what, x, last)
		}
		for deed := -1; most > 0 && deed != 0; {
			if deed = choose(deeds); deed > 0 {
				most--
				y.do(deed)
			}
		}
		if all := slices.Concat(y.outside, x.Hands(), in(y.m, q, thief), in(y.m, q, victim)); !slices.Equal(sorted(all), upTo(50, y.next-50)) {
			t.Fatalf("%s: %v outside, %v held, %v and %v in the rings", what, y.outside, x.Hands(), in(y.m, q, thief), in(y.m, q, victim))
		}
	}
	if len(x.Left()) > 0 {
		t.Fatalf("%s: %v left over", what, x.Left())
	}
}

// P11.4
func TestWhatIsGainedIsTheOlderHalf(t *testing.T) {
	for n := range 3 {
		whole(func(choose func(n int) int) { yields(t, 2, round-2, n, 3, choose) })
	}
	for n := range 5 {
		whole(func(choose func(n int) int) { yields(t, 4, round-3, n, 3, choose) })
	}
	for _, head := range heads(4) {
		for n := range 5 {
			whole(func(choose func(n int) int) { yields(t, 4, head, n, 2, choose) })
		}
	}
	for n := range 9 {
		whole(func(choose func(n int) int) { yields(t, 8, round-5, n, 2, choose) })
	}
}

// P11.4
func TestWhatIsGainedIsTheOlderHalfInGreaterRooms(t *testing.T) {
	source := rand.New(rand.NewSource(3))
	for range 6000 {
		q := someRooms[source.Intn(len(someRooms))]
		seldom := 1 + source.Intn(9)
		yields(t, q, heads(q)[source.Intn(len(heads(q)))], source.Intn(q+1), 40, func(n int) int {
			if source.Intn(seldom) > 0 {
				return 0
			}
			return source.Intn(n)
		})
	}
}

// machine is what goes step by step: a put, a get, or a steal.
type machine interface {
	Step(m *cell.Mem) bool
	Hands() []int
}

// goer does machines one behind the other; its steals are of one victim; what they all held at their ends is its own.
type goer struct {
	row    []machine
	victim int
	kept   []int
}

// stealing is a goer that steals once.
func stealing(q, p, v int) *goer { return &goer{row: []machine{steal.New(of(q), p, v)}, victim: v} }

// owning is a goer that puts, and gets, as is told; the first number that it puts is told, too.
func owning(q, p, first int, what string) *goer {
	g := &goer{}
	for _, w := range what {
		if w == 'p' {
			g.row = append(g.row, put.New(of(q), p, first))
			first++
		} else {
			g.row = append(g.row, get.New(of(q), p))
		}
	}
	return g
}

// step does a step of its first machine.
func (g *goer) step(t *testing.T, what string, m *cell.Mem, q int) {
	t.Helper()
	x := g.row[0]
	s, steals := x.(*steal.Steal)
	had, last := s.Many(), in(m, q, g.victim)
	ended := x.Step(m)
	if steals && had == 0 {
		gains(t, what, s, last)
	}
	if len(s.Left()) > 0 {
		t.Fatalf("%s: %v left over", what, s.Left())
	}
	if ended {
		g.row, g.kept = g.row[1:], append(g.kept, x.Hands()...)
	}
}

// holds are what it has, and what its machines hold.
func (g *goer) holds() []int {
	l := slices.Clone(g.kept)
	for _, x := range g.row {
		l = append(l, x.Hands()...)
	}
	return l
}

// beside holds P11.4 of machines beside each other, who goes next being chosen: at any time each of all numbers is in just one place.
func beside(t *testing.T, q int, m *cell.Mem, all int, choose func(n int) int, goers ...*goer) {
	t.Helper()
	for step := 0; ; step++ {
		what := "room " + strconv.Itoa(q) + ", step " + strconv.Itoa(step)
		if step > 3000 {
			t.Fatalf("%s: no end", what)
		}
		going := slices.DeleteFunc(slices.Clone(goers), func(g *goer) bool { return len(g.row) == 0 })
		if len(going) == 0 {
			return
		}
		going[choose(len(going))].step(t, what, m, q)
		found := slices.Concat(in(m, q, 0), in(m, q, 1), in(m, q, 2))
		for _, g := range goers {
			found = append(found, g.holds()...)
		}
		if !slices.Equal(sorted(found), upTo(50, all)) {
			t.Fatalf("%s: %v", what, found)
		}
	}
}

// P11.4: an owner beside a thief, in every order.
func TestAnOwnerBesideAThief(t *testing.T) {
	every := func(q int, head int64, n int, what string) {
		whole(func(choose func(n int) int) {
			m := ringsOf(q, ring{0, 0, nil}, ring{1, head, upTo(50, n)}, ring{2, 0, nil})
			beside(t, q, m, n+strings.Count(what, "p"), choose, stealing(q, 0, 1), owning(q, 1, 50+n, what))
		})
	}
	for _, head := range []int64{0, round - 1} {
		for _, what := range []string{"p", "g", "pp", "pg", "gp", "gg"} {
			for n := range 3 {
				every(2, head, n, what)
			}
		}
		for n := range 5 {
			every(4, head, n, "p")
			every(4, head, n, "g")
		}
	}
	every(4, round-3, 3, "pg")
	every(4, round-2, 4, "pp")
}

// P11.4: the document's fifth example of the whole. The word comes back to what it was, and so do the two oldest.
func TestACutAndTwoPutsBetween(t *testing.T) {
	for _, head := range heads(4) {
		m := ringsOf(4, ring{0, 0, nil}, ring{1, head, []int{1, 2, 3, 4}})
		x := steal.New(of(4), 0, 1)
		for range 3 {
			x.Step(m)
		}
		for g := 5; g <= 7; g++ {
			for p := put.New(of(4), 1, g); !p.Step(m); {
			}
		}
		if !slices.Equal(in(m, 4, 1), []int{1, 2, 6, 7}) {
			t.Fatalf("%v", in(m, 4, 1))
		}
		stepped(t, "gain", x, m, false, swapping(m, wordAt(4, 1), wordOf(head, head+4), wordOf(head+2, head+4)))
		tells(t, "gain", x, told{many: 2, hands: []int{1, 2}})
		run(t, x, m)
		still(t, "lay", x, told{many: 2, hands: []int{1}})
		if !slices.Equal(in(m, 4, 0), []int{2}) || !slices.Equal(in(m, 4, 1), []int{6, 7}) {
			t.Fatalf("%v, %v", in(m, 4, 0), in(m, 4, 1))
		}
	}
}

// P11.4: thieves beside each other, of one victim and of each other, in every order.
func TestThievesBesideEachOther(t *testing.T) {
	for n := range 3 {
		whole(func(choose func(n int) int) {
			m := ringsOf(2, ring{0, 0, nil}, ring{1, round - 1, upTo(50, n)}, ring{2, 0, nil})
			beside(t, 2, m, n+1, choose, stealing(2, 0, 1), stealing(2, 2, 1), owning(2, 1, 50+n, "p"))
		})
	}
	for _, v := range []int{1, 0} {
		for n := 1; n <= 4; n++ {
			whole(func(choose func(n int) int) {
				m := ringsOf(4, ring{0, 3, nil}, ring{1, round - 1, upTo(50, n)}, ring{2, 0, nil})
				beside(t, 4, m, n, choose, stealing(4, 0, 1), stealing(4, 2, v))
			})
		}
	}
}

// P11.4: the same in greater rooms, with owners that put and get much, in some orders.
func TestManyBesideEachOther(t *testing.T) {
	source := rand.New(rand.NewSource(4))
	for range 3000 {
		q := someRooms[source.Intn(len(someRooms))]
		n := source.Intn(q + 1)
		m := ringsOf(q, ring{0, source.Int63n(round), nil}, ring{1, heads(q)[source.Intn(len(heads(q)))], upTo(50, n)}, ring{2, round - 1, nil})
		what := ""
		for range source.Intn(9) {
			what += string("pppgg"[source.Intn(5)])
		}
		// Who goes seldom is passed by much.
		often := []int{1 + source.Intn(4), 1 + source.Intn(4), 1 + source.Intn(4)}
		beside(t, q, m, n+strings.Count(what, "p"), func(n int) int {
			i := source.Intn(often[0] + often[1] + often[2])
			for j := range n - 1 {
				if i < often[j] {
					return j
				}
				i -= often[j]
			}
			return n - 1
		}, stealing(q, 0, 1), stealing(q, 2, source.Intn(2)), owning(q, 1, 50+n, what))
	}
}
