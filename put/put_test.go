package put_test

import (
	"math"
	"math/rand"
	"slices"
	"strconv"
	"testing"

	"distaff/cell"
	"distaff/conf"
	"distaff/put"
)

// round is where heads and tails go round.
const round = 1 << 32

// someRooms are all that a config may have.
var someRooms = []int{2, 4, 8, 16, 32, 64}

// ps is how many Ps the tests' configs have.
const ps = 3

// of is a config whose rings have room q.
func of(q int) conf.Config { return conf.Config{N: ps, Q: q, G: 5, M: ps + 1, T: 2} }

// heads are where rings of room q may begin: in whichever slot, and such as go round.
func heads(q int) []int64 {
	n := int64(q)
	return []int64{0, 1, n/2 - 1, n / 2, n - 1, n, 1 << 31, round - n - 1, round - n, round - n + 1, round - n/2, round - n/2 + 1, round - 2, round - 1}
}

// lengths are how many may be in a ring of room q: all of a small one, the edges of a great one.
func lengths(q int) []int {
	if q <= 8 {
		return upTo(0, q+1)
	}
	return []int{0, 1, 2, q/2 - 1, q / 2, q/2 + 1, q - 2, q - 1, q}
}

// upTo is n numbers from the first on, rising.
func upTo(first, n int) []int {
	l := make([]int, n)
	for i := range l {
		l[i] = first + i
	}
	return l
}

// mod is a remainder from 0 on.
func mod(n, by int64) int64 { return (n%by + by) % by }

// wordAt is the address of a ring's word, by chapter 5's words.
func wordAt(q, p int) int { return 4 + p*(6+q) }

// slotAt is that of a place's slot; places need not go round.
func slotAt(q, p int, place int64) int { return wordAt(q, p) + 6 + int(mod(place, int64(q))) }

// wordOf is a ring's word.
func wordOf(head, tail int64) uint64 { return uint64(mod(head, round))<<32 | uint64(mod(tail, round)) }

// ringOf is a memory whose ring of P p has these, from a head on. What stands in all other cells is theirs alone.
func ringOf(q, p int, head int64, l ...int) *cell.Mem {
	m := cell.New(of(q).Cells())
	for a := range m.Len() {
		m.Store(a, uint64(7000+a))
	}
	m.Store(wordAt(q, p), wordOf(head, head+int64(len(l))))
	for i, g := range l {
		m.Store(slotAt(q, p, head+int64(i)), uint64(g))
	}
	return m
}

// in is what is in a ring, beside the accesses.
func in(m *cell.Mem, q, p int) []int {
	cells := m.All()
	w := cells[wordAt(q, p)]
	var l []int
	for i := range mod(int64(w%round)-int64(w/round), round) {
		l = append(l, int(cells[slotAt(q, p, int64(w/round)+i)]))
	}
	return l
}

// take lets a thief take the n oldest of a ring.
func take(m *cell.Mem, q, p, n int) []int {
	l := in(m, q, p)[:n]
	w := m.Load(wordAt(q, p))
	m.Store(wordAt(q, p), wordOf(int64(w/round)+int64(n), int64(w%round)))
	return l
}

// Accesses, told of the cells as they are ahead of them.
func loading(m *cell.Mem, a int) cell.Access {
	old := m.All()[a]
	return cell.Access{Kind: cell.Load, At: a, Old: old, New: old}
}

func storing(m *cell.Mem, a int, v uint64) cell.Access {
	return cell.Access{Kind: cell.Store, At: a, Old: m.All()[a], New: v}
}

func swapping(m *cell.Mem, a int, old, new uint64) cell.Access {
	stood := m.All()[a]
	if stood != old {
		new = stood
	}
	return cell.Access{Kind: cell.CAS, At: a, Old: stood, New: new}
}

// machine is a put, or a lay.
type machine interface {
	Step(m *cell.Mem) bool
	Done() bool
	Hands() []int
}

// overOf is what is over of a put; of a lay nothing.
func overOf(x machine) []int {
	if p, ok := x.(*put.Put); ok {
		return p.Over()
	}
	return nil
}

// tells holds what a machine tells, without an access, against what it should.
func tells(t *testing.T, what string, x machine, done bool, hands, over []int) {
	t.Helper()
	if x.Done() != done || !slices.Equal(x.Hands(), hands) || !slices.Equal(overOf(x), over) {
		t.Fatalf("%s: done %t, hands %v, over %v; want %t, %v, %v", what, x.Done(), x.Hands(), overOf(x), done, hands, over)
	}
}

// stepped does a step, and holds its answer, and its accesses, against what they should be. Nothing but accesses changes cells.
func stepped(t *testing.T, what string, x machine, m *cell.Mem, done bool, want ...cell.Access) {
	t.Helper()
	before := m.Ops()
	if x.Step(m) != done {
		t.Fatalf("%s: the step answered %t", what, !done)
	}
	n := m.Ops() - before
	log := m.Log()
	if got := log[len(log)-int(min(n, uint64(len(log)))):]; !slices.Equal(got, want) {
		t.Fatalf("%s: accesses %v; want %v", what, got, want)
	}
}

// still holds that a machine is done, for good, and does no access any more.
func still(t *testing.T, what string, x machine, hands, over []int) {
	t.Helper()
	m := ringOf(4, 1, 3, 1, 2)
	for range 3 {
		tells(t, what, x, true, hands, over)
		stepped(t, what, x, m, true)
		stepped(t, what, x, nil, true)
	}
	tells(t, what, x, true, hands, over)
}

// run does steps up to a machine's end; how many.
func run(t *testing.T, x machine, m *cell.Mem) int {
	t.Helper()
	for n := 1; n <= 1000; n++ {
		if x.Step(m) {
			return n
		}
	}
	t.Fatal("no end")
	return 0
}

// model is a machine by the chapter's tables.
type model struct {
	q, p int
	put  bool
	at   string
	// What it holds.
	list, over []int
	// What it saw at its last look: head, tail, and length.
	h, t, length int64
	k, n         int
	loaded       []int
}

func newPut(q, p, g int) *model { return &model{q: q, p: p, put: true, at: "look", list: []int{g}} }

func newLay(q, p int, l []int) *model {
	x := &model{q: q, p: p, at: "look"}
	for _, g := range l {
		if g >= 0 {
			x.list = append(x.list, g)
		}
	}
	return x
}

func (x *model) done() bool { return x.at == "done" }

// step is what a step does by the tables; it tells its access, but leaves the cells as they are.
func (x *model) step(m *cell.Mem) []cell.Access {
	word, q := wordAt(x.q, x.p), int64(x.q)
	switch x.at {
	case "look":
		if len(x.list) == 0 {
			x.at = "done"
			return nil
		}
		a := loading(m, word)
		x.h, x.t, x.k, x.loaded = int64(a.New/round), int64(a.New%round), 0, nil
		x.length = mod(x.t-x.h, round)
		x.n = int(min(int64(len(x.list)), max(0, q-x.length)))
		switch {
		case x.n > 0:
			x.at = "store"
		case x.put:
			x.at = "take"
		default:
			x.at = "done"
		}
		return []cell.Access{a}
	case "store":
		a := storing(m, slotAt(x.q, x.p, x.t+int64(x.k)), uint64(x.list[x.k]))
		x.k++
		if x.k == x.n {
			x.at = "swing"
		}
		return []cell.Access{a}
	case "take":
		a := loading(m, slotAt(x.q, x.p, x.t-q/2+int64(x.k)))
		x.k++
		x.loaded = append(x.loaded, int(a.New))
		if x.k == x.q/2 {
			x.at = "cut"
		}
		return []cell.Access{a}
	case "swing", "cut":
		from, grown := wordOf(x.h, x.t), int64(x.n)
		if x.at == "cut" {
			grown = -q / 2
		}
		a := swapping(m, word, from, wordOf(x.h, x.t+grown))
		x.swapped(a.Old == from)
		return []cell.Access{a}
	}
	return nil
}

// swapped is what stands behind a swing, or a cut.
func (x *model) swapped(ok bool) {
	switch {
	case !ok:
		x.at = "look"
		return
	case x.at == "swing":
		x.list = x.list[x.n:]
	default:
		x.over = append(x.loaded, x.list[0])
		x.list = x.over
	}
	x.at = "done"
}

// along does steps of a machine and of its model, until both are done, or so many were done; between any two steps something else is done.
func along(t *testing.T, what string, x machine, y *model, m *cell.Mem, between func(), steps int) {
	t.Helper()
	tells(t, what+", at first", x, false, y.list, nil)
	for i := range steps {
		at := what + ", step " + strconv.Itoa(i) + ", at " + y.at
		want := y.step(m)
		stepped(t, at, x, m, y.done(), want...)
		tells(t, at, x, y.done(), y.list, y.over)
		if y.done() {
			still(t, at+", behind it", x, y.list, y.over)
			return
		}
		between()
	}
}

// nothing is done between two steps.
func nothing() {}

// name is what a test tells of a ring.
func name(q, p int, head int64, n int) string {
	return "room " + strconv.Itoa(q) + ", P " + strconv.Itoa(p) + ", head " + strconv.FormatInt(head, 10) + ", length " + strconv.Itoa(n)
}

// each goes over rings of all rooms and Ps.
func each(try func(what string, q, p int, head int64, n int)) {
	for _, q := range someRooms {
		for p := range ps {
			for _, head := range heads(q) {
				for _, n := range lengths(q) {
					try(name(q, p, head, n), q, p, head, n)
				}
			}
		}
	}
}

// P9.1, P9.2
func TestANilOne(t *testing.T) {
	var x *put.Put
	still(t, "a nil put", x, nil, nil)
	var y *put.Lay
	still(t, "a nil lay", y, nil, nil)
}

// P9.1, P9.2
func TestAZeroOne(t *testing.T) {
	var x put.Put
	still(t, "a zero put", &x, nil, nil)
	var y put.Lay
	still(t, "a zero lay", &y, nil, nil)
}

// P9.1, P9.2
func TestWhatMayNotBe(t *testing.T) {
	wrong := []conf.Config{{}, {N: 0, Q: 4, G: 5, M: 4, T: 2}, {N: 9, Q: 4, G: 5, M: 16, T: 2}, {N: 3, Q: 3, G: 5, M: 4, T: 2}, {N: 3, Q: 0, G: 5, M: 4, T: 2}, {N: 3, Q: 1, G: 5, M: 4, T: 2}, {N: 3, Q: 128, G: 5, M: 4, T: 2}, {N: 3, Q: -4, G: 5, M: 4, T: 2}, {N: 3, Q: 4, G: 0, M: 4, T: 2}, {N: 3, Q: 4, G: 5, M: 3, T: 2}, {N: 3, Q: 4, G: 5, M: 4, T: 1}, {N: 3, Q: 4, G: 5, M: 4, T: 2, S: -1}, {N: math.MaxInt, Q: math.MaxInt, G: math.MaxInt, M: math.MaxInt, T: math.MaxInt, S: math.MaxInt}}
	for _, c := range wrong {
		for p := -1; p <= ps; p++ {
			still(t, "a put by a config that is not right", put.New(c, p, 1), nil, nil)
			still(t, "a lay by a config that is not right", put.NewLay(c, p, 1, 2), nil, nil)
			still(t, "a lay of none by a config that is not right", put.NewLay(c, p), nil, nil)
		}
	}
	for _, p := range []int{math.MinInt, -round, -2, -1, ps, ps + 1, 8, round, math.MaxInt} {
		what := "by P " + strconv.Itoa(p)
		still(t, "a put "+what, put.New(of(4), p, 1), nil, nil)
		still(t, "a lay "+what, put.NewLay(of(4), p, 1, 2), nil, nil)
		still(t, "a lay of none "+what, put.NewLay(of(4), p), nil, nil)
	}
	for _, g := range []int{-1, -2, -round, math.MinInt + 1, math.MinInt} {
		still(t, "a put of "+strconv.Itoa(g), put.New(of(4), 0, g), nil, nil)
	}
}

// P9.1, P9.2
func TestAnyNumberFrom0OnIsPut(t *testing.T) {
	for _, g := range []int{0, 1, 4, 5, 6, 255, 256, 1 << 31, round, math.MaxInt} {
		m := ringOf(4, 0, 2, 50)
		along(t, "a put", put.New(of(4), 0, g), newPut(4, 0, g), m, nothing, 10)
		if !slices.Equal(in(m, 4, 0), []int{50, g}) {
			t.Errorf("a put of %d: %v", g, in(m, 4, 0))
		}
		along(t, "a lay", put.NewLay(of(4), 0, g, g), newLay(4, 0, []int{g, g}), m, nothing, 10)
		if !slices.Equal(in(m, 4, 0), []int{50, g, g, g}) {
			t.Errorf("a lay of %d: %v", g, in(m, 4, 0))
		}
		m = ringOf(2, 0, 2, 50, 51)
		x := put.New(of(2), 0, g)
		along(t, "a put that cuts", x, newPut(2, 0, g), m, nothing, 10)
		if !slices.Equal(x.Over(), []int{51, g}) {
			t.Errorf("a put that cuts, of %d: %v", g, x.Over())
		}
	}
}

// P9.1, P9.2
func TestTheExamples(t *testing.T) {
	m := ringOf(2, 0, 0, 5, 6)
	x := put.New(of(2), 0, 7)
	tells(t, "at first", x, false, []int{7}, nil)
	stepped(t, "look", x, m, false, loading(m, 4))
	tells(t, "look", x, false, []int{7}, nil)
	stepped(t, "take", x, m, false, loading(m, 11))
	tells(t, "take", x, false, []int{7}, nil)
	stepped(t, "cut", x, m, true, swapping(m, 4, 2, 1))
	tells(t, "cut", x, true, []int{6, 7}, []int{6, 7})
	if !slices.Equal(in(m, 2, 0), []int{5}) {
		t.Errorf("%v", in(m, 2, 0))
	}
	m = ringOf(2, 0, 0, 5, 6)
	x = put.New(of(2), 0, 7)
	stepped(t, "look", x, m, false, loading(m, 4))
	take(m, 2, 0, 1)
	stepped(t, "take", x, m, false, loading(m, 11))
	stepped(t, "cut", x, m, false, swapping(m, 4, 2, 1))
	tells(t, "cut", x, false, []int{7}, nil)
	stepped(t, "look", x, m, false, loading(m, 4))
	stepped(t, "lay", x, m, false, storing(m, 10, 7))
	tells(t, "lay", x, false, []int{7}, nil)
	stepped(t, "swing", x, m, true, swapping(m, 4, 1<<32|2, 1<<32|3))
	tells(t, "swing", x, true, nil, nil)
	if !slices.Equal(in(m, 2, 0), []int{6, 7}) {
		t.Errorf("%v", in(m, 2, 0))
	}
}

// P9.1, P9.2
func TestAPutOfWhichNothingIsChangedBetween(t *testing.T) {
	each(func(what string, q, p int, head int64, n int) {
		was := upTo(50, n)
		m := ringOf(q, p, head, was...)
		x := put.New(of(q), p, 3)
		along(t, what, x, newPut(q, p, 3), m, nothing, 100)
		ring, over := append(was, 3), []int(nil)
		if n == q {
			ring, over = upTo(50, q/2), append(upTo(50+q/2, q/2), 3)
		}
		if !slices.Equal(in(m, q, p), ring) || !slices.Equal(x.Over(), over) || !slices.Equal(x.Hands(), over) {
			t.Fatalf("%s: %v, over %v, hands %v", what, in(m, q, p), x.Over(), x.Hands())
		}
	})
}

// P9.1
func TestHowManyStepsAPutHas(t *testing.T) {
	each(func(what string, q, p int, head int64, n int) {
		want := 3
		if n == q {
			want = q/2 + 2
		}
		if got := run(t, put.New(of(q), p, 0), ringOf(q, p, head, upTo(1, n)...)); got != want {
			t.Fatalf("%s: %d steps, not %d", what, got, want)
		}
	})
}

// P9.1, P9.2
func TestALayOfWhichNothingIsChangedBetween(t *testing.T) {
	each(func(what string, q, p int, head int64, n int) {
		for _, many := range []int{0, 1, 2, q - n - 1, q - n, q - n + 1, q, q + 1, 3 * q} {
			was, l := upTo(50, n), upTo(0, max(0, many))
			m := ringOf(q, p, head, was...)
			x := put.NewLay(of(q), p, l...)
			along(t, what, x, newLay(q, p, l), m, nothing, 300)
			laid := min(len(l), q-n)
			if !slices.Equal(in(m, q, p), append(was, l[:laid]...)) || !slices.Equal(x.Hands(), l[laid:]) {
				t.Fatalf("%s, of %d: %v, hands %v", what, many, in(m, q, p), x.Hands())
			}
		}
	})
}

// P9.1, P9.4
func TestHowManyStepsALayHas(t *testing.T) {
	for _, q := range someRooms {
		for _, head := range heads(q) {
			for many := 1; many <= q; many++ {
				if got := run(t, put.NewLay(of(q), 2, upTo(0, many)...), ringOf(q, 2, head)); got != many+2 {
					t.Fatalf("%s: a lay of %d has %d steps", name(q, 2, head, 0), many, got)
				}
			}
		}
	}
	each(func(what string, q, p int, head int64, n int) {
		for many, want := range map[int]int{q + 1: q - n + 2, 1: 3} {
			if n == q {
				want = 1
			}
			if got := run(t, put.NewLay(of(q), p, upTo(0, many)...), ringOf(q, p, head, upTo(1, n)...)); got != want {
				t.Fatalf("%s: a lay of %d has %d steps, not %d", what, many, got, want)
			}
		}
	})
}

// P9.1, P9.2
func TestALayOfNone(t *testing.T) {
	for _, l := range [][]int{nil, {}, {-1}, {-1, -1, -9, math.MinInt}} {
		for _, n := range []int{0, 1, 4} {
			m := ringOf(4, 1, 6, upTo(1, n)...)
			x := put.NewLay(of(4), 1, l...)
			tells(t, "a lay of none, at first", x, false, nil, nil)
			stepped(t, "a lay of none", x, m, true)
			still(t, "a lay of none, behind it", x, nil, nil)
		}
		if x := put.NewLay(of(4), 1, l...); !x.Step(nil) || !x.Done() {
			t.Error("a lay of none, over no memory")
		}
	}
}

// P9.1, P9.2
func TestNumbersBelow0AreNotInALay(t *testing.T) {
	for _, l := range [][]int{{-1, 5}, {5, -1}, {-1, 5, -1, -1, 0, -7, 6}, {0, -1}, {math.MinInt, 5, math.MinInt, 0, 6}, {9, 8, -1, 9, 8}, {-1, -2, -3, -4, -5, 1, 2, 3, 4, 5}} {
		var want []int
		for _, g := range l {
			if g >= 0 {
				want = append(want, g)
			}
		}
		m := ringOf(4, 0, 7)
		x := put.NewLay(of(4), 0, l...)
		tells(t, "at first", x, false, want, nil)
		along(t, "with numbers below 0", x, newLay(4, 0, l), m, nothing, 20)
		laid := min(4, len(want))
		if !slices.Equal(in(m, 4, 0), want[:laid]) || !slices.Equal(x.Hands(), want[laid:]) {
			t.Errorf("%v: %v, hands %v", l, in(m, 4, 0), x.Hands())
		}
	}
}

// P9.1, P9.2
func TestALayIntoAFullRing(t *testing.T) {
	for _, q := range someRooms {
		for _, head := range heads(q) {
			m := ringOf(q, 0, head, upTo(50, q)...)
			x := put.NewLay(of(q), 0, 1, 2, 3)
			stepped(t, "a full ring", x, m, true, loading(m, wordAt(q, 0)))
			still(t, "a full ring", x, []int{1, 2, 3}, nil)
			if !slices.Equal(in(m, q, 0), upTo(50, q)) {
				t.Fatalf("%v", in(m, q, 0))
			}
		}
	}
}

// tooLong are lengths above Q, up to the greatest one.
func tooLong(q int) []int64 {
	n := int64(q)
	return []int64{n + 1, n + n/2, 2 * n, 65536, 1<<31 - 1, 1 << 31, 1<<31 + 1, round - n, round - 2, round - 1}
}

// P9.1, P9.2
func TestARingWhoseLengthIsAboveQ(t *testing.T) {
	for _, q := range someRooms {
		for _, head := range heads(q) {
			for _, length := range tooLong(q) {
				what := name(q, 1, head, int(length))
				m := ringOf(q, 1, head)
				w := wordAt(q, 1)
				m.Store(w, wordOf(head, head+length))
				x := put.NewLay(of(q), 1, 1, 2)
				stepped(t, what, x, m, true, loading(m, w))
				still(t, what, x, []int{1, 2}, nil)
				// A put takes such a ring as a full one: its youngest are over.
				var over []int
				for i := int64(q / 2); i > 0; i-- {
					over = append(over, int(m.All()[slotAt(q, 1, head+length-i)]))
				}
				over = append(over, 3)
				y := put.New(of(q), 1, 3)
				along(t, what, y, newPut(q, 1, 3), m, nothing, 100)
				if !slices.Equal(y.Over(), over) || m.Load(w) != wordOf(head, head+length-int64(q/2)) {
					t.Fatalf("%s: over %v", what, y.Over())
				}
			}
		}
	}
}

// P9.2
func TestNumbersOfASlotGoRoundAsAnInt(t *testing.T) {
	m := ringOf(4, 0, 1, 1, 2, 3, 4)
	m.Store(slotAt(4, 0, 3), math.MaxUint64)
	m.Store(slotAt(4, 0, 4), 1<<63)
	x := put.New(of(4), 0, 5)
	run(t, x, m)
	still(t, "noughts ahead of 0", x, []int{-1, math.MinInt, 5}, []int{-1, math.MinInt, 5})
	m = ringOf(2, 0, 0, 1, 2)
	m.Store(slotAt(2, 0, 1), 1<<63-1)
	y := put.New(of(2), 0, 5)
	run(t, y, m)
	still(t, "the greatest one", y, []int{math.MaxInt, 5}, []int{math.MaxInt, 5})
}

// P9.1, P9.2
func TestAPutWhoseSwingFailsLooksAgain(t *testing.T) {
	for _, q := range someRooms {
		for _, head := range heads(q) {
			w := wordAt(q, 1)
			m := ringOf(q, 1, head, 50)
			x := put.New(of(q), 1, 3)
			stepped(t, "look", x, m, false, loading(m, w))
			stepped(t, "lay", x, m, false, storing(m, slotAt(q, 1, head+1), 3))
			take(m, q, 1, 1)
			stepped(t, "swing", x, m, false, swapping(m, w, wordOf(head, head+1), 0))
			tells(t, "swing", x, false, []int{3}, nil)
			// Meanwhile the ring is another one, and full.
			copyOf := ringOf(q, 1, head+5, upTo(60, q)...)
			stepped(t, "look", x, copyOf, false, loading(copyOf, w))
			for i := range q / 2 {
				tells(t, "take", x, false, []int{3}, nil)
				stepped(t, "take", x, copyOf, false, loading(copyOf, slotAt(q, 1, head+5+int64(q/2+i))))
			}
			stepped(t, "cut", x, copyOf, true, swapping(copyOf, w, wordOf(head+5, head+5+int64(q)), wordOf(head+5, head+5+int64(q/2))))
			over := append(upTo(60+q/2, q/2), 3)
			still(t, "cut", x, over, over)
		}
	}
}

// P9.1, P9.2
func TestAPutWhoseCutFailsForgetsWhatWasLoaded(t *testing.T) {
	for _, q := range someRooms {
		for _, head := range heads(q) {
			w := wordAt(q, 2)
			m := ringOf(q, 2, head, upTo(50, q)...)
			x := put.New(of(q), 2, 3)
			for range 1 + q/2 {
				x.Step(m)
			}
			m.Store(w, wordOf(head+1, head+1+int64(q)))
			for i := range q {
				m.Store(slotAt(q, 2, head+1+int64(i)), uint64(80+i))
			}
			stepped(t, "cut", x, m, false, swapping(m, w, wordOf(head, head+int64(q)), 0))
			tells(t, "cut", x, false, []int{3}, nil)
			if n := run(t, x, m); n != q/2+2 {
				t.Fatalf("%d steps more", n)
			}
			over := append(upTo(80+q/2, q/2), 3)
			still(t, "another cut", x, over, over)
			// And so that it swings in the end: nothing is over then.
			m = ringOf(q, 2, head, upTo(50, q)...)
			y := put.New(of(q), 2, 3)
			for range 1 + q/2 {
				y.Step(m)
			}
			take(m, q, 2, 1)
			if y.Step(m) || run(t, y, m) != 3 || !slices.Equal(in(m, q, 2), append(upTo(51, q-1), 3)) {
				t.Fatalf("%v", in(m, q, 2))
			}
			still(t, "a swing", y, nil, nil)
		}
	}
}

// P9.1, P9.2
func TestALayWhoseSwingFailsLooksAgain(t *testing.T) {
	w := wordAt(8, 1)
	m := ringOf(8, 1, round-6, 50, 51, 52, 53, 54)
	l := []int{1, 2, 3, 4, 5}
	x := put.NewLay(of(8), 1, l...)
	stepped(t, "look", x, m, false, loading(m, w))
	for i := range 3 {
		stepped(t, "store", x, m, false, storing(m, slotAt(8, 1, round-1+int64(i)), uint64(l[i])))
		tells(t, "store", x, false, l, nil)
	}
	take(m, 8, 1, 3)
	stepped(t, "swing", x, m, false, swapping(m, w, wordOf(round-6, round-1), 0))
	tells(t, "swing", x, false, l, nil)
	// Now there is room for all.
	stepped(t, "look", x, m, false, loading(m, w))
	for i := range 5 {
		stepped(t, "store", x, m, false, storing(m, slotAt(8, 1, round-1+int64(i)), uint64(l[i])))
		tells(t, "store", x, false, l, nil)
	}
	stepped(t, "swing", x, m, true, swapping(m, w, wordOf(round-3, round-1), wordOf(round-3, round+4)))
	still(t, "swing", x, nil, nil)
	if !slices.Equal(in(m, 8, 1), []int{53, 54, 1, 2, 3, 4, 5}) {
		t.Errorf("%v", in(m, 8, 1))
	}
}

// P9.1, P9.2
func TestALayWhoseSwingFailsAndThenHasLessRoom(t *testing.T) {
	for _, left := range []int{0, 1, 2, 3} {
		m := ringOf(4, 1, 2)
		x := put.NewLay(of(4), 1, 1, 2, 3)
		for range 4 {
			x.Step(m)
		}
		m.Store(wordAt(4, 1), wordOf(9, 9+4-int64(left)))
		if x.Step(m) {
			t.Fatal("a swing that should fail")
		}
		tells(t, "a swing that fails", x, false, []int{1, 2, 3}, nil)
		want := left + 2
		if left == 0 {
			want = 1
		}
		if n := run(t, x, m); n != want {
			t.Fatalf("room for %d: %d steps more", left, n)
		}
		still(t, "behind it", x, upTo(1+left, 3-left), nil)
	}
}

// P9.1, P9.2: nothing of the word but all of it counts for a CAS.
func TestAWordOfTheSameLengthIsAnotherOne(t *testing.T) {
	for _, q := range someRooms {
		for _, n := range []int{0, 1, q} {
			for _, other := range []int64{1, int64(q), round / 2, round - 1} {
				m := ringOf(q, 0, 5, upTo(50, n)...)
				x, y := put.New(of(q), 0, 1), newPut(q, 0, 1)
				first := true
				along(t, "another head", x, y, m, func() {
					if first && (y.at == "swing" || y.at == "cut") {
						m.Store(wordAt(q, 0), wordOf(5+other, 5+other+int64(n)))
						first = false
					}
				}, 200)
			}
		}
	}
}

// P9.1: what comes back to what it was is taken as what it was.
func TestAWordThatComesBack(t *testing.T) {
	for _, n := range []int{2, 4} {
		m := ringOf(4, 1, 3, upTo(50, n)...)
		w := m.Load(wordAt(4, 1))
		x, y := put.New(of(4), 1, 1), newPut(4, 1, 1)
		along(t, "a word that comes back", x, y, m, func() {
			m.Store(wordAt(4, 1), 99)
			m.Store(wordAt(4, 1), w)
		}, 10)
		if !y.done() {
			t.Error("not done")
		}
	}
}

// mess changes a cell or two, as nobody would who keeps to the chapters.
func mess(source *rand.Rand, m *cell.Mem, q, p int) {
	w := wordAt(q, p)
	head := source.Int63n(round)
	switch source.Intn(12) {
	case 0:
		m.Store(w, wordOf(head, head+source.Int63n(int64(q)+2)))
	case 1:
		m.Store(w, wordOf(head, head+int64(q)))
	case 2:
		m.Store(w, wordOf(round-1, round-1+source.Int63n(int64(q)+1)))
	case 3:
		m.Store(w, source.Uint64())
	case 4, 5:
		m.Store(slotAt(q, p, source.Int63n(int64(q))), source.Uint64())
	case 6:
		m.Store(source.Intn(m.Len()), source.Uint64())
	case 7:
		m.Add(w, 1<<32)
	}
}

// P9.1, P9.2
func TestWhateverIsChangedBetween(t *testing.T) {
	source := rand.New(rand.NewSource(1))
	for range 6000 {
		q, p := someRooms[source.Intn(3+source.Intn(4))], source.Intn(ps)
		m := ringOf(q, p, heads(q)[source.Intn(len(heads(q)))], upTo(50, source.Intn(q+1))...)
		between := func() {
			if source.Intn(2+q/8) == 0 {
				mess(source, m, q, p)
			}
		}
		g := source.Intn(300)
		along(t, "a put", put.New(of(q), p, g), newPut(q, p, g), m, between, 150)
		l := upTo(source.Intn(9)-4, source.Intn(q+6))
		x, y := put.NewLay(of(q), p, l...), newLay(q, p, l)
		along(t, "a lay", x, y, m, between, 150)
	}
}

// P9.1: machines keep nothing of a memory but what they loaded.
func TestTheMemoryIsNotKept(t *testing.T) {
	a, b := ringOf(4, 1, 2, 50), ringOf(4, 1, 2, 60)
	x := put.New(of(4), 1, 3)
	stepped(t, "look", x, a, false, loading(a, wordAt(4, 1)))
	before := a.Ops()
	stepped(t, "lay", x, b, false, storing(b, slotAt(4, 1, 3), 3))
	stepped(t, "swing", x, b, true, swapping(b, wordAt(4, 1), wordOf(2, 3), wordOf(2, 4)))
	if a.Ops() != before || !slices.Equal(in(a, 4, 1), []int{50}) || !slices.Equal(in(b, 4, 1), []int{60, 3}) {
		t.Errorf("%v, %v", in(a, 4, 1), in(b, 4, 1))
	}
}

// P9.1, P9.2: chapter 6 tells what a memory answers of cells that it has not.
func TestMemoriesWithoutTheRing(t *testing.T) {
	for _, m := range []*cell.Mem{nil, new(cell.Mem), cell.New(0), cell.New(-1), cell.New(wordAt(4, 1))} {
		x, y := put.New(of(4), 1, 3), put.NewLay(of(4), 1, 5, -1, 6)
		// A word that is not there is 0, but no CAS changes it.
		for range 50 {
			stepped(t, "a put", x, m, false)
			stepped(t, "a lay", y, m, false)
			tells(t, "a put", x, false, []int{3}, nil)
			tells(t, "a lay", y, false, []int{5, 6}, nil)
		}
		// Both go on where there is one.
		whole := ringOf(4, 1, 8)
		run(t, x, whole)
		run(t, y, whole)
		if !slices.Equal(in(whole, 4, 1), []int{3, 5, 6}) {
			t.Errorf("%v", in(whole, 4, 1))
		}
	}
}

// P9.1, P9.2
func TestAMemoryWithTheWordAlone(t *testing.T) {
	w := wordAt(4, 1)
	m := cell.New(w + 1)
	x := put.New(of(4), 1, 3)
	stepped(t, "look", x, m, false, loading(m, w))
	stepped(t, "lay", x, m, false)
	stepped(t, "swing", x, m, true, swapping(m, w, 0, 1))
	still(t, "a put", x, nil, nil)
	y := put.NewLay(of(4), 1, 5, 6, 7, 8)
	stepped(t, "look", y, m, false, loading(m, w))
	for range 3 {
		stepped(t, "store", y, m, false)
	}
	stepped(t, "swing", y, m, true, swapping(m, w, 1, 4))
	still(t, "a lay", y, []int{8}, nil)
	z := put.New(of(4), 1, 9)
	stepped(t, "look", z, m, false, loading(m, w))
	stepped(t, "take", z, m, false)
	stepped(t, "take", z, m, false)
	stepped(t, "cut", z, m, true, swapping(m, w, 4, 2))
	still(t, "a put that cuts", z, []int{0, 0, 9}, []int{0, 0, 9})
}

// P9.1: a greater memory has cells that are nobody's.
func TestAGreaterMemory(t *testing.T) {
	m := cell.New(cell.MaxCells)
	for p := range ps {
		x := put.NewLay(of(64), p, upTo(0, 64)...)
		along(t, "a lay", x, newLay(64, p, upTo(0, 64)), m, nothing, 100)
		along(t, "a put", put.New(of(64), p, 7), newPut(64, p, 7), m, nothing, 100)
	}
}

// P9.3
func TestWhatIsHandedInIsNotKept(t *testing.T) {
	for steps := range 6 {
		l := []int{4, -1, 5, 6}
		m := ringOf(2, 0, 1)
		x := put.NewLay(of(2), 0, l...)
		for i := range steps {
			if i == steps-1 {
				for i := range l {
					l[i] = 99
				}
			}
			x.Step(m)
		}
		for i := range l {
			l[i] = 98
		}
		run(t, x, m)
		if !slices.Equal(in(m, 2, 0), []int{4, 5}) || !slices.Equal(x.Hands(), []int{6}) {
			t.Errorf("written over behind %d steps: %v, hands %v", steps, in(m, 2, 0), x.Hands())
		}
	}
}

// P9.3
func TestWhatIsHandedInIsOnlyRead(t *testing.T) {
	// What lies behind a list's length in its memory is looked at, too.
	whole := []int{3, -1, 4, -5, 0, 6, -7, 8, 9}
	kept := slices.Clone(whole)
	for n := range whole {
		for _, c := range []conf.Config{of(2), of(4), {}} {
			x := put.NewLay(c, 0, whole[:n]...)
			if !slices.Equal(whole, kept) {
				t.Fatalf("behind NewLay: %v", whole)
			}
			m := ringOf(4, 0, 3)
			for range 20 {
				x.Step(m)
				spoil(x.Hands())
				if !slices.Equal(whole, kept) {
					t.Fatalf("behind a step: %v", whole)
				}
			}
		}
	}
}

// spoil writes over an answer, and behind its length.
func spoil(l []int) {
	_ = append(l, 99, 99, 99)
	l = l[:cap(l)]
	for i := range l {
		l[i] = 99
	}
}

// P9.3
func TestWhatIsAnsweredIsNewMemory(t *testing.T) {
	for _, n := range []int{0, 2, 3, 4} {
		m := ringOf(4, 1, 7, upTo(50, n)...)
		l := []int{5, -1, 6, 7}
		x, xs := put.New(of(4), 1, 3), newPut(4, 1, 3)
		along(t, "a put", x, xs, m, func() {
			spoil(x.Hands())
			spoil(x.Over())
		}, 20)
		y, ys := put.NewLay(of(4), 1, l...), newLay(4, 1, l)
		along(t, "a lay", y, ys, m, func() { spoil(y.Hands()) }, 20)
		for _, answer := range []func() []int{x.Hands, x.Over, y.Hands} {
			first, second := answer(), answer()
			kept := slices.Clone(second)
			spoil(first)
			if !slices.Equal(second, kept) {
				t.Fatalf("two answers share memory: %v", second)
			}
			still(t, "a put", x, xs.list, xs.over)
			still(t, "a lay", y, ys.list, nil)
		}
	}
}

// P9.3
func TestAnswersStayAsTheyWere(t *testing.T) {
	m := ringOf(2, 0, 0)
	y := put.NewLay(of(2), 0, 1, 2, 3)
	first := y.Hands()
	run(t, y, m)
	left := y.Hands()
	x := put.New(of(2), 0, 4)
	own := x.Hands()
	run(t, x, m)
	over, hands := x.Over(), x.Hands()
	for g := range 9 {
		run(t, put.New(of(2), 0, g), m)
	}
	if !slices.Equal(first, []int{1, 2, 3}) || !slices.Equal(left, []int{3}) || !slices.Equal(own, []int{4}) || !slices.Equal(over, []int{2, 4}) || !slices.Equal(hands, []int{2, 4}) {
		t.Errorf("%v, %v, %v, %v, %v", first, left, own, over, hands)
	}
}

// P9.1, P9.2: machines beside each other are apart.
func TestMachinesAreApart(t *testing.T) {
	m := ringOf(4, 0, 0, 50, 51, 52, 53)
	other := ringOf(4, 1, 1, 60, 61, 62, 63)
	x, y := put.New(of(4), 0, 1), put.New(of(4), 1, 2)
	for range 4 {
		x.Step(m)
		y.Step(other)
	}
	still(t, "the one", x, []int{52, 53, 1}, []int{52, 53, 1})
	still(t, "the other", y, []int{62, 63, 2}, []int{62, 63, 2})
}

// whole runs something for all rows of choices that it makes, one after the other; how many rows these are.
func whole(do func(choose func(n int) int)) int {
	var row, bounds []int
	for runs := 1; ; runs++ {
		at := 0
		do(func(n int) int {
			if at == len(row) {
				row, bounds = append(row, 0), append(bounds, n)
			}
			at++
			return row[at-1]
		})
		last := len(row) - 1
		for last >= 0 && row[last] == bounds[last]-1 {
			last--
		}
		if last < 0 {
			return runs
		}
		row, bounds = row[:last+1], bounds[:last+1]
		row[last]++
	}
}

// robbed does a machine's steps up to its end; between any two of them a thief takes as many of the oldest as is chosen. It tells what was taken, and what was in the ring at the last step.
func robbed(t *testing.T, x machine, m *cell.Mem, q, p int, choose func(n int) int) (taken, last []int) {
	t.Helper()
	for range 1000 {
		last = in(m, q, p)
		if x.Step(m) {
			return taken, last
		}
		n := min(len(in(m, q, p)), q-q/2)
		if n > 0 {
			taken = append(taken, take(m, q, p, choose(n+1))...)
		}
	}
	t.Fatal("no end")
	return nil, nil
}

// keepsAll holds P9.4 of a put: all that was there stands, in its order, first in what was taken, then in the ring, then in what is over.
func keepsAll(t *testing.T, q, p int, head int64, n int, choose func(n int) int) {
	t.Helper()
	what := name(q, p, head, n)
	m := ringOf(q, p, head, upTo(50, n)...)
	x := put.New(of(q), p, 3)
	taken, last := robbed(t, x, m, q, p, choose)
	ring, over := in(m, q, p), x.Over()
	if got, want := slices.Concat(taken, ring, over), append(upTo(50, n), 3); !slices.Equal(got, want) {
		t.Fatalf("%s: %v taken, %v in the ring, %v over", what, taken, ring, over)
	}
	if len(over) > 0 && (len(last) != q || !slices.Equal(ring, last[:q/2]) || !slices.Equal(over[:q/2], last[q/2:])) {
		t.Fatalf("%s: a cut of %v leaves %v, over %v", what, last, ring, over)
	}
	if len(over) == 0 && (len(ring) == 0 || ring[len(ring)-1] != 3) {
		t.Fatalf("%s: a swing leaves %v", what, ring)
	}
}

// laysAll holds the same of a lay.
func laysAll(t *testing.T, q, p int, head int64, n, many int, choose func(n int) int) {
	t.Helper()
	m := ringOf(q, p, head, upTo(50, n)...)
	x := put.NewLay(of(q), p, upTo(0, many)...)
	taken, _ := robbed(t, x, m, q, p, choose)
	if got, want := slices.Concat(taken, in(m, q, p), x.Hands()), append(upTo(50, n), upTo(0, many)...); !slices.Equal(got, want) {
		t.Fatalf("%s, a lay of %d: %v taken, %v in the ring, hands %v", name(q, p, head, n), many, taken, in(m, q, p), x.Hands())
	}
	if len(x.Hands()) > 0 && len(in(m, q, p)) != q {
		t.Fatalf("%s, a lay of %d: %v in the ring, hands %v", name(q, p, head, n), many, in(m, q, p), x.Hands())
	}
}

// P9.4
func TestNobodyIsLostWhateverIsTakenBetween(t *testing.T) {
	for _, q := range []int{2, 4} {
		for _, head := range heads(q) {
			for n := range q + 1 {
				whole(func(choose func(n int) int) { keepsAll(t, q, 1, head, n, choose) })
				for many := range q + 2 {
					whole(func(choose func(n int) int) { laysAll(t, q, 1, head, n, many, choose) })
				}
			}
		}
	}
	for _, head := range []int64{3, round - 5} {
		for _, n := range []int{0, 1, 3, 5} {
			whole(func(choose func(n int) int) { keepsAll(t, 8, 0, head, n, choose) })
		}
	}
}

// P9.4
func TestNobodyIsLostInGreaterRooms(t *testing.T) {
	source := rand.New(rand.NewSource(2))
	for range 4000 {
		q, p := someRooms[2+source.Intn(4)], source.Intn(ps)
		head, n := heads(q)[source.Intn(len(heads(q)))], q-source.Intn(q+1)*source.Intn(2)
		// Seldom, else a thief comes ahead of each swing until the ring is empty.
		seldom := 1 + source.Intn(q)
		choose := func(n int) int {
			if source.Intn(seldom) > 0 {
				return 0
			}
			return source.Intn(n)
		}
		keepsAll(t, q, p, head, n, choose)
		laysAll(t, q, p, head, n, source.Intn(q+3), choose)
	}
}

// beside is what stands in all cells but a ring's word and slots.
func beside(m *cell.Mem, q, p int) []uint64 {
	cells, w := m.All(), wordAt(q, p)
	return slices.Concat(cells[:w], cells[w+1:w+6], cells[w+6+q:])
}

// P9.4: put behind put, and lay behind lay, into one ring, with a thief between.
func TestNobodyIsLostOverManyPuts(t *testing.T) {
	source := rand.New(rand.NewSource(3))
	for range 200 {
		q, p := someRooms[source.Intn(4)], source.Intn(ps)
		m := ringOf(q, p, round-source.Int63n(40))
		others := beside(m, q, p)
		came, gone := 0, []int(nil)
		choose := func(n int) int { return source.Intn(n) * source.Intn(2) }
		for range 60 {
			if source.Intn(3) > 0 {
				x := put.New(of(q), p, came)
				came++
				taken, _ := robbed(t, x, m, q, p, choose)
				gone = slices.Concat(gone, taken, x.Hands())
			} else {
				l := upTo(came, source.Intn(q))
				came += len(l)
				x := put.NewLay(of(q), p, l...)
				taken, _ := robbed(t, x, m, q, p, choose)
				gone = slices.Concat(gone, taken, x.Hands())
			}
			ring := in(m, q, p)
			all := slices.Sorted(slices.Values(slices.Concat(gone, ring)))
			if !slices.Equal(all, upTo(0, came)) || !slices.IsSorted(ring) {
				t.Fatalf("room %d: %v in the ring, gone are %v, of %d that came", q, ring, gone, came)
			}
		}
		if now := beside(m, q, p); !slices.Equal(now, others) {
			t.Fatalf("room %d: cells that are not the ring's were changed: %v", q, now)
		}
	}
}
