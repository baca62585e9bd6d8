package get_test

import (
	"math"
	"math/rand"
	"slices"
	"strconv"
	"testing"

	"distaff/cell"
	"distaff/conf"
	"distaff/get"
)

// round is where heads and tails go round.
const round = 1 << 32

// someRooms are all that a config may have.
var someRooms = []int{2, 4, 8, 16, 32, 64}

// ps is how many Ps the tests' configs have.
const ps = 3

// of is a config whose rings have room q.
func of(q int) conf.Config { return conf.Config{N: ps, Q: q, G: 5, M: ps + 1, T: 2} }

// wrong are configs that are not right.
var wrong = []conf.Config{{}, {N: 0, Q: 4, G: 5, M: 4, T: 2}, {N: 9, Q: 4, G: 5, M: 16, T: 2}, {N: 3, Q: 3, G: 5, M: 4, T: 2}, {N: 3, Q: 0, G: 5, M: 4, T: 2}, {N: 3, Q: 1, G: 5, M: 4, T: 2}, {N: 3, Q: 128, G: 5, M: 4, T: 2}, {N: 3, Q: -4, G: 5, M: 4, T: 2}, {N: 3, Q: 4, G: 0, M: 4, T: 2}, {N: 3, Q: 4, G: 5, M: 3, T: 2}, {N: 3, Q: 4, G: 5, M: 4, T: 1}, {N: 3, Q: 4, G: 5, M: 4, T: 2, S: -1}, {N: math.MaxInt, Q: math.MaxInt, G: math.MaxInt, M: math.MaxInt, T: math.MaxInt, S: math.MaxInt}}

// noPs are numbers of no P of the tests' configs.
var noPs = []int{math.MinInt, -round, -2, -1, ps, ps + 1, 8, round, math.MaxInt}

// heads are where rings of room q may begin: in whichever slot, and such as go round.
func heads(q int) []int64 {
	n := int64(q)
	return []int64{0, 1, n/2 - 1, n / 2, n - 1, n, 1 << 31, round - n - 1, round - n, round - n + 1, round - n/2, round - n/2 + 1, round - 2, round - 1}
}

// lengths are how many may be in a ring of room q: all of a small one, the edges of a great one.
func lengths(q int) []int {
	if q <= 8 {
		return upTo(0, q+1)
	}
	return []int{0, 1, 2, q/2 - 1, q / 2, q/2 + 1, q - 2, q - 1, q}
}

// tooLong are lengths above Q, up to the greatest one.
func tooLong(q int) []int64 {
	n := int64(q)
	return []int64{n + 1, n + n/2, 2 * n, 65536, 1<<31 - 1, 1 << 31, 1<<31 + 1, round - n, round - 2, round - 1}
}

// upTo is n numbers from the first on, rising.
func upTo(first, n int) []int {
	l := make([]int, n)
	for i := range l {
		l[i] = first + i
	}
	return l
}

// mod is a remainder from 0 on.
func mod(n, by int64) int64 { return (n%by + by) % by }

// wordAt is the address of a ring's word, by chapter 5's words.
func wordAt(q, p int) int { return 4 + p*(6+q) }

// slotAt is that of a place's slot; places need not go round.
func slotAt(q, p int, place int64) int { return wordAt(q, p) + 6 + int(mod(place, int64(q))) }

// wordOf is a ring's word.
func wordOf(head, tail int64) uint64 { return uint64(mod(head, round))<<32 | uint64(mod(tail, round)) }

// ringOf is a memory whose ring of P p has these, from a head on. What stands in all other cells is theirs alone.
func ringOf(q, p int, head int64, l ...int) *cell.Mem {
	m := cell.New(of(q).Cells())
	for a := range m.Len() {
		m.Store(a, uint64(7000+a))
	}
	m.Store(wordAt(q, p), wordOf(head, head+int64(len(l))))
	for i, g := range l {
		m.Store(slotAt(q, p, head+int64(i)), uint64(g))
	}
	return m
}

// in is what is in a ring, beside the accesses.
func in(m *cell.Mem, q, p int) []int {
	cells := m.All()
	w := cells[wordAt(q, p)]
	var l []int
	for i := range mod(int64(w%round)-int64(w/round), round) {
		l = append(l, int(cells[slotAt(q, p, int64(w/round)+i)]))
	}
	return l
}

// take lets somebody else take the n oldest of a ring.
func take(m *cell.Mem, q, p, n int) []int {
	l := in(m, q, p)[:n]
	w := m.Load(wordAt(q, p))
	m.Store(wordAt(q, p), wordOf(int64(w/round)+int64(n), int64(w%round)))
	return l
}

// Accesses, told of the cells as they are ahead of them.
func loading(m *cell.Mem, a int) cell.Access {
	old := m.All()[a]
	return cell.Access{Kind: cell.Load, At: a, Old: old, New: old}
}

func swapping(m *cell.Mem, a int, old, new uint64) cell.Access {
	stood := m.All()[a]
	if stood != old {
		new = stood
	}
	return cell.Access{Kind: cell.CAS, At: a, Old: stood, New: new}
}

// tells holds what a get tells, without an access, against what it should; got has what it has, if it has something.
func tells(t *testing.T, what string, x *get.Get, done bool, got []int, tries int) {
	t.Helper()
	g, has := x.Got()
	if x.Done() != done || !slices.Equal(x.Hands(), got) || x.Tries() != tries || has != (len(got) > 0) || (has && g != got[0]) || (!has && g != 0) {
		t.Fatalf("%s: done %t, got %d %t, hands %v, tries %d; want %t, %v, %d", what, x.Done(), g, has, x.Hands(), x.Tries(), done, got, tries)
	}
}

// since are the accesses from a count on.
func since(m *cell.Mem, before uint64) []cell.Access {
	n, log := m.Ops()-before, m.Log()
	return log[len(log)-int(min(n, uint64(len(log)))):]
}

// stepped does a step, and holds its answer, and its accesses, against what they should be. Nothing but accesses changes cells.
func stepped(t *testing.T, what string, x *get.Get, m *cell.Mem, done bool, want ...cell.Access) {
	t.Helper()
	before := m.Ops()
	if x.Step(m) != done {
		t.Fatalf("%s: the step answered %t", what, !done)
	}
	if got := since(m, before); !slices.Equal(got, want) {
		t.Fatalf("%s: accesses %v; want %v", what, got, want)
	}
}

// still holds that a get is done, for good, and does no access any more.
func still(t *testing.T, what string, x *get.Get, got []int, tries int) {
	t.Helper()
	m := ringOf(4, 1, 3, 1, 2)
	for range 3 {
		tells(t, what, x, true, got, tries)
		stepped(t, what, x, m, true)
		stepped(t, what, x, nil, true)
	}
	tells(t, what, x, true, got, tries)
}

// run does steps up to a get's end; how many.
func run(t *testing.T, x *get.Get, m *cell.Mem) int {
	t.Helper()
	for n := 1; n <= 1000; n++ {
		if x.Step(m) {
			return n
		}
	}
	t.Fatal("no end")
	return 0
}

// model is a get by the chapter's table.
type model struct {
	q, p   int
	at     string
	w      uint64
	copied int
	got    []int
	tries  int
}

func newGet(q, p int) *model { return &model{q: q, p: p, at: "look"} }

func (x *model) done() bool { return x.at == "done" }

// step is what a step does by the table; it tells its access, but leaves the cells as they are.
func (x *model) step(m *cell.Mem) []cell.Access {
	word := wordAt(x.q, x.p)
	switch x.at {
	case "look":
		a := loading(m, word)
		x.w = a.New
		x.at = "copy"
		if n := mod(int64(x.w%round)-int64(x.w/round), round); n == 0 || n > int64(x.q) {
			x.at = "done"
		}
		return []cell.Access{a}
	case "copy":
		a := loading(m, slotAt(x.q, x.p, int64(x.w/round)))
		x.copied, x.at = int(a.New), "gain"
		return []cell.Access{a}
	case "gain":
		a := swapping(m, word, x.w, wordOf(int64(x.w/round)+1, int64(x.w%round)))
		if a.Old != x.w {
			x.tries++
			x.at = "look"
		} else {
			x.got, x.at = []int{x.copied}, "done"
		}
		return []cell.Access{a}
	}
	return nil
}

// along does steps of a get and of its model, until both are done, or so many were done; between any two steps something else is done.
func along(t *testing.T, what string, x *get.Get, y *model, m *cell.Mem, between func(), steps int) {
	t.Helper()
	tells(t, what+", at first", x, false, nil, 0)
	for i := range steps {
		at := what + ", step " + strconv.Itoa(i) + ", at " + y.at
		want := y.step(m)
		stepped(t, at, x, m, y.done(), want...)
		tells(t, at, x, y.done(), y.got, y.tries)
		if y.done() {
			still(t, at+", behind it", x, y.got, y.tries)
			return
		}
		between()
	}
}

// nothing is done between two steps.
func nothing() {}

// name is what a test tells of a ring.
func name(q, p int, head int64, n int) string {
	return "room " + strconv.Itoa(q) + ", P " + strconv.Itoa(p) + ", head " + strconv.FormatInt(head, 10) + ", length " + strconv.Itoa(n)
}

// each goes over rings of all rooms and Ps.
func each(try func(what string, q, p int, head int64, n int)) {
	for _, q := range someRooms {
		for p := range ps {
			for _, head := range heads(q) {
				for _, n := range lengths(q) {
					try(name(q, p, head, n), q, p, head, n)
				}
			}
		}
	}
}

// P10.1, P10.2
func TestANilOne(t *testing.T) {
	var x *get.Get
	still(t, "a nil get", x, nil, 0)
}

// P10.1, P10.2
func TestAZeroOne(t *testing.T) {
	var x get.Get
	still(t, "a zero get", &x, nil, 0)
	still(t, "a new one", new(get.Get), nil, 0)
}

// P10.1, P10.2
func TestWhatMayNotBe(t *testing.T) {
	for _, c := range wrong {
		for p := -1; p <= ps; p++ {
			still(t, "by a config that is not right", get.New(c, p), nil, 0)
		}
	}
	for _, p := range noPs {
		still(t, "by P "+strconv.Itoa(p), get.New(of(4), p), nil, 0)
	}
	for p := range ps {
		tells(t, "by P "+strconv.Itoa(p), get.New(of(4), p), false, nil, 0)
	}
}

// P10.1, P10.2: at the edges of what a config may be.
func TestTheLeastAndTheGreatestConfig(t *testing.T) {
	for _, c := range []conf.Config{{N: 1, Q: 2, G: 1, M: 2, T: 2}, {N: 8, Q: 64, G: 256, M: 16, T: 200, S: 1000}} {
		for p := -1; p <= c.N; p++ {
			if p < 0 || p == c.N {
				still(t, "no P", get.New(c, p), nil, 0)
				continue
			}
			m := cell.New(c.Cells())
			w := wordAt(c.Q, p)
			m.Store(w, 1)
			m.Store(slotAt(c.Q, p, 0), uint64(p+5))
			x := get.New(c, p)
			stepped(t, "look", x, m, false, loading(m, w))
			stepped(t, "copy", x, m, false, loading(m, slotAt(c.Q, p, 0)))
			stepped(t, "gain", x, m, true, swapping(m, w, 1, wordOf(1, 1)))
			still(t, "gain", x, []int{p + 5}, 0)
		}
	}
}

// P10.1, P10.2
func TestTheExamples(t *testing.T) {
	m := ringOf(4, 1, 0, 5, 6)
	x := get.New(of(4), 1)
	tells(t, "at first", x, false, nil, 0)
	stepped(t, "look", x, m, false, loading(m, 14))
	tells(t, "look", x, false, nil, 0)
	stepped(t, "copy", x, m, false, loading(m, 20))
	tells(t, "copy", x, false, nil, 0)
	stepped(t, "gain", x, m, true, swapping(m, 14, 2, 1<<32|2))
	tells(t, "gain", x, true, []int{5}, 0)
	if !slices.Equal(in(m, 4, 1), []int{6}) {
		t.Errorf("%v", in(m, 4, 1))
	}
	m = ringOf(4, 1, 0, 5, 6)
	x = get.New(of(4), 1)
	stepped(t, "look", x, m, false, loading(m, 14))
	take(m, 4, 1, 1)
	stepped(t, "copy", x, m, false, loading(m, 20))
	stepped(t, "gain", x, m, false, swapping(m, 14, 2, 0))
	tells(t, "gain", x, false, nil, 1)
	stepped(t, "look", x, m, false, loading(m, 14))
	tells(t, "look", x, false, nil, 1)
	stepped(t, "copy", x, m, false, loading(m, 21))
	tells(t, "copy", x, false, nil, 1)
	stepped(t, "gain", x, m, true, swapping(m, 14, 1<<32|2, 2<<32|2))
	tells(t, "gain", x, true, []int{6}, 1)
	if len(in(m, 4, 1)) != 0 {
		t.Errorf("%v", in(m, 4, 1))
	}
	// P10.3
	m = ringOf(4, 1, 0, 5, 6)
	if l := get.All(of(4), m, 1); !slices.Equal(l, []int{5, 6}) {
		t.Errorf("%v", l)
	}
}

// P10.1, P10.2
func TestAGetOfWhichNothingIsChangedBetween(t *testing.T) {
	each(func(what string, q, p int, head int64, n int) {
		m := ringOf(q, p, head, upTo(50, n)...)
		want := m.All()
		x := get.New(of(q), p)
		along(t, what, x, newGet(q, p), m, nothing, 10)
		if n == 0 {
			still(t, what, x, nil, 0)
		} else {
			still(t, what, x, []int{50}, 0)
			want[wordAt(q, p)] = wordOf(head+1, head+int64(n))
		}
		if !slices.Equal(m.All(), want) {
			t.Fatalf("%s: %v; want %v", what, m.All(), want)
		}
	})
}

// P10.1
func TestHowManyStepsAGetHas(t *testing.T) {
	each(func(what string, q, p int, head int64, n int) {
		want := 3
		if n == 0 {
			want = 1
		}
		if got := run(t, get.New(of(q), p), ringOf(q, p, head, upTo(1, n)...)); got != want {
			t.Fatalf("%s: %d steps, not %d", what, got, want)
		}
	})
}

// P10.1, P10.2
func TestAnEmptyRing(t *testing.T) {
	for _, q := range someRooms {
		for _, head := range heads(q) {
			m := ringOf(q, 2, head)
			x := get.New(of(q), 2)
			tells(t, "an empty ring, at first", x, false, nil, 0)
			stepped(t, "an empty ring", x, m, true, loading(m, wordAt(q, 2)))
			still(t, "an empty ring", x, nil, 0)
		}
	}
}

// P10.1, P10.2
func TestARingWhoseLengthIsAboveQ(t *testing.T) {
	for _, q := range someRooms {
		for _, head := range heads(q) {
			for _, length := range tooLong(q) {
				what := name(q, 1, head, int(length))
				m := ringOf(q, 1, head)
				w := wordAt(q, 1)
				m.Store(w, wordOf(head, head+length))
				x := get.New(of(q), 1)
				stepped(t, what, x, m, true, loading(m, w))
				still(t, what, x, nil, 0)
			}
		}
	}
}

// P10.1, P10.2
func TestARingThatComesToBeTooLong(t *testing.T) {
	for _, q := range someRooms {
		for _, length := range tooLong(q) {
			m := ringOf(q, 1, 3, upTo(50, q)...)
			x := get.New(of(q), 1)
			x.Step(m)
			x.Step(m)
			m.Store(wordAt(q, 1), wordOf(3, 3+length))
			stepped(t, "gain", x, m, false, swapping(m, wordAt(q, 1), wordOf(3, 3+int64(q)), 0))
			tells(t, "gain", x, false, nil, 1)
			stepped(t, "look", x, m, true, loading(m, wordAt(q, 1)))
			still(t, "look", x, nil, 1)
		}
	}
}

// P10.2
func TestNumbersOfASlotGoRoundAsAnInt(t *testing.T) {
	for v, g := range map[uint64]int{math.MaxUint64: -1, 1 << 63: math.MinInt, 1<<63 - 1: math.MaxInt, 1 << 32: 1 << 32, math.MaxUint32: math.MaxUint32} {
		m := ringOf(4, 0, 1, 1, 2, 3, 4)
		m.Store(slotAt(4, 0, 1), v)
		x := get.New(of(4), 0)
		along(t, "a great number", x, newGet(4, 0), m, nothing, 10)
		still(t, "a great number", x, []int{g}, 0)
		m.Store(slotAt(4, 0, 3), v)
		if l := get.All(of(4), m, 0); !slices.Equal(l, []int{2, g, 4}) {
			t.Errorf("%v", l)
		}
	}
}

// P10.2
func TestANoughtIsNotNothing(t *testing.T) {
	m := ringOf(4, 0, 5, 0)
	x := get.New(of(4), 0)
	run(t, x, m)
	if g, has := x.Got(); g != 0 || !has || !slices.Equal(x.Hands(), []int{0}) {
		t.Errorf("%d, %t, %v", g, has, x.Hands())
	}
	still(t, "a nought", x, []int{0}, 0)
	y := get.New(of(4), 0)
	run(t, y, m)
	if g, has := y.Got(); g != 0 || has || len(y.Hands()) != 0 {
		t.Errorf("%d, %t, %v", g, has, y.Hands())
	}
	still(t, "nothing", y, nil, 0)
}

// P10.2: what was loaded is nobody's until it is gained.
func TestWhatIsCopiedIsNotHad(t *testing.T) {
	for _, q := range someRooms {
		m := ringOf(q, 1, 3, upTo(50, q)...)
		x := get.New(of(q), 1)
		for i := range 2 {
			x.Step(m)
			tells(t, "ahead of the gain", x, false, nil, 0)
			if !slices.Equal(in(m, q, 1), upTo(50, q)) {
				t.Fatalf("behind step %d: %v", i, in(m, q, 1))
			}
		}
	}
}

// P10.1, P10.2
func TestAGetWhoseGainFailsLooksAgain(t *testing.T) {
	for _, q := range someRooms {
		for _, head := range heads(q) {
			w := wordAt(q, 1)
			m := ringOf(q, 1, head, upTo(50, q)...)
			x := get.New(of(q), 1)
			for i := range int64(q) {
				stepped(t, "look", x, m, false, loading(m, w))
				tells(t, "look", x, false, nil, int(i))
				stepped(t, "copy", x, m, false, loading(m, slotAt(q, 1, head+i)))
				tells(t, "copy", x, false, nil, int(i))
				take(m, q, 1, 1)
				stepped(t, "gain", x, m, false, swapping(m, w, wordOf(head+i, head+int64(q)), 0))
				tells(t, "gain", x, false, nil, int(i)+1)
			}
			stepped(t, "the last look", x, m, true, loading(m, w))
			still(t, "the last look", x, nil, q)
		}
	}
}

// P10.1, P10.2
func TestAGetWhoseGainFailsForgetsWhatItCopied(t *testing.T) {
	for _, q := range someRooms {
		for _, head := range heads(q) {
			w := wordAt(q, 2)
			m := ringOf(q, 2, head, upTo(50, q)...)
			x := get.New(of(q), 2)
			x.Step(m)
			x.Step(m)
			// The same slot is the oldest place's again, with another number in it.
			m.Store(w, wordOf(head+int64(q), head+int64(q)+1))
			m.Store(slotAt(q, 2, head), 80)
			stepped(t, "gain", x, m, false, swapping(m, w, wordOf(head, head+int64(q)), 0))
			tells(t, "gain", x, false, nil, 1)
			stepped(t, "look", x, m, false, loading(m, w))
			stepped(t, "copy", x, m, false, loading(m, slotAt(q, 2, head)))
			stepped(t, "gain", x, m, true, swapping(m, w, wordOf(head+int64(q), head+int64(q)+1), wordOf(head+int64(q)+1, head+int64(q)+1)))
			still(t, "gain", x, []int{80}, 1)
		}
	}
}

// P10.1, P10.2: nothing of the word but all of it counts for a CAS.
func TestAnotherWordIsAnotherOne(t *testing.T) {
	for _, q := range someRooms {
		for _, n := range []int{1, 2, q} {
			was := wordOf(5, 5+int64(n))
			for bit := range 64 {
				m := ringOf(q, 0, 5, upTo(50, n)...)
				x := get.New(of(q), 0)
				x.Step(m)
				x.Step(m)
				m.Store(wordAt(q, 0), was^1<<bit)
				stepped(t, "another word", x, m, false, swapping(m, wordAt(q, 0), was, 0))
				tells(t, "another word", x, false, nil, 1)
			}
			for _, other := range []int64{1, int64(q), round / 2, round - 1} {
				m := ringOf(q, 0, 5, upTo(50, n)...)
				x, y := get.New(of(q), 0), newGet(q, 0)
				first := true
				along(t, "another head", x, y, m, func() {
					if first && y.at == "gain" {
						m.Store(wordAt(q, 0), wordOf(5+other, 5+other+int64(n)))
						first = false
					}
				}, 20)
				if y.tries != 1 || !y.done() {
					t.Fatalf("tries %d", y.tries)
				}
			}
		}
	}
}

// P10.1, P10.2: what comes back to what it was is taken as what it was, and what was copied as what is there.
func TestAWordThatComesBack(t *testing.T) {
	for _, q := range someRooms {
		m := ringOf(q, 1, 3, 50, 51)
		w := m.Load(wordAt(q, 1))
		x := get.New(of(q), 1)
		stepped(t, "look", x, m, false, loading(m, wordAt(q, 1)))
		m.Store(slotAt(q, 1, 3), 60)
		stepped(t, "copy", x, m, false, loading(m, slotAt(q, 1, 3)))
		m.Store(slotAt(q, 1, 3), 70)
		m.Store(wordAt(q, 1), 99)
		m.Store(wordAt(q, 1), w)
		stepped(t, "gain", x, m, true, swapping(m, wordAt(q, 1), w, wordOf(4, 5)))
		still(t, "gain", x, []int{60}, 0)
	}
}

// P10.1, P10.2: what is put behind the others lets the CAS fail, too.
func TestAPutBetween(t *testing.T) {
	m := ringOf(4, 1, round-1, 50)
	x, y := get.New(of(4), 1), newGet(4, 1)
	put := 0
	along(t, "a put", x, y, m, func() {
		if y.at == "gain" && put < 3 {
			put++
			m.Add(wordAt(4, 1), 1)
		}
	}, 30)
	still(t, "a put", x, []int{50}, 3)
}

// mess changes a cell or two, as nobody would who keeps to the chapters.
func mess(source *rand.Rand, m *cell.Mem, q, p int) {
	w := wordAt(q, p)
	head := source.Int63n(round)
	switch source.Intn(12) {
	case 0:
		m.Store(w, wordOf(head, head+source.Int63n(int64(q)+2)))
	case 1:
		m.Store(w, wordOf(head, head+int64(q)))
	case 2:
		m.Store(w, wordOf(round-1, round-1+source.Int63n(int64(q)+1)))
	case 3:
		m.Store(w, source.Uint64())
	case 4, 5:
		m.Store(slotAt(q, p, source.Int63n(int64(q))), source.Uint64())
	case 6:
		m.Store(source.Intn(m.Len()), source.Uint64())
	case 7, 8:
		m.Add(w, 1<<32)
	}
}

// P10.1, P10.2
func TestWhateverIsChangedBetween(t *testing.T) {
	source := rand.New(rand.NewSource(1))
	for range 20000 {
		q, p := someRooms[source.Intn(len(someRooms))], source.Intn(ps)
		m := ringOf(q, p, heads(q)[source.Intn(len(heads(q)))], upTo(50, source.Intn(q+1))...)
		often := 1 + source.Intn(4)
		along(t, "whatever is changed", get.New(of(q), p), newGet(q, p), m, func() {
			if source.Intn(often) == 0 {
				mess(source, m, q, p)
			}
		}, 60)
	}
}

// P10.1: a get keeps nothing of a memory but what it loaded.
func TestTheMemoryIsNotKept(t *testing.T) {
	a, b := ringOf(4, 1, 2, 50), ringOf(4, 1, 2, 60)
	x := get.New(of(4), 1)
	stepped(t, "look", x, a, false, loading(a, wordAt(4, 1)))
	before := a.Ops()
	stepped(t, "copy", x, b, false, loading(b, slotAt(4, 1, 2)))
	stepped(t, "gain", x, b, true, swapping(b, wordAt(4, 1), wordOf(2, 3), wordOf(3, 3)))
	still(t, "gain", x, []int{60}, 0)
	if a.Ops() != before || !slices.Equal(in(a, 4, 1), []int{50}) || len(in(b, 4, 1)) != 0 {
		t.Errorf("%v, %v", in(a, 4, 1), in(b, 4, 1))
	}
}

// withoutRings are memories that have not even the word of P 1, of a config of room 4.
func withoutRings() []*cell.Mem {
	return []*cell.Mem{nil, new(cell.Mem), cell.New(0), cell.New(-1), cell.New(wordAt(4, 1))}
}

// P10.1 to P10.3: chapter 6 tells what a memory answers of cells that it has not.
func TestMemoriesWithoutTheRing(t *testing.T) {
	for _, m := range withoutRings() {
		x := get.New(of(4), 1)
		// A word that is not there is 0: an empty ring's.
		stepped(t, "look", x, m, true)
		still(t, "look", x, nil, 0)
		if l := get.All(of(4), m, 1); len(l) != 0 {
			t.Errorf("%v", l)
		}
		// One that comes between two steps has no cell to load, or to change.
		whole := ringOf(4, 1, 8, 50, 51)
		x = get.New(of(4), 1)
		stepped(t, "look", x, whole, false, loading(whole, wordAt(4, 1)))
		stepped(t, "copy", x, m, false)
		stepped(t, "gain", x, m, false)
		tells(t, "gain", x, false, nil, 1)
		stepped(t, "look", x, m, true)
		still(t, "look", x, nil, 1)
		x = get.New(of(4), 1)
		stepped(t, "look", x, whole, false, loading(whole, wordAt(4, 1)))
		stepped(t, "copy", x, m, false)
		stepped(t, "gain", x, whole, true, swapping(whole, wordAt(4, 1), wordOf(8, 10), wordOf(9, 10)))
		still(t, "gain", x, []int{0}, 0)
	}
}

// P10.1 to P10.3
func TestAMemoryWithTheWordAlone(t *testing.T) {
	w := wordAt(4, 1)
	m := cell.New(w + 1)
	m.Store(w, 3)
	x := get.New(of(4), 1)
	stepped(t, "look", x, m, false, loading(m, w))
	stepped(t, "copy", x, m, false)
	stepped(t, "gain", x, m, true, swapping(m, w, 3, wordOf(1, 3)))
	still(t, "gain", x, []int{0}, 0)
	if l := get.All(of(4), m, 1); !slices.Equal(l, []int{0, 0}) || m.Load(w) != wordOf(3, 3) {
		t.Errorf("%v", l)
	}
}

// P10.1, P10.3: a greater memory has cells that are nobody's.
func TestAGreaterMemory(t *testing.T) {
	m := cell.New(cell.MaxCells)
	for p := range ps {
		for i := range int64(64) {
			m.Store(slotAt(64, p, i), uint64(i))
		}
		m.Store(wordAt(64, p), wordOf(round-64, 0))
		along(t, "a get", get.New(of(64), p), newGet(64, p), m, nothing, 10)
		if l := get.All(of(64), m, p); !slices.Equal(l, upTo(1, 63)) {
			t.Errorf("%v", l)
		}
	}
}

// P10.1, P10.2: gets beside each other are apart, and so is one that was assigned.
func TestGetsAreApart(t *testing.T) {
	m := ringOf(4, 0, 0, 50, 51, 52, 53)
	other := ringOf(4, 1, 1, 60, 61, 62, 63)
	x, y := get.New(of(4), 0), get.New(of(4), 1)
	x.Step(m)
	y.Step(other)
	x.Step(m)
	early := *x
	y.Step(other)
	take(other, 4, 1, 1)
	x.Step(m)
	y.Step(other)
	still(t, "the one", x, []int{50}, 0)
	tells(t, "the other", y, false, nil, 1)
	tells(t, "the assigned one", &early, false, nil, 0)
	run(t, y, other)
	run(t, &early, m)
	still(t, "the one", x, []int{50}, 0)
	still(t, "the other", y, []int{61}, 1)
	still(t, "the assigned one", &early, []int{51}, 1)
}

// P10.3
func TestAll(t *testing.T) {
	each(func(what string, q, p int, head int64, n int) {
		// What is in it needs no order, and may stand in it twice.
		was := upTo(50, n)
		for i := range was {
			was[i] = (was[i] * 7) % 11
		}
		m := ringOf(q, p, head, was...)
		want := m.All()
		if l := get.All(of(q), m, p); !slices.Equal(l, was) {
			t.Fatalf("%s: %v; want %v", what, l, was)
		}
		want[wordAt(q, p)] = wordOf(head+int64(n), head+int64(n))
		if !slices.Equal(m.All(), want) {
			t.Fatalf("%s: %v; want %v", what, m.All(), want)
		}
		if l := get.All(of(q), m, p); len(l) != 0 || !slices.Equal(m.All(), want) {
			t.Fatalf("%s: %v behind all", what, l)
		}
	})
}

// P10.3: the accesses are those of gets, one behind the other.
func TestTheAccessesOfAll(t *testing.T) {
	each(func(what string, q, p int, head int64, n int) {
		m := ringOf(q, p, head, upTo(50, n)...)
		twin := m.Copy()
		for range n + 1 {
			run(t, get.New(of(q), p), twin)
		}
		before := m.Ops()
		get.All(of(q), m, p)
		if m.Ops()-before != uint64(3*n+1) || !slices.Equal(m.Log(), twin.Log()) {
			t.Fatalf("%s: %d accesses: %v; want %v", what, m.Ops()-before, m.Log(), twin.Log())
		}
	})
}

// P10.3
func TestAllOfARingWhoseLengthIsAboveQ(t *testing.T) {
	for _, q := range someRooms {
		for _, head := range heads(q) {
			for _, length := range tooLong(q) {
				m := ringOf(q, 1, head)
				m.Store(wordAt(q, 1), wordOf(head, head+length))
				was, before := m.All(), m.Ops()
				l := get.All(of(q), m, 1)
				if len(l) != 0 || !slices.Equal(m.All(), was) || m.Ops() != before+1 {
					t.Fatalf("%s: %v", name(q, 1, head, int(length)), l)
				}
			}
		}
	}
}

// P10.3
func TestAllOfWhatMayNotBe(t *testing.T) {
	m := cell.New(cell.MaxCells)
	for a := range m.Len() {
		m.Store(a, 1)
	}
	was, before := m.All(), m.Ops()
	for _, c := range wrong {
		for p := -1; p <= ps; p++ {
			if l := get.All(c, m, p); len(l) != 0 {
				t.Errorf("%v, P %d: %v", c, p, l)
			}
		}
	}
	for _, p := range noPs {
		if l := get.All(of(4), m, p); len(l) != 0 {
			t.Errorf("P %d: %v", p, l)
		}
	}
	if m.Ops() != before || !slices.Equal(m.All(), was) {
		t.Error("the memory was changed")
	}
}

// P10.3: at most MaxRoom gets, and so many are never needed, as a greater ring than Q has nothing.
func TestAllEndsWhateverTheWordIs(t *testing.T) {
	source := rand.New(rand.NewSource(2))
	for range 20000 {
		q, p := someRooms[source.Intn(len(someRooms))], source.Intn(ps)
		m := ringOf(q, p, 0)
		head, n := source.Int63n(round), source.Int63n(2*int64(q))
		m.Store(wordAt(q, p), wordOf(head, head+n))
		want := in(m, q, p)
		if n > int64(q) {
			want = nil
		}
		if l := get.All(of(q), m, p); !slices.Equal(l, want) {
			t.Fatalf("%s: %v; want %v", name(q, p, head, int(n)), l, want)
		}
	}
}

// spoil writes over an answer, and behind its length.
func spoil(l []int) {
	_ = append(l, 99, 99, 99)
	l = l[:cap(l)]
	for i := range l {
		l[i] = 99
	}
}

// P10.4
func TestWhatIsAnsweredIsNewMemory(t *testing.T) {
	for n := range 5 {
		m := ringOf(4, 1, 7, upTo(50, n)...)
		x, y := get.New(of(4), 1), newGet(4, 1)
		along(t, "a get", x, y, m, func() { spoil(x.Hands()) }, 10)
		first, second := x.Hands(), x.Hands()
		spoil(first)
		if !slices.Equal(second, y.got) {
			t.Fatalf("two answers share memory: %v", second)
		}
		still(t, "a get", x, y.got, 0)
		m = ringOf(4, 1, 7, upTo(50, n)...)
		twin := m.Copy()
		first, second = get.All(of(4), m, 1), get.All(of(4), twin, 1)
		spoil(first)
		if !slices.Equal(second, upTo(50, n)) || !cell.Same(m, twin) {
			t.Fatalf("two answers share memory: %v", second)
		}
	}
}

// P10.4
func TestAnswersStayAsTheyWere(t *testing.T) {
	m := ringOf(4, 0, 0, 1, 2, 3)
	x := get.New(of(4), 0)
	run(t, x, m)
	hands := x.Hands()
	all := get.All(of(4), m, 0)
	for g := range 9 {
		other := ringOf(4, 0, int64(g), 90+g, 91+g)
		run(t, get.New(of(4), 0), other)
		get.All(of(4), other, 0)
		x.Step(other)
	}
	if !slices.Equal(hands, []int{1}) || !slices.Equal(all, []int{2, 3}) {
		t.Errorf("%v, %v", hands, all)
	}
}

// whole runs something for all rows of choices that it makes, one after the other; how many rows these are.
func whole(do func(choose func(n int) int)) int {
	var row, bounds []int
	for runs := 1; ; runs++ {
		at := 0
		do(func(n int) int {
			if at == len(row) {
				row, bounds = append(row, 0), append(bounds, n)
			}
			at++
			return row[at-1]
		})
		last := len(row) - 1
		for last >= 0 && row[last] == bounds[last]-1 {
			last--
		}
		if last < 0 {
			return runs
		}
		row, bounds = row[:last+1], bounds[:last+1]
		row[last]++
	}
}

// gainsTheOldest holds P10.5 of a get, between whose steps others take as many of the oldest as is chosen.
func gainsTheOldest(t *testing.T, q, p int, head int64, n int, choose func(n int) int) {
	t.Helper()
	what := name(q, p, head, n)
	m := ringOf(q, p, head, upTo(50, n)...)
	x := get.New(of(q), p)
	var taken, last []int
	gains := 0
	for step := 0; !x.Done(); step++ {
		if step > 1000 {
			t.Fatalf("%s: no end", what)
		}
		// Every third one is a look.
		if step%3 == 0 {
			gains = 0
		}
		fails := x.Tries()
		last = in(m, q, p)
		if x.Step(m); x.Tries() > fails && gains == 0 {
			t.Fatalf("%s: a CAS failed, and nobody gained since the look", what)
		}
		if many := choose(len(in(m, q, p)) + 1); many > 0 && !x.Done() {
			taken = append(taken, take(m, q, p, many)...)
			gains++
		}
	}
	got := x.Hands()
	if len(got) > 0 && !slices.Equal(got, last[:1]) {
		t.Fatalf("%s: got %v of %v", what, got, last)
	}
	if len(got) == 0 && len(last) > 0 {
		t.Fatalf("%s: got nothing of %v", what, last)
	}
	if x.Tries() > n {
		t.Fatalf("%s: its CAS failed %d times", what, x.Tries())
	}
	if all := slices.Concat(taken, got, in(m, q, p)); !slices.Equal(all, upTo(50, n)) {
		t.Fatalf("%s: %v taken, %v got, %v in the ring", what, taken, got, in(m, q, p))
	}
}

// P10.5
func TestWhatIsGainedIsTheOldest(t *testing.T) {
	for _, q := range []int{2, 4} {
		for _, head := range heads(q) {
			for n := range q + 1 {
				whole(func(choose func(n int) int) { gainsTheOldest(t, q, 1, head, n, choose) })
			}
		}
	}
	for _, head := range []int64{3, round - 5} {
		for n := range 8 {
			whole(func(choose func(n int) int) { gainsTheOldest(t, 8, 0, head, n, choose) })
		}
	}
}

// P10.5
func TestWhatIsGainedIsTheOldestInGreaterRooms(t *testing.T) {
	source := rand.New(rand.NewSource(3))
	for range 10000 {
		q, p := someRooms[source.Intn(len(someRooms))], source.Intn(ps)
		head, n := heads(q)[source.Intn(len(heads(q)))], source.Intn(q+1)
		seldom := 1 + source.Intn(6)
		gainsTheOldest(t, q, p, head, n, func(n int) int {
			if source.Intn(seldom) > 0 {
				return 0
			}
			// Few at once, so that it fails often.
			return source.Intn(min(n, 2+source.Intn(3)))
		})
	}
}

// gainedOnce holds P10.5 of gets beside each other, of one ring, who goes next being chosen: whom one gains, no other one does.
func gainedOnce(t *testing.T, q int, head int64, n, many int, choose func(n int) int) {
	t.Helper()
	m := ringOf(q, 0, head, upTo(50, n)...)
	var gets []*get.Get
	for range many {
		gets = append(gets, get.New(of(q), 0))
	}
	going, fails := slices.Clone(gets), 0
	var gained []int
	for step := 0; len(going) > 0; step++ {
		if step > 1000 {
			t.Fatalf("%s, %d gets: no end", name(q, 0, head, n), many)
		}
		i := choose(len(going))
		if last := in(m, q, 0); going[i].Step(m) {
			if got := going[i].Hands(); len(got) > 0 && !slices.Equal(got, last[:1]) || len(got) == 0 && len(last) > 0 {
				t.Fatalf("%s: got %v of %v", name(q, 0, head, n), got, last)
			}
			gained = append(gained, going[i].Hands()...)
			going = slices.Delete(going, i, i+1)
		}
	}
	for _, x := range gets {
		fails = max(fails, x.Tries())
	}
	if !slices.Equal(slices.Concat(gained, in(m, q, 0)), upTo(50, n)) || len(gained) != min(many, n) || fails > n {
		t.Fatalf("%s, %d gets: %v gained, %v in the ring, %d tries", name(q, 0, head, n), many, gained, in(m, q, 0), fails)
	}
}

// P10.5
func TestNobodyIsGainedTwice(t *testing.T) {
	for _, head := range heads(4) {
		for n := range 5 {
			whole(func(choose func(n int) int) { gainedOnce(t, 4, head, n, 2, choose) })
		}
	}
	for n := range 5 {
		whole(func(choose func(n int) int) { gainedOnce(t, 4, round-2, n, 3, choose) })
	}
	source := rand.New(rand.NewSource(4))
	for range 4000 {
		q := someRooms[source.Intn(len(someRooms))]
		gainedOnce(t, q, heads(q)[source.Intn(len(heads(q)))], source.Intn(q+1), 1+source.Intn(9), source.Intn)
	}
}
