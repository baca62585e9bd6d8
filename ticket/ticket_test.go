package ticket_test

import (
	"math"
	"math/big"
	"math/rand"
	"slices"
	"strconv"
	"testing"

	"distaff/api"
	"distaff/cell"
	"distaff/conf"
	"distaff/ticket"
)

// greatest is the greatest number that a cell may have, and a ticket.
const greatest = math.MaxUint64

// Addresses, by chapter 5's words.
const (
	given  = 0
	served = 1
)

// someNumbers are numbers at and beside the edges of what a cell may have.
func someNumbers() []uint64 {
	return []uint64{0, 1, 2, 5, 1<<31 - 1, 1<<32 - 1, 1 << 32, 1<<63 - 1, 1 << 63, greatest - 3, greatest - 2, greatest - 1, greatest}
}

// on is n and d together, going round at 2^64, by numbers that do not go round.
func on(n uint64, d int64) uint64 {
	s := new(big.Int).Add(new(big.Int).SetUint64(n), big.NewInt(d))
	return s.Mod(s, new(big.Int).Lsh(big.NewInt(1), 64)).Uint64()
}

// over is a memory of n cells, whose first two have these numbers, as far as it has them.
func over(n int, ticketed, serving uint64) *cell.Mem {
	m := cell.New(n)
	m.Store(given, ticketed)
	m.Store(served, serving)
	return m
}

// is tells what a ticket says of itself, against what it should.
func is(t *testing.T, what string, x *ticket.Ticket, holds bool, number uint64, named bool) {
	t.Helper()
	n, ok := x.Number()
	if x.Holds() != holds || n != number || ok != named {
		t.Fatalf("%s: holds %t, number %d, %t; want %t, %d, %t", what, x.Holds(), n, ok, holds, number, named)
	}
}

// behind holds the accesses of a call against what they should be.
func behind(t *testing.T, what string, m *cell.Mem, call func(), want ...cell.Access) {
	t.Helper()
	before := m.Ops()
	call()
	l := m.Log()
	done := int(m.Ops() - before)
	if done != len(want) || !slices.Equal(l[len(l)-min(done, len(l)):], want) {
		t.Fatalf("%s: %d accesses, at the end of %v; want %v", what, done, l, want)
	}
}

// stepped holds a step's answer and its accesses against what they should be.
func stepped(t *testing.T, what string, x *ticket.Ticket, m *cell.Mem, answer bool, want ...cell.Access) {
	t.Helper()
	behind(t, what, m, func() {
		if x.Step(m) != answer {
			t.Fatalf("%s: the step answered %t", what, !answer)
		}
	}, want...)
}

// left holds a leave's answer and its accesses against what they should be.
func left(t *testing.T, what string, x *ticket.Ticket, m *cell.Mem, answer api.Errno, want ...cell.Access) {
	t.Helper()
	behind(t, what, m, func() {
		if e := x.Leave(m); e != answer {
			t.Fatalf("%s: the leave answered %d, not %d", what, e, answer)
		}
	}, want...)
}

// drew is the access of a first step; looked that of one that waits; went that of a leave.
func drew(n uint64) cell.Access {
	return cell.Access{Kind: cell.Add, At: given, Old: n, New: on(n, 1)}
}

func looked(n uint64) cell.Access {
	return cell.Access{Kind: cell.Load, At: served, Old: n, New: n}
}

func went(from, to uint64) cell.Access {
	return cell.Access{Kind: cell.Store, At: served, Old: from, New: to}
}

// waiter, holder and leaver are tickets with a number, at what their names say.
func waiter(n uint64) *ticket.Ticket {
	x := ticket.New()
	x.Step(over(2, n, on(n, 1)))
	return x
}

func holder(n uint64) *ticket.Ticket {
	x := waiter(n)
	x.Step(over(2, 0, n))
	return x
}

func leaver(n uint64) *ticket.Ticket {
	x := holder(n)
	x.Leave(cell.New(2))
	return x
}

// P7.1, P7.2
func TestTheCellsAreChapter5s(t *testing.T) {
	if conf.Ticket != given || conf.Serving != served {
		t.Errorf("%d, %d", conf.Ticket, conf.Serving)
	}
}

// P7.1, P7.2
func TestANewOne(t *testing.T) {
	var zero ticket.Ticket
	for i, x := range []*ticket.Ticket{ticket.New(), &zero, new(ticket.Ticket), ticket.New().Copy(), zero.Copy()} {
		what := "ticket " + strconv.Itoa(i)
		if x == nil {
			t.Fatalf("%s: nil", what)
		}
		m := over(4, 7, 7)
		behind(t, what, m, func() { is(t, what, x, false, 0, false) })
		left(t, what, x, m, api.ErrState)
		is(t, what, x, false, 0, false)
		stepped(t, what, x, m, false, drew(7))
		is(t, what, x, false, 7, true)
		stepped(t, what, x, m, true, looked(7))
		is(t, what, x, true, 7, true)
		left(t, what, x, m, api.OK, went(7, 8))
		is(t, what, x, false, 7, true)
	}
}

// P7.1
func TestEachNewOneIsApart(t *testing.T) {
	a, b := ticket.New(), ticket.New()
	m := cell.New(2)
	a.Step(m)
	a.Step(m)
	is(t, "the one", a, true, 0, true)
	is(t, "the other", b, false, 0, false)
}

// P7.1, P7.2
func TestANilOne(t *testing.T) {
	var x *ticket.Ticket
	m := over(4, 5, 5)
	for range 3 {
		stepped(t, "nil", x, m, true)
		left(t, "nil", x, m, api.ErrNil)
		behind(t, "nil", m, func() {
			is(t, "nil", x, false, 0, false)
			if x.Copy() != nil {
				t.Error("a copy")
			}
		})
		if !x.Step(nil) || x.Leave(nil) != api.ErrNil {
			t.Error("over no memory")
		}
	}
}

// P7.1, P7.2
func TestTheExamples(t *testing.T) {
	m := cell.New(4)
	a, b := ticket.New(), ticket.New()
	if a.Step(m) || b.Step(m) || b.Step(m) || !a.Step(m) {
		t.Error("steps")
	}
	if b.Leave(m) != api.ErrState || a.Leave(m) != api.OK || !b.Step(m) {
		t.Error("leaves")
	}
	is(t, "a", a, false, 0, true)
	is(t, "b", b, true, 1, true)
}

// P7.1
func TestAStepOfOneThatWaits(t *testing.T) {
	for _, n := range someNumbers() {
		for _, serving := range append(someNumbers(), on(n, 1), on(n, -1), n^1<<63, n^1<<32) {
			what := "number " + strconv.FormatUint(n, 10) + " at " + strconv.FormatUint(serving, 10)
			x := ticket.New()
			m := over(3, n, serving)
			stepped(t, what, x, m, false, drew(n))
			for range 3 {
				is(t, what, x, false, n, true)
				if serving != n {
					stepped(t, what, x, m, false, looked(serving))
				}
			}
			if serving != n {
				m.Store(served, n)
			}
			stepped(t, what, x, m, true, looked(n))
			is(t, what, x, true, n, true)
		}
	}
}

// P7.1
func TestAFirstStepNeverHolds(t *testing.T) {
	for _, n := range someNumbers() {
		x := ticket.New()
		stepped(t, "the first step", x, over(2, n, n), false, drew(n))
		is(t, "the first step", x, false, n, true)
	}
}

// P7.1
func TestAStepOfOneThatHoldsOrHasLeft(t *testing.T) {
	for _, n := range someNumbers() {
		for _, serving := range someNumbers() {
			m := over(3, 77, serving)
			all := m.All()
			x, y := holder(n), leaver(n)
			for range 3 {
				stepped(t, "holds", x, m, true)
				is(t, "holds", x, true, n, true)
				stepped(t, "has left", y, m, true)
				is(t, "has left", y, false, n, true)
			}
			if !slices.Equal(m.All(), all) {
				t.Fatalf("%v", m.All())
			}
		}
	}
}

// P7.1
func TestLeavesThatMayNotBe(t *testing.T) {
	for _, n := range someNumbers() {
		for _, serving := range []uint64{n, on(n, 1), on(n, -1)} {
			m := over(3, on(n, 1), serving)
			all := m.All()
			fresh, waits, gone := ticket.New(), waiter(n), leaver(n)
			for range 3 {
				left(t, "new", fresh, m, api.ErrState)
				is(t, "new", fresh, false, 0, false)
				left(t, "waits", waits, m, api.ErrState)
				is(t, "waits", waits, false, n, true)
				left(t, "has left", gone, m, api.ErrState)
				is(t, "has left", gone, false, n, true)
			}
			if !slices.Equal(m.All(), all) {
				t.Fatalf("%v", m.All())
			}
			// What was refused changed nothing of them either: both go on as they would have.
			stepped(t, "new", fresh, over(3, 3, 3), false, drew(3))
			stepped(t, "waits", waits, over(3, 3, n), true, looked(n))
		}
	}
}

// P7.1
func TestALeavePutsItsOwnNumberAndOne(t *testing.T) {
	for _, n := range someNumbers() {
		for _, serving := range someNumbers() {
			x := holder(n)
			m := over(4, 50, serving)
			left(t, "a leave", x, m, api.OK, went(serving, on(n, 1)))
			if !slices.Equal(m.All(), []uint64{50, on(n, 1), 0, 0}) {
				t.Fatalf("number %d: %v", n, m.All())
			}
			is(t, "a leave", x, false, n, true)
			left(t, "another one", x, m, api.ErrState)
		}
	}
}

// P7.1, P7.2
func TestTheOtherCellsStayAsTheyAre(t *testing.T) {
	m := cell.New(6)
	for a := range 6 {
		m.Store(a, 9)
	}
	x := ticket.New()
	x.Step(m)
	x.Step(m)
	if ticket.Queue(m) != 1 || !slices.Equal(m.All(), []uint64{10, 9, 9, 9, 9, 9}) {
		t.Errorf("%v", m.All())
	}
	x.Leave(m)
	if ticket.Queue(m) != 0 || !slices.Equal(m.All(), []uint64{10, 10, 9, 9, 9, 9}) {
		t.Errorf("%v", m.All())
	}
}

// P7.1
func TestNumbersThatGoRound(t *testing.T) {
	const first = greatest - 1
	m := over(2, first, first)
	var l []*ticket.Ticket
	for i := range 5 {
		x := ticket.New()
		n := on(first, int64(i))
		stepped(t, "a first step", x, m, false, drew(n))
		is(t, "a first step", x, false, n, true)
		l = append(l, x)
		if q := ticket.Queue(m); q != uint64(i)+1 {
			t.Errorf("a queue of %d behind %d", q, i+1)
		}
	}
	for i, x := range l {
		n := on(first, int64(i))
		for _, later := range l[i+1:] {
			stepped(t, "one that waits", later, m, false, looked(n))
		}
		stepped(t, "one whose number it is", x, m, true, looked(n))
		left(t, "a leave", x, m, api.OK, went(n, on(n, 1)))
		if q := ticket.Queue(m); q != uint64(4-i) {
			t.Errorf("a queue of %d behind leave %d", q, i+1)
		}
	}
	if !slices.Equal(m.All(), []uint64{3, 3}) {
		t.Errorf("%v", m.All())
	}
}

// P7.1, P7.2
func TestANilMemory(t *testing.T) {
	var m *cell.Mem
	for range 3 {
		x := ticket.New()
		if x.Leave(m) != api.ErrState || x.Step(m) {
			t.Fatal("a new one")
		}
		// All that a nil memory answers is 0: it is number 0, and its turn.
		is(t, "waits", x, false, 0, true)
		if x.Leave(m) != api.ErrState || !x.Step(m) || !x.Step(m) {
			t.Fatal("one that waits")
		}
		is(t, "holds", x, true, 0, true)
		if x.Leave(m) != api.OK || x.Leave(m) != api.ErrState || !x.Step(m) || ticket.Queue(m) != 0 {
			t.Fatal("one that holds")
		}
		is(t, "has left", x, false, 0, true)
	}
	y := waiter(5)
	if y.Step(m) || y.Step(m) {
		t.Error("number 5")
	}
	is(t, "number 5", y, false, 5, true)
	z := holder(5)
	if z.Leave(m) != api.OK {
		t.Error("number 5 leaves")
	}
	is(t, "number 5 behind its leave", z, false, 5, true)
}

// P7.1, P7.2
func TestMemoriesWithoutBothCells(t *testing.T) {
	for _, m := range []*cell.Mem{new(cell.Mem), cell.New(0), cell.New(-1)} {
		for range 3 {
			x := ticket.New()
			stepped(t, "no cells", x, m, false)
			is(t, "no cells", x, false, 0, true)
			stepped(t, "no cells", x, m, true)
			is(t, "no cells", x, true, 0, true)
			left(t, "no cells", x, m, api.OK)
			is(t, "no cells", x, false, 0, true)
			stepped(t, "no cells, number 5", waiter(5), m, false)
			left(t, "no cells, number 5", holder(5), m, api.OK)
		}
		behind(t, "no cells", m, func() {
			if ticket.Queue(m) != 0 {
				t.Error("a queue")
			}
		})
	}
}

// P7.1, P7.2
func TestAMemoryWithTicketAlone(t *testing.T) {
	m := cell.New(1)
	a, b := ticket.New(), ticket.New()
	stepped(t, "a", a, m, false, drew(0))
	stepped(t, "b", b, m, false, drew(1))
	for range 3 {
		stepped(t, "b", b, m, false)
	}
	stepped(t, "a", a, m, true)
	left(t, "a", a, m, api.OK)
	is(t, "a", a, false, 0, true)
	stepped(t, "b", b, m, false)
	is(t, "b", b, false, 1, true)
	behind(t, "a queue", m, func() {
		if ticket.Queue(m) != 2 {
			t.Error("not 2")
		}
	}, cell.Access{Kind: cell.Load, At: given, Old: 2, New: 2})
}

// P7.1
func TestTheMemoryIsNotKept(t *testing.T) {
	m, other := over(2, 5, 5), over(2, 8, 9)
	x := ticket.New()
	stepped(t, "a first step", x, m, false, drew(5))
	stepped(t, "over another memory", x, other, false, looked(9))
	other.Store(served, 5)
	behind(t, "the first memory", m, func() {
		stepped(t, "over another memory", x, other, true, looked(5))
		left(t, "over another memory", x, other, api.OK, went(5, 6))
	})
	if !slices.Equal(m.All(), []uint64{6, 5}) || !slices.Equal(other.All(), []uint64{8, 6}) {
		t.Errorf("%v, %v", m.All(), other.All())
	}
}

// P7.2
func TestTheQueue(t *testing.T) {
	for _, ticketed := range someNumbers() {
		for _, serving := range someNumbers() {
			want := new(big.Int).Sub(new(big.Int).SetUint64(ticketed), new(big.Int).SetUint64(serving))
			want.Mod(want, new(big.Int).Lsh(big.NewInt(1), 64))
			m := over(4, ticketed, serving)
			all := m.All()
			behind(t, "a queue", m, func() {
				if q := ticket.Queue(m); q != want.Uint64() {
					t.Fatalf("%d, %d: %d", ticketed, serving, q)
				}
			}, cell.Access{Kind: cell.Load, At: given, Old: ticketed, New: ticketed}, looked(serving))
			if !slices.Equal(m.All(), all) {
				t.Fatalf("%v", m.All())
			}
		}
	}
	if ticket.Queue(nil) != 0 || ticket.Queue(cell.New(0)) != 0 {
		t.Error("without cells")
	}
}

// P7.2
func TestWhatIsAskedIsNoAccess(t *testing.T) {
	m := over(2, 3, 3)
	x := ticket.New()
	for range 3 {
		behind(t, "asked", m, func() {
			for range 3 {
				x.Holds()
				x.Number()
				x.Copy()
			}
		})
		x.Step(m)
	}
	is(t, "asked", x, true, 3, true)
}

// P7.2
func TestACopyGoesItsOwnWay(t *testing.T) {
	for _, n := range someNumbers() {
		for at, x := range []*ticket.Ticket{ticket.New(), waiter(n), holder(n), leaver(n)} {
			what := "copied at " + strconv.Itoa(at)
			holds, named, number := at == 2, at > 0, uint64(0)
			if named {
				number = n
			}
			// The first one goes on; then the other way round.
			for range 2 {
				twin := x.Copy()
				if twin == x {
					t.Fatalf("%s: the same one", what)
				}
				is(t, what, twin, holds, number, named)
				end := number
				if !named {
					end = n
				}
				through(x, n)
				is(t, what+", gone on", x, false, end, true)
				is(t, what+", the other one", twin, holds, number, named)
				x = twin.Copy()
				through(twin, n)
				is(t, what+", the other one gone on", twin, false, end, true)
				is(t, what+", the third one", x, holds, number, named)
			}
		}
	}
}

// through brings a ticket to its end, over a memory where it, or a new one, is number n.
func through(x *ticket.Ticket, n uint64) {
	m := over(2, n, n)
	for range 2 {
		x.Step(m)
	}
	x.Leave(m)
}

// P7.2
func TestACopyAnswersAsTheFirstOneWould(t *testing.T) {
	for _, n := range someNumbers() {
		for _, x := range []*ticket.Ticket{ticket.New(), waiter(n), holder(n), leaver(n)} {
			for _, serving := range []uint64{n, on(n, 1)} {
				a, b := x.Copy(), x.Copy().Copy()
				m, o := over(2, n, serving), over(2, n, serving)
				for range 3 {
					if a.Step(m) != b.Step(o) || a.Holds() != b.Holds() || !slices.Equal(m.Log(), o.Log()) {
						t.Fatalf("steps: %v, %v", m.Log(), o.Log())
					}
				}
				if a.Leave(m) != b.Leave(o) || !slices.Equal(m.Log(), o.Log()) {
					t.Fatalf("leaves: %v, %v", m.Log(), o.Log())
				}
			}
		}
	}
}

// line is several tickets over one memory, and who of them stands in the queue: a model without any numbers.
type line struct {
	m     *cell.Mem
	all   []*ticket.Ticket
	first uint64
	// Which ones had their first step, in order, and how many of these have left; whether the first one of the others holds.
	came  []int
	gone  int
	holds bool
}

// newLine is one of many tickets, over cells that both have the number first.
func newLine(many int, first uint64) *line {
	x := &line{m: over(2, first, first), first: first}
	for range many {
		x.all = append(x.all, ticket.New())
	}
	return x
}

// twin is the same, apart from this one.
func (x *line) twin() *line {
	y := *x
	y.m, y.came, y.all = x.m.Copy(), slices.Clone(x.came), nil
	for _, t := range x.all {
		y.all = append(y.all, t.Copy())
	}
	return &y
}

// place is the place of ticket i among those that came, or -1.
func (x *line) place(i int) int { return slices.Index(x.came, i) }

// step does a step of ticket i, holds it against the model, and tells whether the model is another one then.
func (x *line) step(t *testing.T, i int) bool {
	t.Helper()
	before := x.m.Ops()
	answer := x.all[i].Step(x.m)
	place, accesses, want, changed := x.place(i), uint64(0), true, false
	switch {
	case place < 0:
		x.came = append(x.came, i)
		accesses, want, changed = 1, false, true
	case place == x.gone && !x.holds:
		x.holds = true
		accesses, changed = 1, true
	case place > x.gone:
		accesses, want = 1, false
	}
	if answer != want || x.m.Ops()-before != accesses {
		t.Fatalf("came %v, %d gone, a step of %d: %t, %d accesses", x.came, x.gone, i, answer, x.m.Ops()-before)
	}
	x.hold(t)
	return changed
}

// leave does a leave of ticket i, holds it against the model, and tells whether the model is another one then.
func (x *line) leave(t *testing.T, i int) bool {
	t.Helper()
	before := x.m.Ops()
	e := x.all[i].Leave(x.m)
	want, accesses, changed := api.ErrState, uint64(0), false
	if x.holds && x.place(i) == x.gone {
		x.holds = false
		x.gone++
		want, accesses, changed = api.OK, 1, true
	}
	if e != want || x.m.Ops()-before != accesses {
		t.Fatalf("came %v, %d gone, a leave of %d: %d, %d accesses", x.came, x.gone, i, e, x.m.Ops()-before)
	}
	x.hold(t)
	return changed
}

// hold holds what follows (P7.3), and each ticket against the model.
func (x *line) hold(t *testing.T) {
	t.Helper()
	holding := 0
	numbers := map[uint64]int{}
	for i, y := range x.all {
		place := x.place(i)
		is(t, "ticket "+strconv.Itoa(i), y, x.holds && place == x.gone, x.number(place), place >= 0)
		if y.Holds() {
			holding++
		}
		if n, ok := y.Number(); ok {
			numbers[n]++
		}
	}
	if holding > 1 || len(numbers) != len(x.came) {
		t.Fatalf("came %v, %d gone: %d hold, with numbers %v", x.came, x.gone, holding, numbers)
	}
	m := x.m.Copy()
	if q := ticket.Queue(m); q != uint64(len(x.came)-x.gone) {
		t.Fatalf("came %v, %d gone: a queue of %d", x.came, x.gone, q)
	}
	// As long as none holds, the least number of those that wait has its turn.
	if holding == 0 && x.gone < len(x.came) {
		least := x.all[x.came[x.gone]].Copy()
		if !least.Step(m) || !least.Holds() {
			t.Fatalf("came %v, %d gone: the first one of the others does not hold behind its step", x.came, x.gone)
		}
	}
}

// number is the number of the ticket that came at a place; 0 of one that did not.
func (x *line) number(place int) uint64 {
	if place < 0 {
		return 0
	}
	return on(x.first, int64(place))
}

// explore tries each step and leave of all tickets, and goes on behind those that changed something.
func (x *line) explore(t *testing.T, ends map[string]int) {
	t.Helper()
	stuck := true
	for i := range x.all {
		for _, act := range []func(*line, *testing.T, int) bool{(*line).step, (*line).leave} {
			if y := x.twin(); act(y, t, i) {
				stuck = false
				y.explore(t, ends)
			}
		}
	}
	if !stuck {
		return
	}
	if x.gone != len(x.all) {
		t.Fatalf("came %v, %d gone: nobody goes on", x.came, x.gone)
	}
	order := ""
	for _, i := range x.came {
		order += strconv.Itoa(i)
	}
	ends[order]++
}

// P7.3
func TestAllInterleavings(t *testing.T) {
	orders := []int{1, 1, 2, 6, 24}
	for many, want := range orders {
		for _, first := range []uint64{0, greatest - 1, 1<<32 - 2} {
			ends := map[string]int{}
			newLine(many, first).explore(t, ends)
			if len(ends) != want {
				t.Errorf("%d tickets: %d orders, not %d", many, len(ends), want)
			}
		}
	}
}

// P7.3
func TestPlaysOfManyTickets(t *testing.T) {
	source := rand.New(rand.NewSource(1))
	for range 300 {
		x := newLine(1+source.Intn(12), []uint64{0, source.Uint64(), greatest, greatest - uint64(source.Intn(12))}[source.Intn(4)])
		for range 150 {
			i := source.Intn(len(x.all))
			// Mostly those whose turn it is, so that plays come to their ends.
			if x.gone < len(x.came) && source.Intn(2) == 0 {
				i = x.came[x.gone]
			}
			if source.Intn(3) == 0 {
				x.leave(t, i)
			} else {
				x.step(t, i)
			}
			if source.Intn(20) == 0 {
				x = x.twin()
			}
		}
	}
}

// P7.3
func TestTheyHoldInTheOrderOfTheirFirstSteps(t *testing.T) {
	const many = 1000
	x := newLine(many, greatest-500)
	order := rand.New(rand.NewSource(2)).Perm(many)
	for _, i := range order {
		if x.all[i].Step(x.m) {
			t.Fatalf("%d holds at once", i)
		}
	}
	var held []int
	for len(held) < many {
		before := len(held)
		for i, y := range x.all {
			if y.Step(x.m) && y.Holds() {
				held = append(held, i)
				if e := y.Leave(x.m); e != api.OK {
					t.Fatalf("%d: %d", i, e)
				}
			}
		}
		if len(held) == before {
			t.Fatalf("nobody of %d others holds", many-before)
		}
	}
	if !slices.Equal(held, order) || ticket.Queue(x.m) != 0 {
		t.Errorf("%v, not %v", held, order)
	}
}

// P7.1, P7.2, P7.3
func TestTheSameCallsMakeTheSame(t *testing.T) {
	made := func() *line {
		source := rand.New(rand.NewSource(3))
		x := newLine(5, 11)
		for range 200 {
			if i := source.Intn(5); source.Intn(3) == 0 {
				x.leave(t, i)
			} else {
				x.step(t, i)
			}
		}
		return x
	}
	a, b := made(), made()
	if !slices.Equal(a.m.Log(), b.m.Log()) || !slices.Equal(a.came, b.came) || a.gone != b.gone {
		t.Errorf("%v, %v", a.m.Log(), b.m.Log())
	}
}
