package cell_test

import (
	"math"
	"math/big"
	"math/rand"
	"slices"
	"strconv"
	"testing"

	"distaff/cell"
)

// greatest is the greatest number that a cell may have.
const greatest = math.MaxUint64

// logged is how many accesses a log has, by the chapter's words.
const logged = 256

// someNumbers are numbers at and beside the edges of what a cell may have.
func someNumbers() []uint64 {
	return []uint64{0, 1, 2, 3, 1<<32 - 1, 1 << 32, 1<<63 - 1, 1 << 63, 1<<63 + 1, greatest - 2, greatest - 1, greatest}
}

// strangers are addresses that a memory of n cells has not.
func strangers(n int) []int {
	return []int{math.MinInt, math.MinInt + 1, -cell.MaxCells, -n - 1, -2, -1, n, n + 1, 2*n + 1, cell.MaxCells, 1 << 32, math.MaxInt - 1, math.MaxInt}
}

// ask is one call that may be an access: what it is told beside the address are v, and w of a CAS.
type ask struct {
	kind, a int
	v, w    uint64
}

// text is an ask's, for what a test tells.
func (q ask) text() string {
	return strconv.Itoa(q.kind) + " at " + strconv.Itoa(q.a) + " of " + strconv.FormatUint(q.v, 10) + ", " + strconv.FormatUint(q.w, 10)
}

// of does the ask to a memory; what has no answer answers 0 and false.
func (q ask) of(m *cell.Mem) (uint64, bool) {
	switch q.kind {
	case 1:
		return m.Load(q.a), false
	case 2:
		m.Store(q.a, q.v)
	case 3:
		return 0, m.CAS(q.a, q.v, q.w)
	case 4:
		return m.Add(q.a, q.v), false
	}
	return 0, false
}

// model is a memory by the chapter's words: it keeps all accesses that ever were.
type model struct {
	cells []uint64
	done  []cell.Access
	count cell.Count
}

// newModel is one of n cells, which there may be.
func newModel(n int) *model { return &model{cells: make([]uint64, n)} }

// sum is a and b together, going round at 2^64, by numbers that do not go round.
func sum(a, b uint64) uint64 {
	s := new(big.Int).Add(new(big.Int).SetUint64(a), new(big.Int).SetUint64(b))
	return s.Mod(s, new(big.Int).Lsh(big.NewInt(1), 64)).Uint64()
}

// of does an ask to the model.
func (m *model) of(q ask) (uint64, bool) {
	if q.a < 0 || q.a >= len(m.cells) {
		return 0, false
	}
	old := m.cells[q.a]
	next, answer, ok := old, uint64(0), false
	switch q.kind {
	case 1:
		answer = old
		m.count.Loads++
	case 2:
		next = q.v
		m.count.Stores++
	case 3:
		if ok = old == q.v; ok {
			next = q.w
			m.count.Swaps++
		} else {
			m.count.Fails++
		}
	case 4:
		next, answer = sum(old, q.v), old
		m.count.Adds++
	}
	m.cells[q.a] = next
	m.done = append(m.done, cell.Access{Kind: q.kind, At: q.a, Old: old, New: next})
	return answer, ok
}

// log is the last accesses.
func (m *model) log() []cell.Access { return m.done[max(0, len(m.done)-logged):] }

// twin is the same model, apart from this one.
func (m *model) twin() *model {
	return &model{slices.Clone(m.cells), slices.Clone(m.done), m.count}
}

// hold holds all that a memory tells against its model, but what its cells tell when they are loaded.
func hold(t *testing.T, what string, m *cell.Mem, n *model) {
	t.Helper()
	if m.Len() != len(n.cells) || !slices.Equal(m.All(), n.cells) {
		t.Fatalf("%s: the cells are %d, %v; want %d, %v", what, m.Len(), m.All(), len(n.cells), n.cells)
	}
	if m.Ops() != uint64(len(n.done)) || m.Count() != n.count {
		t.Fatalf("%s: the counts are %d, %+v; want %d, %+v", what, m.Ops(), m.Count(), len(n.done), n.count)
	}
	if l := m.Log(); !slices.Equal(l, n.log()) {
		t.Fatalf("%s: the log has %d, %v; want %d, %v", what, len(l), l, len(n.log()), n.log())
	}
	want, wantOK := cell.Access{}, len(n.done) > 0
	if wantOK {
		want = n.done[len(n.done)-1]
	}
	if x, ok := m.Last(); x != want || ok != wantOK {
		t.Fatalf("%s: the last one is %+v, %t; want %+v, %t", what, x, ok, want, wantOK)
	}
}

// play does an ask to both, and holds the answers against each other.
func play(t *testing.T, what string, m *cell.Mem, n *model, q ask) {
	t.Helper()
	want, wantOK := n.of(q)
	if answer, ok := q.of(m); answer != want || ok != wantOK {
		t.Fatalf("%s, %s: %d, %t; want %d, %t", what, q.text(), answer, ok, want, wantOK)
	}
}

// drawn is an ask of a memory of n cells, mostly of one that there is, with numbers of which many are alike.
func drawn(source *rand.Rand, n int) ask {
	number := func() uint64 {
		switch source.Intn(8) {
		case 0:
			return source.Uint64()
		case 1:
			l := someNumbers()
			return l[source.Intn(len(l))]
		}
		return uint64(source.Intn(3))
	}
	q := ask{kind: 1 + source.Intn(4), a: source.Intn(n), v: number(), w: number()}
	if source.Intn(10) == 0 {
		l := strangers(n)
		q.a = l[source.Intn(len(l))]
	}
	return q
}

// filled is a memory whose cells have these numbers, by a store of each, and its model.
func filled(t *testing.T, l ...uint64) (*cell.Mem, *model) {
	t.Helper()
	m, n := cell.New(len(l)), newModel(len(l))
	for a, v := range l {
		play(t, "filling", m, n, ask{kind: 2, a: a, v: v})
	}
	return m, n
}

// P6.1, P6.2
func TestBoundsAndKinds(t *testing.T) {
	if cell.MaxCells != 65536 || cell.MaxLog != 256 {
		t.Errorf("%d, %d", cell.MaxCells, cell.MaxLog)
	}
	var kinds = []int{cell.Load, cell.Store, cell.CAS, cell.Add}
	if !slices.Equal(kinds, []int{1, 2, 3, 4}) {
		t.Errorf("%v", kinds)
	}
}

// P6.1, P6.2, P6.3, P6.4
func TestANilMemory(t *testing.T) {
	var m *cell.Mem
	for range 2 {
		for _, a := range append(strangers(0), 0, 1, 7) {
			for _, v := range someNumbers() {
				m.Store(a, v)
				if m.Load(a) != 0 || m.Add(a, v) != 0 || m.CAS(a, v, v) || m.CAS(a, 0, v) {
					t.Errorf("an access of %d, %d", a, v)
				}
				for kind := -1; kind < 7; kind++ {
					if n := cell.Redo(m, cell.Access{Kind: kind, At: a, New: v}, cell.Access{}); n != 0 {
						t.Errorf("Redo of kind %d of %d, %d: %d", kind, a, v, n)
					}
				}
			}
		}
		if n := cell.Redo(m); n != 0 {
			t.Errorf("Redo of none: %d", n)
		}
		if x, ok := m.Last(); x != (cell.Access{}) || ok {
			t.Errorf("Last: %+v, %t", x, ok)
		}
		if m.Ops() != 0 || m.Count() != (cell.Count{}) || len(m.Log()) != 0 || m.Len() != 0 || len(m.All()) != 0 || m.Copy() != nil {
			t.Errorf("%d, %+v, %v, %d, %v, %v", m.Ops(), m.Count(), m.Log(), m.Len(), m.All(), m.Copy())
		}
	}
}

// P6.3
func TestANilMemoryIsTheSameAsEachOneWithoutCells(t *testing.T) {
	tried := cell.New(0)
	tried.Store(0, 5)
	without := []*cell.Mem{nil, new(cell.Mem), new(cell.Mem).Copy(), cell.New(0), cell.New(-1), cell.New(math.MinInt), cell.New(0).Copy(), tried}
	for i, a := range without {
		for j, b := range without {
			if !cell.Same(a, b) {
				t.Errorf("%d, %d", i, j)
			}
		}
		for _, n := range []int{1, 2, cell.MaxCells} {
			if cell.Same(a, cell.New(n)) || cell.Same(cell.New(n), a) {
				t.Errorf("%d, and one of %d cells", i, n)
			}
		}
	}
}

// P6.1, P6.2, P6.3
func TestMemoriesWithoutCells(t *testing.T) {
	for i, m := range []*cell.Mem{new(cell.Mem), cell.New(0), cell.New(-1), cell.New(-cell.MaxCells), cell.New(math.MinInt)} {
		if m == nil {
			t.Fatalf("%d: nil", i)
		}
		name := "memory " + strconv.Itoa(i)
		n := newModel(0)
		hold(t, name, m, n)
		for _, a := range append(strangers(0), 7) {
			for kind := 1; kind <= 4; kind++ {
				play(t, name, m, n, ask{kind: kind, a: a})
				play(t, name, m, n, ask{kind: kind, a: a, v: 1, w: 2})
			}
		}
		hold(t, name+", behind asks", m, n)
		hold(t, name+", its copy", m.Copy(), n)
	}
}

// P6.1, P6.3
func TestSizes(t *testing.T) {
	for _, x := range []struct{ n, want int }{
		{math.MinInt, 0}, {math.MinInt + 1, 0}, {-65536, 0}, {-2, 0}, {-1, 0}, {0, 0}, {1, 1}, {2, 2}, {255, 255}, {256, 256}, {65535, 65535}, {65536, 65536}, {65537, 65536}, {1 << 20, 65536}, {1 << 32, 65536}, {1<<32 + 1, 65536}, {math.MaxInt - 1, 65536}, {math.MaxInt, 65536},
	} {
		m := cell.New(x.n)
		if m.Len() != x.want || !slices.Equal(m.All(), make([]uint64, x.want)) {
			t.Errorf("New(%d): %d, %d", x.n, m.Len(), len(m.All()))
			continue
		}
		hold(t, "New("+strconv.Itoa(x.n)+")", m, newModel(x.want))
	}
}

// P6.1
func TestEachCellIsApartFromTheOthers(t *testing.T) {
	for _, size := range []int{1, 2, 3, 300, 65536, 70000} {
		m := cell.New(size)
		want := make([]uint64, m.Len())
		for a := range want {
			want[a] = uint64(a)*uint64(a) + 7
			m.Store(a, want[a])
		}
		if !slices.Equal(m.All(), want) {
			t.Fatalf("%d cells", size)
		}
		for a, v := range want {
			if m.Load(a) != v {
				t.Fatalf("%d cells: at %d %d", size, a, m.Load(a))
			}
		}
	}
}

// P6.1, P6.2
func TestAddressesThatThereAreNot(t *testing.T) {
	for _, size := range []int{0, 1, 2, 5, 65535, 65536, 70000} {
		m := cell.New(size)
		n := newModel(m.Len())
		name := strconv.Itoa(size) + " cells"
		for a := max(0, m.Len()-2); a < m.Len(); a++ {
			for kind := 1; kind <= 4; kind++ {
				play(t, name, m, n, ask{kind: kind, a: a, v: 9, w: 9})
			}
		}
		hold(t, name, m, n)
		for _, a := range strangers(m.Len()) {
			for _, v := range []uint64{0, 9, greatest} {
				for kind := 1; kind <= 4; kind++ {
					play(t, name, m, n, ask{kind: kind, a: a, v: v, w: 5})
					play(t, name, m, n, ask{kind: kind, a: a, v: v, w: v})
				}
			}
		}
		hold(t, name+", behind asks of none", m, n)
	}
}

// P6.1
func TestAccessesOfNamedNumbers(t *testing.T) {
	for _, x := range []struct {
		name   string
		from   uint64
		q      ask
		answer uint64
		ok     bool
		behind uint64
	}{
		{"a load at first", 0, ask{kind: 1}, 0, false, 0},
		{"a load of the greatest", greatest, ask{kind: 1}, greatest, false, greatest},
		{"a store of 0", 7, ask{kind: 2}, 0, false, 0},
		{"a store of the greatest", 7, ask{kind: 2, v: greatest}, 0, false, greatest},
		{"a store of what stood there", 7, ask{kind: 2, v: 7}, 0, false, 7},
		{"a swap", 7, ask{kind: 3, v: 7, w: 9}, 0, true, 9},
		{"a swap that fails", 7, ask{kind: 3, v: 8, w: 9}, 0, false, 7},
		{"a swap of what is to come", 7, ask{kind: 3, v: 9, w: 7}, 0, false, 7},
		{"a swap that puts what stood there", 7, ask{kind: 3, v: 7, w: 7}, 0, true, 7},
		{"one that fails, and would put what stood there", 7, ask{kind: 3, v: 8, w: 7}, 0, false, 7},
		{"a swap of 0 by 0", 0, ask{kind: 3}, 0, true, 0},
		{"a swap of 0 by the greatest", 0, ask{kind: 3, w: greatest}, 0, true, greatest},
		{"a swap of the greatest by 0", greatest, ask{kind: 3, v: greatest}, 0, true, 0},
		{"one beside the greatest", greatest, ask{kind: 3, v: greatest - 1}, 0, false, greatest},
		{"one that is alike in 32 digits", 1<<32 + 5, ask{kind: 3, v: 5, w: 6}, 0, false, 1<<32 + 5},
		{"one that is alike but for the uppermost digit", 1<<63 + 5, ask{kind: 3, v: 5, w: 6}, 0, false, 1<<63 + 5},
		{"an add of 0", 7, ask{kind: 4}, 7, false, 7},
		{"an add of 0 to the greatest", greatest, ask{kind: 4}, greatest, false, greatest},
		{"an add of 1", 7, ask{kind: 4, v: 1}, 7, false, 8},
		{"an add up to the greatest", 7, ask{kind: 4, v: greatest - 7}, 7, false, greatest},
		{"an add just round", 7, ask{kind: 4, v: greatest - 6}, 7, false, 0},
		{"an add of 1 to the greatest", greatest, ask{kind: 4, v: 1}, greatest, false, 0},
		{"an add of the greatest to itself", greatest, ask{kind: 4, v: greatest}, greatest, false, greatest - 1},
		{"an add of the greatest: one less", 7, ask{kind: 4, v: greatest}, 7, false, 6},
		{"an add of the greatest to 0", 0, ask{kind: 4, v: greatest}, 0, false, greatest},
		{"two halves", 1 << 63, ask{kind: 4, v: 1 << 63}, 1 << 63, false, 0},
		{"an add past 32 digits", 1<<32 - 1, ask{kind: 4, v: 1}, 1<<32 - 1, false, 1 << 32},
	} {
		for a := range 3 {
			m, n := filled(t, 1000, 1000, 1000)
			play(t, x.name, m, n, ask{kind: 2, a: a, v: x.from})
			x.q.a = a
			want := slices.Clone(n.cells)
			want[a] = x.behind
			n.of(x.q)
			if answer, ok := x.q.of(m); answer != x.answer || ok != x.ok || !slices.Equal(m.All(), want) || m.Load(a) != x.behind {
				t.Errorf("%s, at %d: %d, %t, %v; want %d, %t, %v", x.name, a, answer, ok, m.All(), x.answer, x.ok, want)
			}
			n.of(ask{kind: 1, a: a})
			hold(t, x.name, m, n)
		}
	}
}

// P6.1, P6.2
func TestAllEdgesHeldAgainstTheModel(t *testing.T) {
	for _, from := range someNumbers() {
		for _, v := range someNumbers() {
			m, n := filled(t, from, 3)
			for _, w := range someNumbers() {
				for kind := 1; kind <= 4; kind++ {
					play(t, "from "+strconv.FormatUint(from, 10), m, n, ask{kind: kind, a: 0, v: v, w: w})
					hold(t, "from "+strconv.FormatUint(from, 10), m, n)
					play(t, "back", m, n, ask{kind: 2, a: 0, v: from})
				}
			}
		}
	}
}

// P6.1, P6.2
func TestTheExamples(t *testing.T) {
	m := cell.New(3)
	m.Store(1, 7)
	if !m.CAS(1, 7, 9) || m.CAS(1, 7, 8) || m.Add(1, 2) != 9 || m.Load(1) != 11 || m.Ops() != 5 {
		t.Errorf("%v, %d", m.Log(), m.Ops())
	}
	if !slices.Equal(m.Log(), []cell.Access{{Kind: 2, At: 1, Old: 0, New: 7}, {Kind: 3, At: 1, Old: 7, New: 9}, {Kind: 3, At: 1, Old: 9, New: 9}, {Kind: 4, At: 1, Old: 9, New: 11}, {Kind: 1, At: 1, Old: 11, New: 11}}) {
		t.Errorf("%v", m.Log())
	}
	m = cell.New(3)
	if m.Load(3) != 0 {
		t.Error("Load(3)")
	}
	m.Store(-1, 5)
	if m.Ops() != 0 {
		t.Errorf("%d", m.Ops())
	}
}

// P6.2
func TestCountsOfEachKind(t *testing.T) {
	m := cell.New(2)
	for i := range 20 {
		m.Load(i % 2)
		if i < 17 {
			m.Store(0, 5)
		}
		if i < 13 {
			m.CAS(0, 5, 5)
		}
		if i < 11 {
			m.CAS(1, 7, 5)
		}
		if i < 7 {
			m.Add(0, 0)
		}
		m.Load(2)
		m.Store(-1, 1)
		m.CAS(2, 0, 0)
		m.Add(2, 1)
	}
	if m.Count() != (cell.Count{Loads: 20, Stores: 17, Swaps: 13, Fails: 11, Adds: 7}) || m.Ops() != 68 {
		t.Errorf("%+v, %d", m.Count(), m.Ops())
	}
}

// P6.2
func TestWhatIsAskedIsNoAccess(t *testing.T) {
	m, n := filled(t, 5, 6)
	for range 3 {
		m.Ops()
		m.Count()
		m.Last()
		m.Log()
		m.Len()
		m.All()
		m.Copy()
		cell.Same(m, m.Copy())
		cell.Redo(m)
		cell.Redo(m, cell.Access{Kind: 1, At: 0, Old: 6, New: 6})
		hold(t, "asked", m, n)
	}
}

// P6.2
func TestTheLogPastItsBound(t *testing.T) {
	m, n := cell.New(3), newModel(3)
	for i := range 5*logged + 3 {
		what := "access " + strconv.Itoa(i)
		// All accesses differ, so that one that stands at another place is told.
		play(t, what, m, n, ask{kind: 1 + i%4, a: i % 3, v: uint64(i), w: uint64(i)})
		if i%4 != 1 {
			play(t, what, m, n, ask{kind: 2, a: 3, v: uint64(i)})
		}
		hold(t, what, m, n)
		if l := m.Log(); len(l) != min(i+1, logged) {
			t.Fatalf("%s: %d in the log", what, len(l))
		}
	}
}

// P6.2
func TestTheLogAtItsBound(t *testing.T) {
	for _, many := range []int{0, 1, 2, logged - 2, logged - 1, logged, logged + 1, 2*logged - 1, 2 * logged, 2*logged + 1, 3*logged + 100, 1000 * logged} {
		m := cell.New(1)
		for i := range many {
			m.Store(0, uint64(i)+1)
		}
		var want []cell.Access
		for i := max(0, many-logged); i < many; i++ {
			want = append(want, cell.Access{Kind: 2, Old: uint64(i), New: uint64(i) + 1})
		}
		if l := m.Log(); !slices.Equal(l, want) {
			t.Errorf("%d: %v", many, l)
		}
		x, ok := m.Last()
		if ok != (many > 0) || ok && x != want[len(want)-1] || !ok && x != (cell.Access{}) || m.Ops() != uint64(many) {
			t.Errorf("%d: %+v, %t, %d", many, x, ok, m.Ops())
		}
	}
}

// P6.2
func TestOneOrderOfAllCells(t *testing.T) {
	m := cell.New(2)
	m.Store(1, 4)
	m.Load(0)
	m.CAS(1, 4, 6)
	m.Add(0, 9)
	m.CAS(0, 8, 1)
	m.Load(1)
	if l := m.Log(); !slices.Equal(l, []cell.Access{{Kind: cell.Store, At: 1, Old: 0, New: 4}, {Kind: cell.Load, At: 0}, {Kind: cell.CAS, At: 1, Old: 4, New: 6}, {Kind: cell.Add, At: 0, Old: 0, New: 9}, {Kind: cell.CAS, At: 0, Old: 9, New: 9}, {Kind: cell.Load, At: 1, Old: 6, New: 6}}) {
		t.Errorf("%v", l)
	}
}

// P6.3
func TestACopyThatIsChanged(t *testing.T) {
	for _, many := range []int{0, 1, 2, logged - 1, logged, logged + 1, 2 * logged, 3*logged + 50} {
		source := rand.New(rand.NewSource(int64(many)))
		m, n := cell.New(4), newModel(4)
		for range many {
			// Only of cells that there are, so that as many accesses are done.
			q := drawn(source, 4)
			q.a &= 3
			play(t, "at first", m, n, q)
		}
		name := strconv.Itoa(many) + " accesses"
		c, d := m.Copy(), n.twin()
		hold(t, name+", the copy", c, d)
		if !cell.Same(m, c) || m == c {
			t.Fatalf("%s: not the same, or one", name)
		}
		for range 2*logged + 9 {
			play(t, name, c, d, drawn(source, 4))
			hold(t, name+", the copy changed", c, d)
			hold(t, name+", behind its copy", m, n)
		}
		for range 2*logged + 9 {
			play(t, name, m, n, drawn(source, 4))
			hold(t, name+", changed", m, n)
			hold(t, name+", the copy left behind", c, d)
		}
	}
}

// P6.3
func TestACopyOfACopyIsApartFromBoth(t *testing.T) {
	m, _ := filled(t, 5, 6)
	c := m.Copy()
	d := c.Copy()
	m.Store(0, 1)
	c.Add(0, 1)
	c.Add(1, 1)
	if !slices.Equal(m.All(), []uint64{1, 6}) || !slices.Equal(c.All(), []uint64{6, 7}) || !slices.Equal(d.All(), []uint64{5, 6}) || m.Ops() != 3 || c.Ops() != 4 || d.Ops() != 2 {
		t.Errorf("%v, %v, %v", m.All(), c.All(), d.All())
	}
	if len(m.Log()) != 3 || len(c.Log()) != 4 || len(d.Log()) != 2 || m.Count().Adds != 0 || c.Count().Adds != 2 || d.Count().Adds != 0 {
		t.Errorf("%v, %v, %v", m.Log(), c.Log(), d.Log())
	}
}

// P6.3
func TestACopyOfTheGreatestMemory(t *testing.T) {
	m := cell.New(math.MaxInt)
	m.Store(0, 1)
	m.Store(65535, 2)
	c := m.Copy()
	if c.Len() != 65536 || !cell.Same(m, c) || c.Load(65535) != 2 || c.Ops() != 3 || m.Ops() != 2 {
		t.Errorf("%d, %d, %d", c.Len(), c.Ops(), m.Ops())
	}
	c.Store(65535, 3)
	if cell.Same(m, c) || m.Load(65535) != 2 {
		t.Error("not apart")
	}
}

// P6.3
func TestSame(t *testing.T) {
	with := func(l ...uint64) *cell.Mem {
		m, _ := filled(t, l...)
		return m
	}
	loaded := with(1, 2)
	for range 300 {
		loaded.Load(0)
	}
	otherWay := cell.New(2)
	otherWay.Add(1, 1)
	otherWay.Add(0, 1)
	otherWay.CAS(1, 1, 2)
	for _, x := range []struct {
		name string
		a, b *cell.Mem
		want bool
	}{
		{"noughts", cell.New(2), cell.New(2), true},
		{"noughts that were stored", cell.New(2), with(0, 0), true},
		{"the same stored", with(1, 2), with(1, 2), true},
		{"more done to one", with(1, 2), loaded, true},
		{"done in another way", with(1, 2), otherWay, true},
		{"none done to one", cell.New(2), with(0, 0).Copy(), true},
		{"the first one differs", with(1, 2), with(3, 2), false},
		{"the last one differs", with(1, 2), with(1, 3), false},
		{"the uppermost digit differs", with(1, 2), with(1, 2+1<<63), false},
		{"in another order", with(1, 2), with(2, 1), false},
		{"one cell more", with(1, 2), with(1, 2, 0), false},
		{"one cell more, of noughts", cell.New(1), cell.New(2), false},
		{"the same accesses, another size", with(0), cell.New(0), false},
		{"nil and a cell", nil, cell.New(1), false},
		{"the greatest", cell.New(65536), cell.New(65537), true},
		{"one less than the greatest", cell.New(65535), cell.New(65536), false},
	} {
		if cell.Same(x.a, x.b) != x.want || cell.Same(x.b, x.a) != x.want {
			t.Errorf("%s: %t, %t; want %t", x.name, cell.Same(x.a, x.b), cell.Same(x.b, x.a), x.want)
		}
		if !cell.Same(x.a, x.a) || !cell.Same(x.b, x.b) {
			t.Errorf("%s: not the same as itself", x.name)
		}
	}
}

// redone holds a Redo on a copy of a memory against its model: the asks that it is the same as, up to where it is to stop.
func redone(t *testing.T, name string, m *cell.Mem, n *model, l []cell.Access, asks []ask) {
	t.Helper()
	c, d := m.Copy(), n.twin()
	for _, q := range asks {
		d.of(q)
	}
	if many := cell.Redo(c, l...); many != len(asks) {
		t.Fatalf("%s: %d; want %d", name, many, len(asks))
	}
	hold(t, name, c, d)
	hold(t, name+", the first one", m, n)
}

// P6.4
func TestRedoOfNamedAccesses(t *testing.T) {
	m, n := filled(t, 5, 0, greatest)
	for _, x := range []struct {
		name string
		l    []cell.Access
		asks []ask
	}{
		{"nil", nil, nil},
		{"none", []cell.Access{}, nil},
		{"a load", []cell.Access{{Kind: 1, At: 0, Old: 5, New: 5}}, []ask{{kind: 1, a: 0}}},
		{"a store", []cell.Access{{Kind: 2, At: 0, Old: 5, New: 8}}, []ask{{kind: 2, a: 0, v: 8}}},
		{"a store of what stands there", []cell.Access{{Kind: 2, At: 0, Old: 5, New: 5}}, []ask{{kind: 2, a: 0, v: 5}}},
		{"a CAS", []cell.Access{{Kind: 3, At: 0, Old: 5, New: 8}}, []ask{{kind: 3, a: 0, v: 5, w: 8}}},
		{"a CAS of what stands there, as one that failed tells", []cell.Access{{Kind: 3, At: 0, Old: 5, New: 5}}, []ask{{kind: 3, a: 0, v: 5, w: 5}}},
		{"an add", []cell.Access{{Kind: 4, At: 0, Old: 5, New: 8}}, []ask{{kind: 4, a: 0, v: 3}}},
		{"an add of 0", []cell.Access{{Kind: 4, At: 0, Old: 5, New: 5}}, []ask{{kind: 4, a: 0}}},
		{"an add that goes round", []cell.Access{{Kind: 4, At: 0, Old: 5, New: 4}}, []ask{{kind: 4, a: 0, v: greatest}}},
		{"an add of the greatest round to 0", []cell.Access{{Kind: 4, At: 2, Old: greatest, New: 0}}, []ask{{kind: 4, a: 2, v: 1}}},
		{"an add from 0 up to the greatest", []cell.Access{{Kind: 4, At: 1, Old: 0, New: greatest}}, []ask{{kind: 4, a: 1, v: greatest}}},
		{"of all kinds, one behind the other", []cell.Access{{Kind: 1, At: 0, Old: 5, New: 5}, {Kind: 2, At: 0, Old: 5, New: 3}, {Kind: 3, At: 0, Old: 3, New: 7}, {Kind: 4, At: 0, Old: 7, New: 2}, {Kind: 1, At: 0, Old: 2, New: 2}},
			[]ask{{kind: 1}, {kind: 2, v: 3}, {kind: 3, v: 3, w: 7}, {kind: 4, v: greatest - 4}, {kind: 1}}},
		{"a zero one", []cell.Access{{}}, nil},
		{"a zero one, of a cell of 0", []cell.Access{{At: 1}}, nil},
		{"kind 0", []cell.Access{{Kind: 0, At: 0, Old: 5, New: 5}}, nil},
		{"kind 5", []cell.Access{{Kind: 5, At: 0, Old: 5, New: 5}}, nil},
		{"kind -1", []cell.Access{{Kind: -1, At: 0, Old: 5, New: 5}}, nil},
		{"the least kind of all", []cell.Access{{Kind: math.MinInt, At: 0, Old: 5, New: 5}}, nil},
		{"the greatest kind of all", []cell.Access{{Kind: math.MaxInt, At: 0, Old: 5, New: 5}}, nil},
		{"a kind that is one in 32 digits", []cell.Access{{Kind: 1<<32 + 1, At: 0, Old: 5, New: 5}}, nil},
		{"no such address, -1", []cell.Access{{Kind: 1, At: -1}}, nil},
		{"no such address, the length", []cell.Access{{Kind: 2, At: 3, New: 1}}, nil},
		{"no such address, the least", []cell.Access{{Kind: 3, At: math.MinInt}}, nil},
		{"no such address, the greatest", []cell.Access{{Kind: 4, At: math.MaxInt}}, nil},
		{"a load of what does not stand there", []cell.Access{{Kind: 1, At: 0, Old: 4, New: 4}}, nil},
		{"a store over what does not stand there", []cell.Access{{Kind: 2, At: 0, Old: 4, New: 9}}, nil},
		{"a store of what stands there, over what does not", []cell.Access{{Kind: 2, At: 0, Old: 4, New: 5}}, nil},
		{"a CAS of what does not stand there", []cell.Access{{Kind: 3, At: 0, Old: 4, New: 9}}, nil},
		{"a CAS that answered false, told as none is", []cell.Access{{Kind: 3, At: 0, Old: 4, New: 4}}, nil},
		{"an add to what does not stand there", []cell.Access{{Kind: 4, At: 0, Old: 4, New: 9}}, nil},
		{"Old that differs in the uppermost digit", []cell.Access{{Kind: 2, At: 1, Old: 1 << 63, New: 9}}, nil},
		{"a load whose New is another one", []cell.Access{{Kind: 1, At: 0, Old: 5, New: 6}}, nil},
		{"a load whose New stands there, and Old not", []cell.Access{{Kind: 1, At: 0, Old: 6, New: 5}}, nil},
		{"a load whose New is 0", []cell.Access{{Kind: 1, At: 0, Old: 5}}, nil},
		{"one, then a kind that is none, then one", []cell.Access{{Kind: 2, At: 0, Old: 5, New: 8}, {Kind: 7, At: 0, Old: 8, New: 8}, {Kind: 2, At: 0, Old: 8, New: 9}}, []ask{{kind: 2, v: 8}}},
		{"two, then no such address, then one", []cell.Access{{Kind: 4, At: 0, Old: 5, New: 6}, {Kind: 1, At: 1}, {Kind: 2, At: 3}, {Kind: 2, At: 1, New: 9}}, []ask{{kind: 4, v: 1}, {kind: 1, a: 1}}},
		{"one, then Old as it was ahead of it", []cell.Access{{Kind: 3, At: 0, Old: 5, New: 6}, {Kind: 3, At: 0, Old: 5, New: 7}, {Kind: 3, At: 0, Old: 6, New: 7}}, []ask{{kind: 3, v: 5, w: 6}}},
		{"one, then a load that could not have been, then one", []cell.Access{{Kind: 2, At: 0, Old: 5, New: 8}, {Kind: 1, At: 0, Old: 8, New: 5}, {Kind: 1, At: 0, Old: 8, New: 8}}, []ask{{kind: 2, v: 8}}},
		{"the last one can't be", []cell.Access{{Kind: 1, At: 1}, {Kind: 1, At: 1}, {Kind: 1, At: 1}, {Kind: 1, At: 1, New: 1}}, []ask{{kind: 1, a: 1}, {kind: 1, a: 1}, {kind: 1, a: 1}}},
	} {
		redone(t, x.name, m, n, x.l, x.asks)
	}
}

// P6.4
func TestRedoOfAllKindsAndNumbers(t *testing.T) {
	few := []uint64{0, 1, greatest}
	m, n := filled(t, 1, 0)
	for kind := -1; kind <= 6; kind++ {
		for at := -1; at <= 2; at++ {
			for _, old := range few {
				for _, next := range few {
					x := cell.Access{Kind: kind, At: at, Old: old, New: next}
					var asks []ask
					if kind >= 1 && kind <= 4 && at >= 0 && at < 2 && old == n.cells[at] && (kind != 1 || next == old) {
						asks = []ask{map[int]ask{1: {kind: 1, a: at}, 2: {kind: 2, a: at, v: next}, 3: {kind: 3, a: at, v: old, w: next}, 4: {kind: 4, a: at, v: next - old}}[kind]}
					}
					redone(t, "one access", m, n, []cell.Access{x}, asks)
				}
			}
		}
	}
}

// P6.4
func TestRedoOfMoreThanALogHas(t *testing.T) {
	var l []cell.Access
	var asks []ask
	for i := range uint64(1000) {
		l = append(l, cell.Access{Kind: 4, At: 1, Old: i, New: i + 1})
		asks = append(asks, ask{kind: 4, a: 1, v: 1})
	}
	redone(t, "a thousand", cell.New(2), newModel(2), l, asks)
	l[700].Old++
	redone(t, "seven hundred", cell.New(2), newModel(2), l, asks[:700])
}

// P6.4
func TestRedoOfAMemorysOwnLog(t *testing.T) {
	m := cell.New(1)
	m.Load(0)
	m.Store(0, 0)
	if many := cell.Redo(m, m.Log()...); many != 2 || m.Ops() != 4 || len(m.Log()) != 4 {
		t.Errorf("%d, %v", many, m.Log())
	}
}

// P6.4, P6.5
func TestWhatIsHandedInIsOnlyRead(t *testing.T) {
	room := make([]cell.Access, 8)
	for i := range room {
		room[i] = cell.Access{Kind: 4, At: 0, Old: uint64(i), New: uint64(i) + 1}
	}
	kept := slices.Clone(room)
	for to := range room {
		m := cell.New(1)
		if many := cell.Redo(m, room[:to]...); many != to {
			t.Errorf("%d of %d", many, to)
		}
		before := m.Log()
		for i := range to {
			room[i] = cell.Access{Kind: 77}
		}
		if !slices.Equal(m.Log(), before) {
			t.Errorf("%d: kept: %v", to, m.Log())
		}
		copy(room, kept[:to])
		if !slices.Equal(room, kept) {
			t.Fatalf("%d: changed: %v", to, room)
		}
	}
}

// P6.3, P6.5
func TestSameAndRedoLeaveWhatTheyOnlyRead(t *testing.T) {
	a, n := filled(t, 1, 2)
	b, o := filled(t, 1, 3)
	for range 3 {
		cell.Same(a, b)
		cell.Same(b, a)
		cell.Same(a, nil)
		cell.Redo(a, cell.Access{Kind: 1, At: 0, Old: 9, New: 9})
	}
	hold(t, "the one", a, n)
	hold(t, "the other", b, o)
}

// spoil overwrites an answer, and what lies behind its length.
func spoil[T any](l []T, by T) {
	l = l[:cap(l)]
	for i := range l {
		l[i] = by
	}
}

// P6.5
func TestWhatIsAnsweredIsNewMemory(t *testing.T) {
	for _, many := range []int{0, 1, 3, logged - 1, logged, logged + 1, 3*logged + 7} {
		for _, size := range []int{1, 2, 5, 300} {
			m, n := cell.New(size), newModel(size)
			for i := range many {
				play(t, "at first", m, n, ask{kind: 1 + i%4, a: i % size, v: uint64(i), w: 3})
			}
			name := strconv.Itoa(many) + " accesses of " + strconv.Itoa(size) + " cells"
			log, all, logs, alls, twin := m.Log(), m.All(), m.Log(), m.All(), m.Copy()
			spoil(log, cell.Access{Kind: 77, At: 77, Old: 77, New: 77})
			spoil(all, 77)
			_ = append(log[:len(log)/2], cell.Access{Kind: 88})
			_ = append(all[:len(all)/2], 88)
			hold(t, name+", answers written", m, n)
			hold(t, name+", the copy", twin, n)
			if !slices.Equal(logs, n.log()) || !slices.Equal(alls, n.cells) {
				t.Fatalf("%s, other answers: %v, %v", name, logs, alls)
			}
			before := n.twin()
			for i := range logged + 3 {
				play(t, name, m, n, ask{kind: 2, a: i % size, v: 1000 + uint64(i)})
			}
			hold(t, name+", changed", m, n)
			if !slices.Equal(logs, before.log()) || !slices.Equal(alls, before.cells) {
				t.Fatalf("%s, what was answered ahead: %v, %v", name, logs, alls)
			}
		}
	}
}

// P6.5
func TestEachMemoryIsNew(t *testing.T) {
	a, b := cell.New(3), cell.New(3)
	a.Store(1, 5)
	if b.Ops() != 0 || b.Load(1) != 0 || len(a.Log()) != 1 || cell.Same(a, b) {
		t.Errorf("%v, %v", a.Log(), b.Log())
	}
}

// P6.1, P6.2, P6.3
func TestPlaysOfAllCalls(t *testing.T) {
	source := rand.New(rand.NewSource(1))
	for i := range 200 {
		size := 1 + source.Intn(6)
		m, n := cell.New(size), newModel(size)
		for step := range 600 {
			what := "play " + strconv.Itoa(i) + ", step " + strconv.Itoa(step)
			play(t, what, m, n, drawn(source, size))
			if source.Intn(40) == 0 {
				m = m.Copy()
			}
			if step%7 == 0 || step > 590 {
				hold(t, what, m, n)
			}
		}
	}
}

// P6.6
func TestALogDoneAgainMakesTheMemoryTheSame(t *testing.T) {
	source := rand.New(rand.NewSource(2))
	for i := range 300 {
		size := 1 + source.Intn(4)
		first := cell.New(size)
		// Some begin with what is not 0.
		for range (i % 3) * source.Intn(5) {
			drawn(source, size).of(first)
		}
		from := first.Ops()
		m := first.Copy()
		for m.Ops() < logged && source.Intn(60) != 0 {
			drawn(source, size).of(m)
		}
		l := m.Log()[from:]
		whole := first.Copy()
		if many := cell.Redo(whole, l...); many != len(l) || !cell.Same(whole, m) || !slices.Equal(whole.Log(), m.Log()) {
			t.Fatalf("play %d: %d of %d, %v, not %v", i, many, len(l), whole.All(), m.All())
		}
		for cut := range len(l) + 1 {
			parts := first.Copy()
			if many := cell.Redo(parts, l[:cut]...); many != cut {
				t.Fatalf("play %d, cut at %d: %d", i, cut, many)
			}
			if many := cell.Redo(parts, l[cut:]...); many != len(l)-cut || !cell.Same(parts, m) {
				t.Fatalf("play %d, cut at %d: %d of %d, %v, not %v", i, cut, many, len(l)-cut, parts.All(), m.All())
			}
		}
	}
}

// P6.6
func TestALogOfAllItMayHaveDoneAgain(t *testing.T) {
	source := rand.New(rand.NewSource(3))
	for _, many := range []int{logged - 1, logged} {
		m := cell.New(2)
		for m.Ops() < uint64(many) {
			drawn(source, 2).of(m)
		}
		again := cell.New(2)
		if n := cell.Redo(again, m.Log()...); n != many || !cell.Same(again, m) {
			t.Errorf("%d: %d, %v, %v", many, n, again.All(), m.All())
		}
	}
}

// P6.6
func TestOfTwoSwapsOfTheSameNumberTheSecondFails(t *testing.T) {
	for _, old := range someNumbers() {
		for _, first := range someNumbers() {
			for _, second := range someNumbers() {
				for between := range 4 {
					m, _ := filled(t, old, old)
					if !m.CAS(0, old, first) {
						t.Fatalf("%d: the first one failed", old)
					}
					// Accesses that change nothing of this cell.
					for i := range between {
						m.Load(0)
						m.Add(0, 0)
						m.CAS(0, first+1, 9)
						m.Store(1, uint64(i))
					}
					if ok := m.CAS(0, old, second); ok != (first == old) {
						t.Fatalf("%d, %d, %d: %t", old, first, second, ok)
					}
				}
			}
		}
	}
}

// P6.6
func TestASwapBehindOneThatFailedFailsAsWell(t *testing.T) {
	m, _ := filled(t, 5)
	if m.CAS(0, 4, 9) || m.CAS(0, 4, 9) || m.Load(0) != 5 || m.Count().Fails != 2 {
		t.Errorf("%v", m.Log())
	}
	m.Store(0, 4)
	if !m.CAS(0, 4, 9) || m.CAS(0, 4, 9) {
		t.Errorf("%v", m.Log())
	}
}

// P6.1, P6.2, P6.3, P6.4
func TestTheSameCallsMakeTheSameMemory(t *testing.T) {
	made := func() *cell.Mem {
		source := rand.New(rand.NewSource(4))
		m := cell.New(3)
		for range 700 {
			drawn(source, 3).of(m)
		}
		cell.Redo(m, m.Log()...)
		return m
	}
	a, b := made(), made()
	x, xOK := a.Last()
	y, yOK := b.Last()
	if !cell.Same(a, b) || !slices.Equal(a.Log(), b.Log()) || a.Count() != b.Count() || a.Ops() != b.Ops() || x != y || xOK != yOK {
		t.Errorf("%v, %v", a.Log(), b.Log())
	}
}
