package deque_test

import (
	"math"
	"math/rand"
	"slices"
	"strconv"
	"testing"

	"distaff/api"
	"distaff/deque"
)

// someRooms are all that there are.
var someRooms = []int{2, 4, 8, 16, 32, 64, 128, 256, 512, 1024, 2048, 4096, 8192, 16384, 32768, 65536}

// fewRooms are those of configs.
var fewRooms = []int{2, 4, 8, 16, 32, 64}

var someThatAreNoRooms = []int{math.MinInt, math.MinInt + 1, -1 << 32, -65536, -4, -2, -1, 0, 1, 3, 5, 6, 7, 9, 10, 12, 24, 63, 65, 65535, 65537, 98304, 131072, 1<<31 - 1, 1 << 31, 1 << 32, 1<<32 + 2, 1<<32 + 4, 1 << 62, math.MaxInt - 1, math.MaxInt}

// someNumbers are what may stand in a deque: any ints.
var someNumbers = []int{0, 1, -1, 255, -2, 1 << 31, -1 << 31, 1 << 32, math.MaxInt, math.MinInt}

// model is a deque by the chapter's words: a room, and a row.
type model struct {
	q int
	l []int
}

func newModel(q int, l ...int) *model {
	m := &model{q: q}
	m.lay(l)
	return m
}

// text is a model's, for what a test tells.
func (m *model) text() string {
	s := "room " + strconv.Itoa(m.q) + ":"
	for _, g := range m.l[:min(len(m.l), 12)] {
		s += " " + strconv.Itoa(g)
	}
	if len(m.l) > 12 {
		s += " .. of " + strconv.Itoa(len(m.l))
	}
	return s
}

func (m *model) put(g int) []int {
	if len(m.l) < m.q {
		m.l = append(m.l, g)
		return nil
	}
	kept := m.q - m.q/2
	over := append(slices.Clone(m.l[kept:]), g)
	m.l = slices.Clone(m.l[:kept])
	return over
}

func (m *model) lay(l []int) int {
	for i, g := range l {
		if len(m.l) == m.q {
			return i
		}
		m.l = append(m.l, g)
	}
	return len(l)
}

func (m *model) get() (int, bool) {
	if len(m.l) == 0 {
		return 0, false
	}
	g := m.l[0]
	m.l = slices.Clone(m.l[1:])
	return g, true
}

// steal takes the greater half, counted one by one.
func (m *model) steal() []int {
	n := 0
	for n < len(m.l)-n {
		n++
	}
	l := slices.Clone(m.l[:n])
	m.l = slices.Clone(m.l[n:])
	return l
}

// ahead counts who is older than the oldest g.
func (m *model) ahead(g int) int {
	for i, x := range m.l {
		if x == g {
			return i
		}
	}
	return -1
}

func (m *model) twin() *model { return &model{m.q, slices.Clone(m.l)} }

// hold holds all that a deque tells against its model.
func hold(t *testing.T, what string, d *deque.Deque, m *model) {
	t.Helper()
	if d.Room() != m.q || d.Len() != len(m.l) || !slices.Equal(d.All(), m.l) {
		t.Fatalf("%s: %d in it, %s; want %d, %s", what, d.Len(), (&model{d.Room(), d.All()}).text(), len(m.l), m.text())
	}
}

// made is a deque of a model's room and row, whose oldest number stands in whichever slot: as many came and went ahead of it.
func made(t *testing.T, m *model, gone int) *deque.Deque {
	t.Helper()
	d, e := deque.New(m.q)
	if d == nil || e != api.OK {
		t.Fatalf("room %d: error %d", m.q, e)
	}
	for range gone {
		d.Put(-77)
		d.Get()
	}
	if n := d.Lay(m.l...); n != len(m.l) {
		t.Fatalf("%s: %d were laid", m.text(), n)
	}
	hold(t, "made", d, m)
	return d
}

// upTo is n numbers from the first on, rising.
func upTo(first, n int) []int {
	l := make([]int, n)
	for i := range l {
		l[i] = first + i
	}
	return l
}

// sizes are how many may be in a room of q: all of a small one, the edges of a great one.
func sizes(q int) []int {
	switch {
	case q <= 16:
		return upTo(0, q+1)
	case q <= 1024:
		return []int{0, 1, 2, 3, q/2 - 1, q / 2, q/2 + 1, q - 3, q - 2, q - 1, q}
	}
	return []int{0, 3, q/2 + 1, q - 1, q}
}

// places are where the oldest of a room of q may stand: fewer of a great one, so that the tests do not last.
func places(q int) []int {
	if q <= 1024 {
		return []int{0, 1, q / 2, q - 1}
	}
	return []int{q - 1}
}

// often is how often a call is done again, of n times, in a room of q: less often in a great one.
func often(n, q int) int {
	if q <= 1024 {
		return n
	}
	return min(n, 4)
}

// each goes over deques of all rooms, and of the sizes of each, wherever their oldest stands, with their models.
func each(t *testing.T, visit func(what string, d *deque.Deque, m *model)) {
	t.Helper()
	for _, q := range someRooms {
		for _, n := range sizes(q) {
			for _, gone := range places(q) {
				m := newModel(q, upTo(100, n)...)
				visit(m.text()+", behind "+strconv.Itoa(gone), made(t, m, gone), m)
			}
		}
	}
}

// P8.1
func TestNew(t *testing.T) {
	for _, q := range someRooms {
		for _, n := range append(sizes(q), q+1, q+2, 2*q, 2*q+1) {
			l := upTo(-3, n)
			d, e := deque.New(q, l...)
			if d == nil || e != api.OK {
				t.Fatalf("room %d, %d numbers: error %d", q, n, e)
			}
			hold(t, "new", d, &model{q, l[:min(n, q)]})
		}
	}
}

// P8.1
func TestNewOfNone(t *testing.T) {
	for _, l := range [][]int{nil, {}, make([]int, 0, 9)} {
		for _, q := range fewRooms {
			d, e := deque.New(q, l...)
			if e != api.OK {
				t.Fatalf("room %d: error %d", q, e)
			}
			hold(t, "of none", d, &model{q: q})
		}
	}
}

// P8.1
func TestNewOfAnyNumbers(t *testing.T) {
	d, e := deque.New(16, someNumbers...)
	if e != api.OK {
		t.Fatal(e)
	}
	hold(t, "any numbers", d, &model{16, someNumbers})
	for i, g := range someNumbers {
		if d.Ahead(g) != i {
			t.Errorf("%d ahead of %d, not %d", d.Ahead(g), g, i)
		}
	}
	for _, want := range someNumbers {
		if g, ok := d.Get(); g != want || !ok {
			t.Errorf("%d, %t; want %d", g, ok, want)
		}
	}
}

// P8.1
func TestNewOfWhatIsNoRoom(t *testing.T) {
	for _, q := range someThatAreNoRooms {
		for _, l := range [][]int{nil, {}, {1}, upTo(0, 9)} {
			if d, e := deque.New(q, l...); d != nil || e != api.ErrArg {
				t.Fatalf("room %d, %v: error %d, and a deque: %t", q, l, e, d != nil)
			}
		}
	}
}

// P8.1
func TestAllRoomsThereAre(t *testing.T) {
	for q := -300; q <= 1100; q++ {
		want := api.ErrArg
		if slices.Contains(someRooms, q) {
			want = api.OK
		}
		if _, e := deque.New(q); e != want {
			t.Errorf("room %d: error %d, not %d", q, e, want)
		}
	}
}

// P8.1
func TestAhead(t *testing.T) {
	each(t, func(what string, d *deque.Deque, m *model) {
		edges := append(upTo(98, 5), 100+len(m.l)/2, 98+len(m.l), 99+len(m.l), 100+len(m.l), -77, 0, -1, math.MinInt, math.MaxInt)
		for _, g := range edges {
			if n := d.Ahead(g); n != m.ahead(g) {
				t.Fatalf("%s: %d ahead of %d, not %d", what, n, g, m.ahead(g))
			}
		}
		hold(t, what+", behind Ahead", d, m)
	})
}

// P8.1
func TestAheadOfOneThatStandsInItSeveralTimes(t *testing.T) {
	for gone := range 9 {
		d := made(t, newModel(8, 5, 7, 5, 7, 7, 9, 5, 9), gone)
		for g, want := range map[int]int{5: 0, 7: 1, 9: 5, 8: -1, 0: -1} {
			if n := d.Ahead(g); n != want {
				t.Errorf("behind %d: %d ahead of %d, not %d", gone, n, g, want)
			}
		}
		// The oldest 5 goes: the next one of them is counted.
		d.Get()
		for g, want := range map[int]int{5: 1, 7: 0, 9: 4} {
			if n := d.Ahead(g); n != want {
				t.Errorf("behind %d and a Get: %d ahead of %d, not %d", gone, n, g, want)
			}
		}
	}
}

// P8.1
func TestAheadOfOneThatWent(t *testing.T) {
	d := made(t, newModel(4, 1, 2, 3, 4), 0)
	d.Get()
	d.Put(5)
	d.Put(6)
	for g, want := range map[int]int{1: -1, 2: 0, 3: 1, 4: -1, 5: -1, 6: -1} {
		if n := d.Ahead(g); n != want {
			t.Errorf("%d ahead of %d, not %d", n, g, want)
		}
	}
	d.Steal()
	if d.Ahead(2) != -1 || d.Ahead(3) != 0 {
		t.Errorf("%v", d.All())
	}
	d.Get()
	if d.Ahead(3) != -1 || d.Len() != 0 || len(d.All()) != 0 {
		t.Errorf("%v", d.All())
	}
}

// changes are all calls that may change a deque.
func changes() map[string]func(d *deque.Deque) {
	return map[string]func(d *deque.Deque){
		"Put":   func(d *deque.Deque) { d.Put(-5) },
		"Lay":   func(d *deque.Deque) { d.Lay(-6, -7) },
		"Get":   func(d *deque.Deque) { d.Get() },
		"Steal": func(d *deque.Deque) { d.Steal() },
		"Move": func(d *deque.Deque) {
			to, _ := deque.New(4)
			deque.Move(d, to)
		},
		"Get, Put": func(d *deque.Deque) {
			d.Get()
			d.Put(-8)
		},
		"Steal, Lay": func(d *deque.Deque) { d.Lay(d.Steal()...) },
	}
}

// P8.1
func TestACopyIsApart(t *testing.T) {
	for _, q := range fewRooms {
		for _, n := range sizes(q) {
			for _, gone := range []int{0, q - 1} {
				for name, change := range changes() {
					m := newModel(q, upTo(1, n)...)
					first := made(t, m, gone)
					second := first.Copy()
					what := name + ", " + m.text()
					if second == nil || second == first {
						t.Fatalf("%s: no copy", what)
					}
					hold(t, what+": the copy", second, m)
					change(second)
					hold(t, what+": the first one, behind a change of its copy", first, m)
					second = first.Copy()
					change(first)
					hold(t, what+": the copy, behind a change of the first one", second, m)
				}
			}
		}
	}
}

// P8.1
func TestACopyGoesTheSameWay(t *testing.T) {
	source := rand.New(rand.NewSource(1))
	for range 200 {
		q := fewRooms[source.Intn(len(fewRooms))]
		m := newModel(q, upTo(1, source.Intn(q+1))...)
		first := made(t, m, source.Intn(q+1))
		second := first.Copy()
		twin := m.twin()
		seed := source.Int63()
		play(t, rand.New(rand.NewSource(seed)), first, m, 60)
		play(t, rand.New(rand.NewSource(seed)), second, twin, 60)
		if !deque.Same(first, second) {
			t.Fatalf("%v, %v", first.All(), second.All())
		}
	}
}

// P8.1
func TestSame(t *testing.T) {
	rows := [][]int{nil, {1}, {2}, {0}, {1, 2}, {2, 1}, {1, 1}, {0, 0}, {1, 2, 3}, {1, 2, 4}, {3, 2, 1}, {1, 2, 3, 4}, {1, 2, 3, 0}, {1, 2, 3, 4, 5}}
	var models []*model
	for _, q := range []int{2, 4, 8, 16} {
		for _, l := range rows {
			if len(l) <= q {
				models = append(models, &model{q, l})
			}
		}
	}
	for i, m := range models {
		for j, n := range models {
			for _, gone := range []int{0, 1, 3} {
				a, b := made(t, m, gone), made(t, n, 0)
				if deque.Same(a, b) != (i == j) || deque.Same(b, a) != (i == j) {
					t.Fatalf("%s, %s: %t, %t", m.text(), n.text(), deque.Same(a, b), deque.Same(b, a))
				}
				hold(t, "held against another", a, m)
				hold(t, "held against another", b, n)
			}
		}
	}
}

// P8.1
func TestSameOfOneAndItsChanges(t *testing.T) {
	each(t, func(what string, d *deque.Deque, m *model) {
		if !deque.Same(d, d) || !deque.Same(d, d.Copy()) || !deque.Same(d, made(t, m, 3)) {
			t.Fatalf("%s: not the same as itself", what)
		}
		if deque.Same(d, nil) || deque.Same(nil, d) {
			t.Fatalf("%s: the same as a nil one", what)
		}
		if len(m.l) == 0 {
			return
		}
		less := d.Copy()
		less.Get()
		if deque.Same(d, less) || deque.Same(less, d) {
			t.Fatalf("%s: the same as one without its oldest", what)
		}
		other := made(t, newModel(m.q, append(slices.Clone(m.l[:len(m.l)-1]), -1)...), 0)
		if deque.Same(d, other) || deque.Same(other, d) {
			t.Fatalf("%s: the same as one with another youngest", what)
		}
	})
}

// P8.1, P8.2, P8.3, P8.4
func TestANilDeque(t *testing.T) {
	var d *deque.Deque
	for range 3 {
		if l := d.Put(3); len(l) != 0 {
			t.Errorf("Put: %v", l)
		}
		if n := d.Lay(1, 2); n != 0 || d.Lay() != 0 {
			t.Errorf("Lay: %d", n)
		}
		if g, ok := d.Get(); g != 0 || ok {
			t.Errorf("Get: %d, %t", g, ok)
		}
		if l := d.Steal(); len(l) != 0 {
			t.Errorf("Steal: %v", l)
		}
		if d.Room() != 0 || d.Len() != 0 || len(d.All()) != 0 {
			t.Errorf("%d, %d, %v", d.Room(), d.Len(), d.All())
		}
		for _, g := range someNumbers {
			if n := d.Ahead(g); n != -1 {
				t.Errorf("Ahead(%d): %d", g, n)
			}
		}
		if d.Copy() != nil {
			t.Error("a copy")
		}
		if !deque.Same(nil, nil) || !deque.Same(d, d.Copy()) {
			t.Error("not the same as a nil one")
		}
		if g, ok := deque.Move(d, nil); g != 0 || ok {
			t.Errorf("Move: %d, %t", g, ok)
		}
	}
}

// P8.1, P8.2, P8.3, P8.4: a zero one has nothing, and no room.
func TestAZeroDeque(t *testing.T) {
	var d deque.Deque
	none := &model{}
	hold(t, "zero", &d, none)
	if l := d.Put(3); !slices.Equal(l, []int{3}) {
		t.Errorf("Put: %v", l)
	}
	if n := d.Lay(1, 2); n != 0 {
		t.Errorf("Lay: %d", n)
	}
	if g, ok := d.Get(); g != 0 || ok {
		t.Errorf("Get: %d, %t", g, ok)
	}
	if l := d.Steal(); len(l) != 0 || d.Ahead(0) != -1 || d.Ahead(3) != -1 {
		t.Errorf("Steal: %v", l)
	}
	if !deque.Same(&d, new(deque.Deque)) || !deque.Same(&d, d.Copy()) || deque.Same(&d, nil) || deque.Same(nil, &d) || deque.Same(&d, made(t, newModel(2), 0)) {
		t.Error("Same")
	}
	to, from := made(t, newModel(4), 0), made(t, newModel(4, 1, 2, 3, 4), 0)
	if g, ok := deque.Move(&d, to); g != 0 || ok {
		t.Errorf("Move from it: %d, %t", g, ok)
	}
	if g, ok := deque.Move(from, &d); g != 1 || !ok {
		t.Errorf("Move to it: %d, %t", g, ok)
	}
	hold(t, "zero", &d, none)
	hold(t, "moved to a zero one", from, newModel(4, 3, 4))
}

// P8.2, P8.3
func TestTheExamples(t *testing.T) {
	first := newModel(4, 1, 2, 3, 4)
	d := made(t, first, 0)
	if over := d.Put(5); !slices.Equal(over, []int{3, 4, 5}) || !slices.Equal(d.All(), []int{1, 2}) {
		t.Errorf("Put: %v, %v", over, d.All())
	}
	d = made(t, first, 0)
	if l := d.Steal(); !slices.Equal(l, []int{1, 2}) || !slices.Equal(d.All(), []int{3, 4}) {
		t.Errorf("Steal: %v, %v", l, d.All())
	}
	for _, want := range []int{3, 4} {
		if g, ok := d.Get(); g != want || !ok {
			t.Errorf("Get: %d, %t", g, ok)
		}
	}
	d = made(t, first, 0)
	if d.Ahead(3) != 2 || d.Lay(9) != 0 || d.Ahead(9) != -1 {
		t.Errorf("%v", d.All())
	}
}

// P8.2
func TestPut(t *testing.T) {
	each(t, func(what string, d *deque.Deque, m *model) {
		// As many as make it full, go over, and fill it again.
		for i := range often(min(2*m.q, 40), m.q) {
			before := m.text()
			over, want := d.Put(-i), m.put(-i)
			if !slices.Equal(over, want) {
				t.Fatalf("%s, the %d-th, of %s: %v, not %v", what, i, before, over, want)
			}
			if full := len(want) > 0; full && len(want) != m.q/2+1 {
				t.Fatalf("%s: %d are over", what, len(want))
			}
			hold(t, what+", behind a Put", d, m)
		}
	})
}

// P8.2
func TestPutIntoAFullOneAndAgain(t *testing.T) {
	for _, q := range someRooms {
		d := made(t, newModel(q, upTo(0, q)...), 5)
		if over := d.Put(q); !slices.Equal(over, upTo(q/2, q/2+1)) || !slices.Equal(d.All(), upTo(0, q/2)) {
			t.Fatalf("room %d: %d over, %d in it", q, len(over), d.Len())
		}
		for i := range q / 2 {
			if over := d.Put(1000000 + i); len(over) != 0 {
				t.Fatalf("room %d: %v over at the %d-th", q, over, i)
			}
		}
		over := d.Put(7)
		if want := append(upTo(1000000, q/2), 7); !slices.Equal(over, want) || !slices.Equal(d.All(), upTo(0, q/2)) {
			t.Fatalf("room %d, again: %d over, %d in it", q, len(over), d.Len())
		}
	}
}

// P8.2
func TestLay(t *testing.T) {
	each(t, func(what string, d *deque.Deque, m *model) {
		room := m.q - len(m.l)
		for _, n := range []int{0, 1, 2, room - 1, room, room + 1, m.q, m.q + 1, 2*m.q + 3} {
			if n < 0 {
				continue
			}
			l := upTo(-5-n, n)
			one, twin := d.Copy(), m.twin()
			if got, want := one.Lay(l...), twin.lay(l); got != want || want != min(n, room) {
				t.Fatalf("%s: of %d %d were laid, not %d", what, n, got, want)
			}
			hold(t, what+", behind a Lay", one, twin)
			if got := one.Lay(l...); got != min(n, max(0, room-n)) {
				t.Fatalf("%s: of %d %d were laid again", what, n, got)
			}
		}
		if d.Lay() != 0 || d.Lay([]int{}...) != 0 || d.Lay(nil...) != 0 {
			t.Fatalf("%s: of none some were laid", what)
		}
		hold(t, what+", behind a Lay of none", d, m)
	})
}

// P8.3
func TestGet(t *testing.T) {
	each(t, func(what string, d *deque.Deque, m *model) {
		for range often(min(len(m.l)+2, 40), m.q) {
			want, wantOK := m.get()
			if g, ok := d.Get(); g != want || ok != wantOK {
				t.Fatalf("%s: %d, %t; want %d, %t", what, g, ok, want, wantOK)
			}
			hold(t, what+", behind a Get", d, m)
		}
	})
}

// P8.3
func TestGetAll(t *testing.T) {
	for _, q := range someRooms {
		d := made(t, newModel(q, upTo(0, q)...), q-1)
		for want := range q {
			if g, ok := d.Get(); g != want || !ok || d.Len() != q-1-want {
				t.Fatalf("room %d: %d, %t, and %d left, at %d", q, g, ok, d.Len(), want)
			}
		}
		if g, ok := d.Get(); g != 0 || ok {
			t.Fatalf("room %d: %d, %t of an empty one", q, g, ok)
		}
	}
}

// P8.3
func TestSteal(t *testing.T) {
	each(t, func(what string, d *deque.Deque, m *model) {
		// Until it is empty, and once more.
		for range 18 {
			n := len(m.l)
			l, want := d.Steal(), m.steal()
			if !slices.Equal(l, want) || len(l) != n-n/2 {
				t.Fatalf("%s: %d of %d stolen, not %d", what, len(l), n, len(want))
			}
			hold(t, what+", behind a Steal", d, m)
		}
	})
}

// P8.3
func TestStealOfNamedOnes(t *testing.T) {
	for _, x := range []struct{ row, stolen, left []int }{
		{nil, nil, nil}, {[]int{7}, []int{7}, nil}, {[]int{7, 8}, []int{7}, []int{8}}, {[]int{7, 8, 9}, []int{7, 8}, []int{9}},
		{[]int{1, 2, 3, 4, 5}, []int{1, 2, 3}, []int{4, 5}}, {[]int{5, 5, 5, 5, 5, 5, 5}, []int{5, 5, 5, 5}, []int{5, 5, 5}}, {[]int{8, 7, 6, 5, 4, 3, 2, 1}, []int{8, 7, 6, 5}, []int{4, 3, 2, 1}},
	} {
		for gone := range 9 {
			d := made(t, &model{8, x.row}, gone)
			if l := d.Steal(); !slices.Equal(l, x.stolen) || !slices.Equal(d.All(), x.left) {
				t.Errorf("%v: %v, %v", x.row, l, d.All())
			}
		}
	}
}

// moved does a Move of models; it tells who is lost, too.
func (m *model) move(to *model) (g int, ok bool, lost []int) {
	if m == to || len(to.l) > 0 || len(m.l) == 0 {
		return 0, false, nil
	}
	l := m.steal()
	return l[0], true, l[1+to.lay(l[1:]):]
}

// P8.4
func TestMove(t *testing.T) {
	each(t, func(what string, d *deque.Deque, m *model) {
		for _, q := range []int{2, 4, 8, m.q / 4, m.q / 2, m.q, 2 * m.q} {
			if !slices.Contains(someRooms, q) {
				continue
			}
			for _, gone := range []int{0, q - 1} {
				from, to := d.Copy(), made(t, newModel(q), gone)
				fromModel, toModel := m.twin(), newModel(q)
				want, wantOK, _ := fromModel.move(toModel)
				if g, ok := deque.Move(from, to); g != want || ok != wantOK {
					t.Fatalf("%s, to room %d: %d, %t; want %d, %t", what, q, g, ok, want, wantOK)
				}
				hold(t, what+", moved from", from, fromModel)
				hold(t, what+", moved to", to, toModel)
			}
		}
	})
}

// P8.4
func TestMoveOfNamedOnes(t *testing.T) {
	for _, x := range []struct {
		from        []int
		q           int
		g           int
		ok          bool
		left, moved []int
	}{
		{nil, 8, 0, false, nil, nil},
		{[]int{7}, 8, 7, true, nil, nil},
		{[]int{0}, 8, 0, true, nil, nil},
		{[]int{7, 8}, 8, 7, true, []int{8}, nil},
		{[]int{7, 8, 9}, 8, 7, true, []int{9}, []int{8}},
		{[]int{1, 2, 3, 4, 5}, 8, 1, true, []int{4, 5}, []int{2, 3}},
		{[]int{1, 2, 3, 4, 5, 6, 7, 8}, 8, 1, true, []int{5, 6, 7, 8}, []int{2, 3, 4}},
		{[]int{1, 2, 3, 4, 5, 6, 7, 8}, 2, 1, true, []int{5, 6, 7, 8}, []int{2, 3}},
		{[]int{1, 2, 3, 4, 5, 6, 7, 8}, 4, 1, true, []int{5, 6, 7, 8}, []int{2, 3, 4}},
		{[]int{1, 2, 3, 4, 5, 6, 7, 8}, 65536, 1, true, []int{5, 6, 7, 8}, []int{2, 3, 4}},
	} {
		for gone := range 9 {
			from, to := made(t, &model{8, x.from}, gone), made(t, newModel(x.q), gone/2)
			if g, ok := deque.Move(from, to); g != x.g || ok != x.ok {
				t.Errorf("%v, to room %d: %d, %t", x.from, x.q, g, ok)
			}
			hold(t, "moved from", from, &model{8, x.left})
			hold(t, "moved to", to, &model{x.q, x.moved})
		}
	}
}

// P8.4
func TestMovesThatMayNotBe(t *testing.T) {
	for _, n := range sizes(8) {
		m := newModel(8, upTo(1, n)...)
		for k := 1; k <= 8; k++ {
			some := newModel(8, upTo(50, k)...)
			from, to := made(t, m, 2), made(t, some, 1)
			if g, ok := deque.Move(from, to); g != 0 || ok {
				t.Fatalf("%s, to %s: %d, %t", m.text(), some.text(), g, ok)
			}
			hold(t, "from, to one that has some", from, m)
			hold(t, "to one that has some", to, some)
		}
		for name, move := range map[string]func(d *deque.Deque) (int, bool){
			"to itself": func(d *deque.Deque) (int, bool) { return deque.Move(d, d) },
			"to nil":    func(d *deque.Deque) (int, bool) { return deque.Move(d, nil) },
			"from nil":  func(d *deque.Deque) (int, bool) { return deque.Move(nil, d) },
		} {
			d := made(t, m, 3)
			if g, ok := move(d); g != 0 || ok {
				t.Fatalf("%s %s: %d, %t", m.text(), name, g, ok)
			}
			hold(t, name, d, m)
		}
	}
	empty, other := made(t, newModel(4), 0), made(t, newModel(2), 0)
	if g, ok := deque.Move(empty, other); g != 0 || ok {
		t.Errorf("from an empty one: %d, %t", g, ok)
	}
	hold(t, "from an empty one", empty, newModel(4))
	hold(t, "from an empty one, to", other, newModel(2))
}

// P8.5
func TestWhatIsHandedInIsNotKept(t *testing.T) {
	for _, n := range []int{1, 3, 4, 9} {
		l := upTo(1, n)
		d, _ := deque.New(4, l...)
		m := newModel(4, l...)
		for i := range l {
			l[i] = 99
		}
		hold(t, "New", d, m)
		for range 3 {
			d.Get()
			m.get()
		}
		l = upTo(20, n)
		d.Lay(l...)
		m.lay(l)
		for i := range l {
			l[i] = 99
		}
		hold(t, "Lay", d, m)
	}
}

// P8.5
func TestWhatIsHandedInIsOnlyRead(t *testing.T) {
	for n := range 13 {
		// What lies behind a list's length in its memory is looked at, too.
		whole := upTo(1, 13)
		kept := slices.Clone(whole)
		d, _ := deque.New(8, whole[:n]...)
		for range 20 {
			d.Lay(whole[:n]...)
			d.Put(-1)
			d.Put(-2)
			d.Steal()
			d.Get()
		}
		to, _ := deque.New(2, whole[:n]...)
		to.Steal()
		to.Get()
		deque.Move(d, to)
		deque.New(3, whole[:n]...)
		if !slices.Equal(whole, kept) {
			t.Fatalf("%v", whole)
		}
	}
}

// spoil writes over an answer, and behind its length.
func spoil(l []int) {
	_ = append(l, 99, 99, 99)
	for i := range l {
		l[i] = 99
	}
	for i, all := 0, l[:cap(l)]; i < len(all); i++ {
		all[i] = 99
	}
}

// P8.5
func TestWhatIsAnsweredIsNewMemory(t *testing.T) {
	for _, q := range fewRooms {
		for _, n := range sizes(q) {
			for _, gone := range []int{0, 1, q - 1} {
				m := newModel(q, upTo(1, n)...)
				d := made(t, m, gone)
				first, second := d.All(), d.All()
				spoil(first)
				if !slices.Equal(second, m.l) {
					t.Fatalf("%s: two answers share memory: %v", m.text(), second)
				}
				hold(t, "All", d, m)
				spoil(d.Put(-1))
				over := m.put(-1)
				hold(t, "Put", d, m)
				spoil(d.Steal())
				m.steal()
				hold(t, "Steal", d, m)
				d.Lay(over...)
				m.lay(over)
				hold(t, "what was over is laid again", d, m)
			}
		}
	}
}

// P8.5
func TestAnswersStayAsTheyWere(t *testing.T) {
	d := made(t, newModel(8, upTo(1, 8)...), 0)
	all, over, stolen := d.All(), d.Put(9), d.Steal()
	for i := range 40 {
		d.Put(50 + i)
		if i%3 == 0 {
			d.Get()
		}
	}
	if !slices.Equal(all, upTo(1, 8)) || !slices.Equal(over, upTo(5, 5)) || !slices.Equal(stolen, []int{1, 2}) {
		t.Errorf("%v, %v, %v", all, over, stolen)
	}
}

// P8.5
func TestLayingItsOwnAnswers(t *testing.T) {
	d := made(t, newModel(8, 1, 2, 3), 6)
	d.Lay(d.All()...)
	hold(t, "its own row", d, newModel(8, 1, 2, 3, 1, 2, 3))
	d.Lay(d.Steal()...)
	hold(t, "its own older part", d, newModel(8, 1, 2, 3, 1, 2, 3))
}

// play does some calls that are drawn to a deque and to its model.
func play(t *testing.T, source *rand.Rand, d *deque.Deque, m *model, calls int) {
	t.Helper()
	for range calls {
		before := m.text()
		switch source.Intn(5) {
		case 0, 1:
			g := source.Intn(9)
			if over, want := d.Put(g), m.put(g); !slices.Equal(over, want) {
				t.Fatalf("%s, Put(%d): %v, not %v", before, g, over, want)
			}
		case 2:
			l := upTo(10, source.Intn(m.q/2+3))
			if n, want := d.Lay(l...), m.lay(l); n != want {
				t.Fatalf("%s, Lay of %d: %d, not %d", before, len(l), n, want)
			}
		case 3:
			want, wantOK := m.get()
			if g, ok := d.Get(); g != want || ok != wantOK {
				t.Fatalf("%s, Get: %d, %t; want %d, %t", before, g, ok, want, wantOK)
			}
		case 4:
			if l, want := d.Steal(), m.steal(); !slices.Equal(l, want) {
				t.Fatalf("%s, Steal: %v, not %v", before, l, want)
			}
		}
		hold(t, "behind "+before, d, m)
	}
}

// P8.1, P8.2, P8.3
func TestPlays(t *testing.T) {
	source := rand.New(rand.NewSource(2))
	for range 400 {
		q := fewRooms[source.Intn(len(fewRooms))]
		m := newModel(q, upTo(1, source.Intn(q+1))...)
		play(t, source, made(t, m, source.Intn(q+1)), m, 100)
	}
	for _, q := range someRooms[6:] {
		m := newModel(q, upTo(1, source.Intn(q+1))...)
		play(t, source, made(t, m, source.Intn(q+1)), m, 30)
	}
}

// exploration goes through all rows of calls to one deque, with numbers of which each comes once. (P8.6)
type exploration struct {
	d *deque.Deque
	// came is how many numbers came; those that went stand in gone.
	came int
	gone []int
}

// next is so many numbers that did not come yet; those that are laid in the end come.
func (x *exploration) next(n int) []int { return upTo(x.came, n) }

func (x *exploration) twin() *exploration {
	return &exploration{x.d.Copy(), x.came, slices.Clone(x.gone)}
}

// calls are all that may be done next.
func (x *exploration) calls() []func(*exploration) {
	return []func(*exploration){
		func(x *exploration) {
			over := x.d.Put(x.next(1)[0])
			x.came++
			x.gone = append(x.gone, over...)
		},
		func(x *exploration) { x.came += x.d.Lay(x.next(2)...) },
		func(x *exploration) { x.came += x.d.Lay(x.next(x.d.Room())...) },
		func(x *exploration) {
			if g, ok := x.d.Get(); ok {
				x.gone = append(x.gone, g)
			}
		},
		func(x *exploration) { x.gone = append(x.gone, x.d.Steal()...) },
		func(x *exploration) {
			to, _ := deque.New(x.d.Room())
			if g, ok := deque.Move(x.d, to); ok {
				x.gone = append(append(x.gone, g), to.All()...)
			}
		},
	}
}

// judge holds P8.6 of what is behind a call: everybody is in it, or went, once; and nobody who stayed has more ahead of it.
func (x *exploration) judge(t *testing.T, before *exploration) {
	t.Helper()
	all := append(x.d.All(), x.gone...)
	slices.Sort(all)
	if !slices.Equal(all, upTo(0, x.came)) {
		t.Fatalf("behind %v: %v, and gone are %v, of %d that came", before.d.All(), x.d.All(), x.gone, x.came)
	}
	for _, g := range x.d.All() {
		if was := before.d.Ahead(g); was >= 0 && x.d.Ahead(g) > was {
			t.Fatalf("behind %v: %v: more are ahead of %d", before.d.All(), x.d.All(), g)
		}
	}
}

// safe holds P8.6 of a Put: whom fewer than half of the room are ahead of, it does not take away.
func (x *exploration) safe(t *testing.T) {
	t.Helper()
	over := x.d.Copy().Put(-1)
	for i, g := range x.d.All() {
		if i < x.d.Room()/2 && slices.Contains(over, g) {
			t.Fatalf("%v: a Put takes %d away", x.d.All(), g)
		}
	}
}

func (x *exploration) explore(t *testing.T, left int) {
	t.Helper()
	x.safe(t)
	if left == 0 {
		return
	}
	for _, call := range x.calls() {
		y := x.twin()
		call(y)
		y.judge(t, x)
		y.explore(t, left-1)
	}
}

// P8.6
func TestAllRowsOfCalls(t *testing.T) {
	for q, depth := range map[int]int{2: 6, 4: 6, 8: 5} {
		d, _ := deque.New(q)
		(&exploration{d: d}).explore(t, depth)
	}
}

// P8.6
func TestNobodyIsLostOrDoubledOverManyCalls(t *testing.T) {
	source := rand.New(rand.NewSource(3))
	for range 60 {
		d, _ := deque.New(fewRooms[source.Intn(len(fewRooms))])
		x := &exploration{d: d}
		for range 150 {
			before := x.twin()
			calls := x.calls()
			// Mostly such as let it fill.
			i := source.Intn(len(calls))
			if source.Intn(3) > 0 {
				i = source.Intn(2)
			}
			calls[i](x)
			x.judge(t, before)
			x.safe(t)
		}
	}
}

// P8.6
func TestOneThatStaysIsNeverPassed(t *testing.T) {
	source := rand.New(rand.NewSource(4))
	for range 300 {
		q := fewRooms[source.Intn(len(fewRooms))]
		m := newModel(q, upTo(1, source.Intn(q))...)
		d := made(t, m, source.Intn(q))
		d.Put(-1)
		ahead := d.Ahead(-1)
		for range 100 {
			half := d.Ahead(-1) < q/2
			over := d.Put(5)
			if half && slices.Contains(over, -1) {
				t.Fatalf("room %d: taken away, with %d ahead of it", q, ahead)
			}
			if source.Intn(2*q) == 0 {
				d.Get()
			}
			n := d.Ahead(-1)
			if n > ahead {
				t.Fatalf("room %d: %d are ahead of it, not %d", q, n, ahead)
			}
			if n < 0 {
				break
			}
			ahead = n
		}
	}
}

// P8.6
func TestWhatIsMovedHasFewerAheadOfIt(t *testing.T) {
	each(t, func(what string, d *deque.Deque, m *model) {
		to := made(t, newModel(m.q), m.q/2+1)
		was := d.All()
		g, ok := deque.Move(d, to)
		for i, x := range to.All() {
			if x != was[i+1] || i >= m.q/2 {
				t.Fatalf("%s: %d has %d ahead of it", what, x, i)
			}
		}
		var all []int
		if ok {
			all = append(all, g)
		}
		if all = append(append(all, to.All()...), d.All()...); !slices.Equal(all, was) {
			t.Fatalf("%s: %d are left of %d", what, len(all), len(was))
		}
	})
}

// P8.4, P8.6
func TestWhoIsLostByAMoveIntoALesserRoom(t *testing.T) {
	for _, q := range fewRooms[1:] {
		for _, less := range fewRooms {
			for n := range q + 1 {
				m := newModel(q, upTo(1, n)...)
				d, to, into := made(t, m, 1), made(t, newModel(less), 1), newModel(less)
				_, _, lost := m.move(into)
				if want := max(0, n-n/2-1-less); len(lost) != want {
					t.Fatalf("%d of %d are lost, not %d", len(lost), n, want)
				}
				g, _ := deque.Move(d, to)
				all := append(append(to.All(), lost...), d.All()...)
				if n > 0 {
					all = slices.Insert(all, 0, g)
				}
				if !slices.Equal(all, upTo(1, n)) || to.Len() > less {
					t.Fatalf("room %d to %d: %v, %v, %v", q, less, g, to.All(), d.All())
				}
			}
		}
	}
}

// P8.1 to P8.4
func TestTheSameCallsMakeTheSame(t *testing.T) {
	run := func() (*deque.Deque, *model) {
		m := newModel(16)
		d := made(t, m, 3)
		play(t, rand.New(rand.NewSource(5)), d, m, 500)
		return d, m
	}
	a, _ := run()
	b, _ := run()
	if !deque.Same(a, b) {
		t.Errorf("%v, %v", a.All(), b.All())
	}
}
