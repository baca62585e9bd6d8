package word_test

import (
	"math"
	"math/rand"
	"slices"
	"strings"
	"testing"

	"distaff/word"
)

// round is how many numbers of 32 binary digits there are.
const round = 1 << 32

// pair is what a word tells, in numbers that do not go round themselves.
type pair struct{ head, tail uint64 }

func (p pair) word() uint64 { return p.head*round + p.tail }

func (p pair) size() uint64 { return (p.tail + round - p.head) % round }

// after is the pair whose head and tail are so many more.
func (p pair) after(head, tail int64) pair {
	moved := func(n uint64, by int64) uint64 { return uint64(((int64(n)+by)%round + round) % round) }
	return pair{moved(p.head, head), moved(p.tail, tail)}
}

// done is what the chapter's words tell of one thing that is done, apart from the program.
func (p pair) done(q, d int) pair {
	n := int64(p.size())
	switch {
	case d == 1 && n > 0:
		return p.after(1, 0)
	case d == 2:
		return p.after((n+1)/2, 0)
	case d == 3 && n < int64(q):
		return p.after(0, 1)
	case d == 4 && n >= int64(q):
		return p.after(0, int64(-q/2))
	}
	return p
}

// someNumbers are those at the edges of 32 binary digits, of rooms, and some others.
func someNumbers() []uint32 {
	l := []uint32{0, 1, 2, 3, 5, 64, 65535, 65536, 65537, 1<<31 - 1, 1 << 31, 1<<31 + 1, math.MaxUint32 - 65536, math.MaxUint32 - 2, math.MaxUint32 - 1, math.MaxUint32}
	source := rand.New(rand.NewSource(1))
	for range 8 {
		l = append(l, source.Uint32())
	}
	return l
}

// somePairs have all lengths that the chapter names, and some others, with heads that go round and heads that do not.
func somePairs() []pair {
	var l []pair
	for _, head := range someNumbers() {
		for _, size := range someNumbers() {
			l = append(l, pair{head: uint64(head)}.after(0, int64(head)+int64(size)))
		}
	}
	return l
}

var someRooms = []int{2, 4, 8, 16, 32, 64, 128, 256, 512, 1024, 2048, 4096, 8192, 16384, 32768, 65536}

var someThatAreNoRooms = []int{math.MinInt, math.MinInt + 1, -1 << 32, -65536, -4, -2, -1, 0, 1, 3, 5, 6, 7, 9, 10, 12, 63, 65, 65535, 65537, 98304, 131072, 1<<31 - 1, 1 << 31, 1 << 32, 1<<32 + 2, 1<<32 + 4, 1 << 62, math.MaxInt - 1, math.MaxInt}

// P2.1
func TestConstants(t *testing.T) {
	if word.MaxRoom != 65536 || word.Get != 1 || word.Steal != 2 || word.Put != 3 || word.Cut != 4 {
		t.Error(word.MaxRoom, word.Get, word.Steal, word.Put, word.Cut)
	}
}

// P2.1
func TestWordsOfNamedHeadsAndTails(t *testing.T) {
	for _, x := range []struct {
		head, tail uint32
		w          uint64
		size       uint32
	}{
		{0, 0, 0, 0}, {0, 1, 1, 1}, {1, 0, 0x100000000, math.MaxUint32}, {1, 1, 0x100000001, 0},
		{0, math.MaxUint32, 0xffffffff, math.MaxUint32}, {math.MaxUint32, 0, 0xffffffff00000000, 1},
		{math.MaxUint32, 2, 0xffffffff00000002, 3}, {math.MaxUint32, math.MaxUint32, 0xffffffffffffffff, 0},
		{1 << 31, 0, 0x8000000000000000, 1 << 31}, {0, 1 << 31, 0x80000000, 1 << 31}, {0x12345678, 0x9abcdef0, 0x123456789abcdef0, 0x88888878},
		{4294967295 - 65535, 0, 0xffff000000000000, 65536},
	} {
		w := word.Pack(x.head, x.tail)
		if w != x.w || word.Head(w) != x.head || word.Tail(w) != x.tail || word.Len(w) != x.size {
			t.Errorf("%d, %d: %x, with %d, %d, %d", x.head, x.tail, w, word.Head(w), word.Tail(w), word.Len(w))
		}
	}
}

// P2.1
func TestPackAndWhatItIsMadeOf(t *testing.T) {
	for _, p := range somePairs() {
		w := word.Pack(uint32(p.head), uint32(p.tail))
		if w != p.word() || uint64(word.Head(w)) != p.head || uint64(word.Tail(w)) != p.tail || uint64(word.Len(w)) != p.size() {
			t.Fatalf("%v: %x, with %d, %d, %d", p, w, word.Head(w), word.Tail(w), word.Len(w))
		}
	}
	source := rand.New(rand.NewSource(2))
	for range 10000 {
		w := source.Uint64()
		if word.Pack(word.Head(w), word.Tail(w)) != w || word.Head(w) != uint32(w/round) || word.Tail(w) != uint32(w%round) {
			t.Fatalf("%x has %x, %x", w, word.Head(w), word.Tail(w))
		}
	}
}

// P2.1
func TestOlder(t *testing.T) {
	for n, want := range map[uint32]uint32{0: 0, 1: 1, 2: 1, 3: 2, 4: 2, 5: 3, 6: 3, 7: 4, 64: 32, 65535: 32768, 65536: 32768, 1 << 31: 1 << 30, math.MaxUint32 - 1: 1<<31 - 1, math.MaxUint32: 1 << 31} {
		if got := word.Older(n); got != want {
			t.Errorf("of %d: %d, not %d", n, got, want)
		}
	}
	for _, n := range someNumbers() {
		// The greater half: what is left is as many, or one fewer.
		if got := word.Older(n); n-got != got && n-got != got-1 {
			t.Errorf("of %d: %d", n, got)
		}
	}
}

// P2.1
func TestRoom(t *testing.T) {
	for q := -70000; q <= 140000; q++ {
		if got := word.Room(q); got != slices.Contains(someRooms, q) {
			t.Fatalf("%d: %v", q, got)
		}
	}
	for _, q := range someThatAreNoRooms {
		if word.Room(q) {
			t.Errorf("%d", q)
		}
	}
}

// P2.1
func TestSlot(t *testing.T) {
	for _, place := range someNumbers() {
		for _, q := range someRooms {
			if got := word.Slot(place, q); uint64(got) != uint64(place)%uint64(q) {
				t.Errorf("of %d, in %d: %d", place, q, got)
			}
		}
		for _, q := range someThatAreNoRooms {
			if got := word.Slot(place, q); got != 0 {
				t.Errorf("of %d, in %d, which is no room: %d", place, q, got)
			}
		}
	}
	if word.Slot(9, 8) != 1 || word.Slot(9, 6) != 0 || word.Slot(65537, 65536) != 1 || word.Slot(65537, 131072) != 0 || word.Slot(math.MaxUint32, 65536) != 65535 {
		t.Error("named places")
	}
}

// P2.2
func TestGainGrowDrop(t *testing.T) {
	for _, p := range somePairs() {
		for _, n := range someNumbers() {
			w, by := p.word(), int64(n)
			if got, want := word.Gain(w, n), p.after(by, 0); got != want.word() {
				t.Fatalf("Gain(%v, %d): %x, not %x", p, n, got, want.word())
			}
			if got, want := word.Grow(w, n), p.after(0, by); got != want.word() {
				t.Fatalf("Grow(%v, %d): %x, not %x", p, n, got, want.word())
			}
			if got, want := word.Drop(w, n), p.after(0, -by); got != want.word() {
				t.Fatalf("Drop(%v, %d): %x, not %x", p, n, got, want.word())
			}
		}
	}
}

// P2.2
func TestMovedRoundTheEdges(t *testing.T) {
	last := uint32(math.MaxUint32)
	for _, x := range []struct {
		name       string
		w          uint64
		head, tail uint32
	}{
		{"head goes round, tail stays", word.Gain(word.Pack(last, 7), 1), 0, 7},
		{"head goes past tail", word.Gain(word.Pack(3, 4), 5), 8, 4},
		{"tail goes round, head stays", word.Grow(word.Pack(7, last), 1), 7, 0},
		{"tail grows past head", word.Grow(word.Pack(2, 1), 5), 2, 6},
		{"tail drops below 0, head stays", word.Drop(word.Pack(7, 0), 1), 7, last},
		{"tail drops past head", word.Drop(word.Pack(7, 8), 5), 7, 3},
		{"by all but one", word.Grow(word.Gain(word.Pack(5, 5), last), last), 4, 4},
		{"by none", word.Drop(word.Grow(word.Gain(word.Pack(last, 0), 0), 0), 0), last, 0},
	} {
		if x.w != word.Pack(x.head, x.tail) {
			t.Errorf("%s: %s", x.name, word.Text(x.w))
		}
	}
}

// placesOf are those of a pair, gone through one by one.
func placesOf(p pair, from, n uint32) []uint32 {
	if p.size() > 65536 {
		return nil
	}
	var l []uint32
	for i, at := uint64(0), p.head; at != p.tail; i, at = i+1, (at+1)%round {
		if i >= uint64(from) && i < uint64(from)+uint64(n) {
			l = append(l, uint32(at))
		}
	}
	return l
}

// P2.2
func TestPlacesOfNamedWords(t *testing.T) {
	last := uint32(math.MaxUint32)
	for _, x := range []struct {
		head, tail, from, n uint32
		want                []uint32
	}{
		{0, 0, 0, 9, nil}, {5, 5, 0, last, nil}, {5, 9, 0, 4, []uint32{5, 6, 7, 8}}, {5, 9, 0, 0, nil},
		{5, 9, 1, 2, []uint32{6, 7}}, {5, 9, 2, 9, []uint32{7, 8}}, {5, 9, 3, 1, []uint32{8}}, {5, 9, 4, 1, nil}, {5, 9, last, 1, nil},
		{5, 9, 1, last, []uint32{6, 7, 8}}, {5, 9, 3, last - 2, []uint32{8}}, {5, 9, last, last, nil},
		{last, 2, 1, 9, []uint32{0, 1}}, {last - 1, 2, 0, 9, []uint32{last - 1, last, 0, 1}}, {last - 1, 0, 1, 1, []uint32{last}},
		{1, 0, 0, 5, nil}, {0, 65537, 0, 1, nil}, {0, 65537, 65536, 1, nil}, {0, 65536, 65535, 9, []uint32{65535}}, {last, 65535, 65534, 9, []uint32{65533, 65534}}, {last, 65536, 0, 1, nil},
	} {
		if l := word.Places(word.Pack(x.head, x.tail), x.from, x.n); !slices.Equal(l, x.want) {
			t.Errorf("%d..%d from %d, %d: %v", x.head, x.tail, x.from, x.n, l)
		}
	}
}

// P2.2
func TestPlaces(t *testing.T) {
	for _, head := range []uint64{0, 1 << 31, round - 3, round - 1} {
		for _, size := range []int64{0, 1, 2, 3, 7, 64, 65535, 65536, 65537, 1 << 31, round - 1} {
			p := pair{head, head}.after(0, size)
			for _, from := range append(someNumbers(), uint32(size)-1, uint32(size), uint32(size)+1) {
				for _, n := range []uint32{0, 1, 2, 9, uint32(size) - from, 65536, 65537, 1 << 31, math.MaxUint32} {
					if l, want := word.Places(p.word(), from, n), placesOf(p, from, n); !slices.Equal(l, want) {
						t.Fatalf("%v from %d, %d: %d places, not %d", p, from, n, len(l), len(want))
					}
				}
			}
		}
	}
}

// P2.2
func TestHas(t *testing.T) {
	for _, p := range somePairs() {
		for _, by := range someNumbers() {
			place := (p.head + uint64(by)) % round
			if got := word.Has(p.word(), uint32(place)); got != (uint64(by) < p.size()) {
				t.Fatalf("%v, %d: %v", p, place, got)
			}
		}
		if word.Has(p.word(), uint32(p.tail)) {
			t.Fatalf("%v has its tail", p)
		}
		if size := p.size(); word.Has(p.word(), uint32(p.head)) != (size > 0) || word.Has(p.word(), uint32(p.tail+round-1)) != (size > 0) {
			t.Fatalf("%v: its first place, or its last", p)
		}
		if size := p.size(); word.Has(p.word(), uint32(p.head+round-1)) {
			t.Fatalf("%v, of length %d, has what is ahead of its head", p, size)
		}
	}
}

// P2.3
func TestDoOfNamedWords(t *testing.T) {
	for _, x := range []struct {
		head, tail uint32
		q          int
		l          []int
		want       string
	}{
		{0, 4, 4, nil, "0..4"}, {0, 4, 4, []int{}, "0..4"}, {0, 4, 4, []int{word.Put}, "0..4"}, {0, 4, 4, []int{word.Cut}, "0..2"}, {0, 4, 4, []int{word.Steal}, "2..4"}, {0, 4, 4, []int{word.Get, word.Get}, "2..4"},
		{7, 7, 2, []int{word.Get, word.Steal, word.Cut}, "7..7"}, {7, 8, 2, []int{word.Get}, "8..8"}, {7, 8, 2, []int{word.Steal}, "8..8"}, {7, 8, 2, []int{word.Cut}, "7..8"}, {7, 8, 2, []int{word.Put, word.Put}, "7..9"}, {7, 9, 2, []int{word.Cut, word.Cut}, "7..8"},
		{0, 5, 8, []int{word.Steal}, "3..5"}, {0, 5, 8, []int{word.Steal, word.Steal, word.Steal}, "5..5"},
		{0, 7, 8, []int{word.Cut}, "0..7"}, {0, 7, 8, []int{word.Put, word.Cut}, "0..4"},
		{0, 9, 8, []int{word.Put}, "0..9"}, {0, 9, 8, []int{word.Cut}, "0..5"}, {0, 9, 8, []int{word.Get}, "1..9"}, {0, 9, 8, []int{word.Steal}, "5..9"}, {0, 12, 8, []int{word.Cut, word.Cut}, "0..4"},
		{3, 2, 4, []int{word.Get}, "4..2"}, {3, 2, 4, []int{word.Put}, "3..2"}, {3, 2, 4, []int{word.Cut}, "3..0"}, {3, 2, 4, []int{word.Steal}, "2147483651..2"}, {3, 2, 4, []int{word.Cut, word.Cut}, "3..4294967294"},
		{4294967295, 4294967295, 2, []int{word.Put, word.Put, word.Put}, "4294967295..1"}, {4294967295, 1, 2, []int{word.Cut}, "4294967295..0"}, {4294967295, 1, 2, []int{word.Get, word.Get, word.Get}, "1..1"}, {4294967295, 3, 4, []int{word.Steal}, "1..3"}, {4294967294, 0, 2, []int{word.Cut}, "4294967294..4294967295"},
		{0, 65536, 65536, []int{word.Put}, "0..65536"}, {0, 65536, 65536, []int{word.Cut}, "0..32768"}, {0, 65535, 65536, []int{word.Cut, word.Put, word.Put}, "0..65536"}, {0, 65536, 65536, []int{word.Steal}, "32768..65536"},
		{0, 3, 4, []int{0, 5, -1, math.MinInt, math.MaxInt, 1 << 32, 1<<32 + 1, 1 << 62}, "0..3"}, {0, 3, 4, []int{0, word.Get, 5, word.Get, -1, word.Put}, "2..4"},
	} {
		if w := word.Do(word.Pack(x.head, x.tail), x.q, x.l...); word.Text(w) != x.want {
			t.Errorf("%d..%d, %d, %v: %s, not %s", x.head, x.tail, x.q, x.l, word.Text(w), x.want)
		}
	}
}

// P2.3
func TestDoEachOne(t *testing.T) {
	things := []int{math.MinInt, -1 << 32, -5, -4, -3, -2, -1, 0, 1, 2, 3, 4, 5, 6, 7, 8, 255, 256, 257, 65537, 1<<31 + 3, 1<<32 + 1, 1<<32 + 4, 1 << 62, math.MaxInt}
	for _, q := range someRooms {
		pairs := somePairs()
		for _, by := range []int64{-1, 0, 1} {
			pairs = append(pairs, pair{0, 0}.after(0, int64(q)+by), pair{round - 1, round - 1}.after(0, int64(q)+by), pair{0, 0}.after(0, int64(2*q)+by))
		}
		for _, p := range pairs {
			for _, d := range things {
				if got, want := word.Do(p.word(), q, d), p.done(q, d); got != want.word() {
					t.Fatalf("%v, %d, %d: %s", p, q, d, word.Text(got))
				}
			}
		}
	}
}

// P2.3
func TestDoInWhatIsNoRoom(t *testing.T) {
	for _, q := range someThatAreNoRooms {
		for _, p := range []pair{{0, 0}, {0, 1}, {0, 4}, {7, 3}, {round - 1, 65536}, {0, round - 1}} {
			if w := word.Do(p.word(), q, 1, 2, 3, 4, 3, 2, 1, 0, -1); w != p.word() {
				t.Errorf("%v, %d: %s", p, q, word.Text(w))
			}
		}
	}
}

// P2.3
func TestDoOneBehindTheOther(t *testing.T) {
	source := rand.New(rand.NewSource(3))
	for range 3000 {
		q := someRooms[source.Intn(len(someRooms))]
		head := uint64(round - 1 - source.Int63n(6))
		p := pair{head, head}.after(0, source.Int63n(int64(q)+3))
		w, l := p.word(), make([]int, source.Intn(40))
		for i := range l {
			l[i] = source.Intn(6)
			p = p.done(q, l[i])
		}
		if got := word.Do(w, q, l...); got != p.word() {
			t.Fatalf("%s, %d, %v: %s", word.Text(w), q, l, word.Text(got))
		}
	}
}

// P2.3
func TestText(t *testing.T) {
	for _, x := range []struct {
		head, tail uint32
		want       string
	}{{0, 0, "0..0"}, {1, 0, "1..0"}, {0, 1, "0..1"}, {10, 200, "10..200"}, {9, 10, "9..10"}, {65536, 65535, "65536..65535"}, {2147483648, 2147483647, "2147483648..2147483647"}, {4294967295, 2, "4294967295..2"}, {0, 4294967295, "0..4294967295"}, {4294967295, 4294967295, "4294967295..4294967295"}} {
		if s := word.Text(word.Pack(x.head, x.tail)); s != x.want {
			t.Errorf("%q, not %q", s, x.want)
		}
	}
	told := map[string]uint64{}
	for _, p := range somePairs() {
		s := word.Text(p.word())
		if w, there := told[s]; there && w != p.word() {
			t.Fatalf("%q is told of %x and of %x", s, w, p.word())
		}
		told[s] = p.word()
		if strings.Trim(s, "0123456789.") != "" || strings.Count(s, ".") != 2 || strings.Contains(s, "+") {
			t.Fatalf("%q", s)
		}
	}
}

// P2.4
func TestPlacesAreNewMemory(t *testing.T) {
	w := word.Pack(math.MaxUint32, 5)
	want := []uint32{math.MaxUint32, 0, 1, 2, 3, 4}
	first, second := word.Places(w, 0, 9), word.Places(w, 0, 9)
	for i := range first {
		first[i] = 77
	}
	_ = append(first[:2], 88, 88, 88)
	third := word.Places(w, 0, 9)
	if !slices.Equal(second, want) || !slices.Equal(third, want) {
		t.Errorf("%v, %v", second, third)
	}
	some := word.Places(w, 0, 2)
	_ = append(some, 99)
	if more := word.Places(w, 0, 4); !slices.Equal(more, want[:4]) {
		t.Errorf("%v", more)
	}
}

// P2.4
func TestWhatIsToldToDoIsOnlyRead(t *testing.T) {
	all := []int{3, 3, 4, 2, 1, 0, -7, 9, 3, 3}
	kept := slices.Clone(all)
	for n := range all {
		word.Do(word.Pack(math.MaxUint32, 1), 4, all[:n]...)
		word.Do(word.Pack(0, 9), 5, all[:n]...)
	}
	if !slices.Equal(all, kept) {
		t.Errorf("%v", all)
	}
	// Nothing is kept from one call to the next.
	if w := word.Do(word.Pack(0, 0), 2, 3); w != word.Pack(0, 1) || word.Do(word.Pack(0, 0), 2, 3) != w || word.Do(word.Pack(0, 0), 2) != 0 {
		t.Errorf("%s", word.Text(w))
	}
}

// walk goes through all that can be done to a word in so many things, and holds each word against P2.5; seen are the words from the first one on.
func walk(t *testing.T, q, left int, seen []uint64) {
	w := seen[len(seen)-1]
	if word.Len(w) > uint32(q) {
		t.Fatalf("room %d, behind %v: its length is %d", q, seen, word.Len(w))
	}
	comeBack(t, q, seen)
	if left == 0 {
		return
	}
	for d := word.Get; d <= word.Cut; d++ {
		walk(t, q, left-1, append(seen[:len(seen):len(seen)], word.Do(w, q, d)))
	}
}

// comeBack holds what was between against P2.5, if the last word is the first one again.
func comeBack(t *testing.T, q int, seen []uint64) {
	first, last := seen[0], seen[len(seen)-1]
	if first != last {
		return
	}
	older := word.Places(first, 0, word.Older(word.Len(first)))
	for _, w := range seen {
		if word.Head(w) != word.Head(first) {
			t.Fatalf("room %d: something was gained between, in %v", q, seen)
		}
		for _, place := range older {
			if !word.Has(w, place) {
				t.Fatalf("room %d: %d was cut between, in %v", q, place, seen)
			}
		}
	}
}

// P2.5
func TestAllThatCanBeDoneToAWord(t *testing.T) {
	for _, q := range []int{2, 4, 8} {
		for _, head := range []uint32{0, math.MaxUint32 - 2, math.MaxUint32} {
			for size := range uint32(q + 1) {
				walk(t, q, 7, []uint64{word.Pack(head, head+size)})
			}
		}
	}
}

// P2.5
func TestTheLengthStaysWithinTheRoom(t *testing.T) {
	source := rand.New(rand.NewSource(4))
	for _, q := range someRooms {
		for range 30 {
			head := source.Uint32()
			w := word.Pack(head, head+uint32(source.Intn(q+1)))
			// Puts come in rows, so that what is full is met.
			for range 60 {
				l := []int{1 + source.Intn(4)}
				if source.Intn(2) == 0 {
					l = slices.Repeat([]int{word.Put}, source.Intn(q+2))
				}
				w = word.Do(w, q, l...)
				if word.Len(w) > uint32(q) {
					t.Fatalf("room %d, behind %v: %s", q, l[:1], word.Text(w))
				}
			}
		}
	}
}

// P2.5
func TestAWordThatComesBackByPutsAndCuts(t *testing.T) {
	for _, q := range someRooms {
		came := 0
		for _, size := range []int{q/2 - 1, q / 2, q/2 + 1, q - 1, q} {
			head := uint32(math.MaxUint32 - q/4)
			seen := []uint64{word.Pack(head, head+uint32(size))}
			older := word.Places(seen[0], 0, word.Older(uint32(size)))
			for range q + 2 {
				w := seen[len(seen)-1]
				d := word.Put
				if word.Len(w) == uint32(q) {
					d = word.Cut
				}
				w = word.Do(w, q, d)
				seen = append(seen, w)
				if word.Head(w) != head || len(older) > 0 && !word.Has(w, older[len(older)-1]) {
					t.Fatalf("room %d, length %d: %s", q, size, word.Text(w))
				}
				if w == seen[0] {
					came++
				}
			}
		}
		// Of these lengths just the one below half a room is never come back to.
		if came < 4 {
			t.Errorf("room %d: %d came back", q, came)
		}
	}
}
