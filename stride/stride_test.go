package stride_test

import (
	"math"
	"math/big"
	"math/rand"
	"slices"
	"testing"

	"distaff/stride"
)

// noPlaces are numbers of places that may not be.
var noPlaces = []int{math.MinInt, math.MinInt + 1, -1 << 32, -65, -64, -2, -1, 0, 65, 66, 128, 256, 65536, 1<<32 + 1, 1<<32 + 6, 1 << 62, math.MaxInt - 1, math.MaxInt}

// numbersAtEdges are those at the ends of int, at nought, and beside them.
var numbersAtEdges = []int{math.MinInt, math.MinInt + 1, math.MinInt + 2, math.MinInt / 2, -1 << 32, -12, -7, -2, -1, 0, 1, 2, 3, 6, 12, 1 << 32, 1 << 62, math.MaxInt - 1, math.MaxInt}

// stridesOf are the strides by the chapter's words: all divisors are tried.
func stridesOf(n int) []int {
	var l []int
	for s := 1; s <= n; s++ {
		common := 0
		for d := 1; d <= s; d++ {
			if s%d == 0 && n%d == 0 {
				common++
			}
		}
		if common == 1 {
			l = append(l, s)
		}
	}
	return l
}

// startAndStride are those of a draw, by numbers that have no ends.
func startAndStride(n, draw int) (int, int) {
	strides := stridesOf(n)
	d := new(big.Int).Mod(big.NewInt(int64(draw)), big.NewInt(int64(n*len(strides)))).Int64()
	return int(d) % n, strides[int(d)/n]
}

// orderOf is the order from a start by a stride, gone through step by step.
func orderOf(n, start, by int) []int {
	var l []int
	for at := start; len(l) < n; {
		l = append(l, at)
		for range by {
			if at++; at == n {
				at = 0
			}
		}
	}
	return l
}

// someDraws are draws at the edges that the chapter names, and some others.
func someDraws(n int) []int {
	orders := n * len(stridesOf(n))
	l := slices.Clone(numbersAtEdges)
	for _, at := range []int{-3 * orders, -2 * orders, -orders, 0, n, orders - n, orders, 2 * orders, 7 * orders} {
		l = append(l, at-1, at, at+1)
	}
	source := rand.New(rand.NewSource(int64(n)))
	for range 20 {
		l = append(l, int(source.Uint64()), source.Intn(orders))
	}
	return l
}

// divisorOf is the greatest divisor that all have, worked out in numbers that have no ends.
func divisorOf(l []int) int {
	all := new(big.Int)
	for _, n := range l {
		all.GCD(nil, nil, all, new(big.Int).Abs(big.NewInt(int64(n))))
	}
	return int(all.Uint64())
}

// P3.1
func TestGcdOfNamedNumbers(t *testing.T) {
	for _, x := range []struct {
		name string
		l    []int
		want int
	}{
		{"nil", nil, 0},
		{"none", []int{}, 0},
		{"nought", []int{0}, 0},
		{"noughts", []int{0, 0, 0}, 0},
		{"one number", []int{7}, 7},
		{"1", []int{1}, 1},
		{"one number below 0", []int{-7}, 7},
		{"-1", []int{-1}, 1},
		{"an example", []int{12, -18}, 6},
		{"both below 0", []int{-12, -18}, 6},
		{"the first one below 0", []int{-12, 18}, 6},
		{"nought ahead", []int{0, 9, 6}, 3},
		{"nought between", []int{9, 0, 6}, 3},
		{"nought behind", []int{9, 6, 0}, 3},
		{"one divides the other", []int{6, 18}, 6},
		{"the other divides the one", []int{18, 6}, 6},
		{"the same", []int{6, 6}, 6},
		{"no divisor but 1", []int{35, 64}, 1},
		{"two by two they have divisors, all three have none", []int{6, 10, 15}, 1},
		{"1 ahead", []int{1, 12, 18}, 1},
		{"1 behind", []int{12, 18, 1}, 1},
		{"less with each one", []int{360, 240, 90, 25}, 5},
		{"behind 1 all counts for nothing", []int{2, 3, 0, 6, 6}, 1},
		{"-2^63", []int{math.MinInt}, math.MinInt},
		{"-2^63, with noughts", []int{0, math.MinInt, 0}, math.MinInt},
		{"-2^63, and 12", []int{math.MinInt, 12}, 4},
		{"12, and -2^63", []int{12, math.MinInt}, 4},
		{"-2^63, and 2^62", []int{math.MinInt, 1 << 62}, 1 << 62},
		{"-2^63, and -2^62", []int{-1 << 62, math.MinInt}, 1 << 62},
		{"-2^63, and 7", []int{math.MinInt, 7}, 1},
		{"both ends", []int{math.MinInt, math.MaxInt}, 1},
		{"2^63 - 1", []int{math.MaxInt}, math.MaxInt},
		{"2^63 - 1, on both sides", []int{math.MaxInt, -math.MaxInt}, math.MaxInt},
		{"2^63 - 1 has 7 twice", []int{math.MaxInt, 49 * 8}, 49},
	} {
		if g := stride.Gcd(x.l...); g != x.want {
			t.Errorf("%s: %d; want %d", x.name, g, x.want)
		}
	}
}

// P3.1
func TestGcdOfManyNumbers(t *testing.T) {
	var lists [][]int
	for _, a := range numbersAtEdges {
		lists = append(lists, []int{a})
		for _, b := range numbersAtEdges {
			lists = append(lists, []int{a, b})
			for _, c := range numbersAtEdges {
				lists = append(lists, []int{a, b, c})
			}
		}
	}
	source := rand.New(rand.NewSource(1))
	for range 20000 {
		// Some have a divisor in common that is greater than 1.
		l, common := make([]int, source.Intn(6)), 1+source.Intn(1000)
		for i := range l {
			l[i] = (int(source.Uint64()) >> source.Intn(64)) / common * common
		}
		lists = append(lists, l)
	}
	for _, l := range lists {
		if g, want := stride.Gcd(l...), divisorOf(l); g != want {
			t.Fatalf("%v: %d; want %d", l, g, want)
		}
	}
}

// P3.1
func TestGcdIsTheGreatestThatDividesAll(t *testing.T) {
	for a := -70; a <= 70; a++ {
		for b := -70; b <= 70; b++ {
			greatest := 0
			for d := 1; d <= 70; d++ {
				if (a != 0 || b != 0) && a%d == 0 && b%d == 0 {
					greatest = d
				}
			}
			if g := stride.Gcd(a, b); g != greatest {
				t.Fatalf("%d, %d: %d; want %d", a, b, g, greatest)
			}
		}
	}
}

// P3.1
func TestStridesAndOrdersOfNamedNumbers(t *testing.T) {
	if stride.MaxPlaces != 64 {
		t.Errorf("MaxPlaces is %d", stride.MaxPlaces)
	}
	for _, x := range []struct {
		n      int
		want   []int
		orders int
	}{
		{1, []int{1}, 1},
		{2, []int{1}, 2},
		{3, []int{1, 2}, 6},
		{4, []int{1, 3}, 8},
		{6, []int{1, 5}, 12},
		{7, []int{1, 2, 3, 4, 5, 6}, 42},
		{9, []int{1, 2, 4, 5, 7, 8}, 54},
		{30, []int{1, 7, 11, 13, 17, 19, 23, 29}, 240},
		{60, []int{1, 7, 11, 13, 17, 19, 23, 29, 31, 37, 41, 43, 47, 49, 53, 59}, 960},
		{64, []int{1, 3, 5, 7, 9, 11, 13, 15, 17, 19, 21, 23, 25, 27, 29, 31, 33, 35, 37, 39, 41, 43, 45, 47, 49, 51, 53, 55, 57, 59, 61, 63}, 2048},
	} {
		if l := stride.Strides(x.n); !slices.Equal(l, x.want) {
			t.Errorf("%d: %v", x.n, l)
		}
		if orders := stride.Orders(x.n); orders != x.orders {
			t.Errorf("%d: %d orders", x.n, orders)
		}
	}
}

// P3.1
func TestStridesAndOrders(t *testing.T) {
	for n := 1; n <= stride.MaxPlaces; n++ {
		want := stridesOf(n)
		if l := stride.Strides(n); !slices.Equal(l, want) {
			t.Errorf("%d: %v; want %v", n, l, want)
		}
		if orders := stride.Orders(n); orders != n*len(want) {
			t.Errorf("%d: %d orders; want %d", n, orders, n*len(want))
		}
	}
}

// P3.1, P3.2
func TestNumbersOfPlacesThatMayNotBe(t *testing.T) {
	for _, n := range noPlaces {
		if l, orders := stride.Strides(n), stride.Orders(n); len(l) != 0 || orders != 0 {
			t.Errorf("%d: %v, %d orders", n, l, orders)
		}
		for _, x := range numbersAtEdges {
			if l := stride.Order(n, x); len(l) != 0 {
				t.Errorf("Order(%d, %d): %v", n, x, l)
			}
			if l := stride.Others(n, x, 0, x, n); len(l) != 0 {
				t.Errorf("Others(%d, %d): %v", n, x, l)
			}
			for _, by := range append([]int{n - 1, n, n + 1}, numbersAtEdges...) {
				if draw, ok := stride.Draw(n, x, by); draw != 0 || ok {
					t.Errorf("Draw(%d, %d, %d): %d, %t", n, x, by, draw, ok)
				}
			}
		}
	}
}

// P3.2
func TestOrderOfNamedDraws(t *testing.T) {
	for _, x := range []struct {
		n, draw int
		want    []int
	}{
		{1, 0, []int{0}},
		{1, 5, []int{0}},
		{1, math.MinInt, []int{0}},
		{1, math.MaxInt, []int{0}},
		{2, 0, []int{0, 1}},
		{2, 1, []int{1, 0}},
		{2, 2, []int{0, 1}},
		{2, -1, []int{1, 0}},
		{2, math.MinInt, []int{0, 1}},
		{2, math.MaxInt, []int{1, 0}},
		{5, 7, []int{2, 4, 1, 3, 0}},
		{6, 0, []int{0, 1, 2, 3, 4, 5}},
		{6, 5, []int{5, 0, 1, 2, 3, 4}},
		{6, 6, []int{0, 5, 4, 3, 2, 1}},
		{6, 8, []int{2, 1, 0, 5, 4, 3}},
		{6, 11, []int{5, 4, 3, 2, 1, 0}},
		{6, 12, []int{0, 1, 2, 3, 4, 5}},
		{6, 13, []int{1, 2, 3, 4, 5, 0}},
		{6, -1, []int{5, 4, 3, 2, 1, 0}},
		{6, -12, []int{0, 1, 2, 3, 4, 5}},
		{6, -13, []int{5, 4, 3, 2, 1, 0}},
		{6, math.MinInt, []int{4, 5, 0, 1, 2, 3}}, // -2^63 is 4, modulo 12
		{6, math.MaxInt, []int{1, 0, 5, 4, 3, 2}}, // 2^63 - 1 is 7, modulo 12
		{8, 9, []int{1, 4, 7, 2, 5, 0, 3, 6}},
	} {
		if l := stride.Order(x.n, x.draw); !slices.Equal(l, x.want) {
			t.Errorf("%d, %d: %v; want %v", x.n, x.draw, l, x.want)
		}
	}
}

// P3.2
func TestOrder(t *testing.T) {
	for n := 1; n <= stride.MaxPlaces; n++ {
		for _, draw := range someDraws(n) {
			start, by := startAndStride(n, draw)
			if l, want := stride.Order(n, draw), orderOf(n, start, by); !slices.Equal(l, want) {
				t.Fatalf("%d, %d: %v; want %v", n, draw, l, want)
			}
		}
	}
}

// P3.2
func TestOthersOfNamedPlaces(t *testing.T) {
	for _, x := range []struct {
		name    string
		n, draw int
		without []int
		want    []int
	}{
		{"nil", 6, 8, nil, []int{2, 1, 0, 5, 4, 3}},
		{"none", 6, 8, []int{}, []int{2, 1, 0, 5, 4, 3}},
		{"an example", 6, -1, []int{0, 9}, []int{5, 4, 3, 2, 1}},
		{"the first one", 6, 8, []int{2}, []int{1, 0, 5, 4, 3}},
		{"the last one", 6, 8, []int{3}, []int{2, 1, 0, 5, 4}},
		{"one between", 6, 8, []int{0}, []int{2, 1, 5, 4, 3}},
		{"twice", 6, 8, []int{5, 5, 5}, []int{2, 1, 0, 4, 3}},
		{"some, in another order, one twice", 5, 7, []int{4, 4, 0, 9}, []int{2, 1, 3}},
		{"none of n's", 6, 8, []int{6, -1, 64, 12, math.MinInt, math.MaxInt, 1 << 32, 1<<32 + 1, -6}, []int{2, 1, 0, 5, 4, 3}},
		{"all but one", 6, 8, []int{0, 1, 2, 4, 5}, []int{3}},
		{"all", 6, 8, []int{5, 4, 3, 2, 1, 0}, nil},
		{"the one place there is", 1, 3, []int{0}, nil},
		{"of one place another one", 1, 3, []int{1}, []int{0}},
		{"the greatest place", 64, 0, []int{63, 64}, orderOf(63, 0, 1)},
	} {
		if l := stride.Others(x.n, x.draw, x.without...); !slices.Equal(l, x.want) {
			t.Errorf("%s: %v; want %v", x.name, l, x.want)
		}
	}
}

// P3.2
func TestOthers(t *testing.T) {
	source := rand.New(rand.NewSource(2))
	for n := 1; n <= stride.MaxPlaces; n++ {
		for _, draw := range someDraws(n) {
			without := make([]int, source.Intn(2*n))
			for i := range without {
				without[i] = source.Intn(n+4) - 2
			}
			var want []int
			for _, place := range stride.Order(n, draw) {
				if !slices.Contains(without, place) {
					want = append(want, place)
				}
			}
			if l := stride.Others(n, draw, without...); !slices.Equal(l, want) {
				t.Fatalf("%d, %d, %v: %v; want %v", n, draw, without, l, want)
			}
		}
	}
}

// P3.2
func TestDrawOfNamedStartsAndStrides(t *testing.T) {
	for _, x := range []struct {
		n, start, by, want int
		ok                 bool
	}{
		{1, 0, 1, 0, true}, {1, 0, 0, 0, false}, {1, 0, 2, 0, false}, {1, 1, 1, 0, false}, {1, -1, 1, 0, false},
		{2, 0, 1, 0, true}, {2, 1, 1, 1, true}, {2, 1, 2, 0, false}, {2, 2, 1, 0, false},
		{6, 2, 5, 8, true}, {6, 0, 1, 0, true}, {6, 5, 1, 5, true}, {6, 0, 5, 6, true}, {6, 5, 5, 11, true},
		{6, 2, 0, 0, false}, {6, 2, 2, 0, false}, {6, 2, 3, 0, false}, {6, 2, 6, 0, false}, {6, 2, 7, 0, false}, {6, 2, 11, 0, false}, {6, 2, -1, 0, false}, {6, 2, -5, 0, false},
		{6, -1, 1, 0, false}, {6, 6, 1, 0, false}, {6, 7, 5, 0, false}, {6, 6, 2, 0, false},
		{6, math.MinInt, 1, 0, false}, {6, math.MaxInt, 1, 0, false}, {6, 0, math.MinInt, 0, false}, {6, 0, math.MaxInt, 0, false}, {6, 1<<32 + 1, 1, 0, false}, {6, 1, 1<<32 + 1, 0, false},
		{8, 1, 3, 9, true}, {8, 7, 7, 31, true}, {64, 63, 63, 2047, true}, {64, 63, 64, 0, false}, {64, 64, 63, 0, false},
	} {
		if draw, ok := stride.Draw(x.n, x.start, x.by); draw != x.want || ok != x.ok {
			t.Errorf("%d, %d, %d: %d, %t; want %d, %t", x.n, x.start, x.by, draw, ok, x.want, x.ok)
		}
	}
}

// P3.2
func TestDraw(t *testing.T) {
	for n := 1; n <= stride.MaxPlaces; n++ {
		type way struct{ start, by int }
		least := map[way]int{}
		for draw := n*len(stridesOf(n)) - 1; draw >= 0; draw-- {
			start, by := startAndStride(n, draw)
			least[way{start, by}] = draw
		}
		for start := -2; start < n+2; start++ {
			for by := -2; by < n+2; by++ {
				want, there := least[way{start, by}]
				if draw, ok := stride.Draw(n, start, by); draw != want || ok != there {
					t.Fatalf("%d, %d, %d: %d, %t; want %d, %t", n, start, by, draw, ok, want, there)
				}
			}
		}
	}
}

// P3.3
func TestWhatIsHandedInIsOnlyRead(t *testing.T) {
	all := []int{12, -18, 0, 5, 5, 77, math.MinInt, 1, 9, 3}
	kept := slices.Clone(all)
	for from := range all {
		for to := from; to <= len(all); to++ {
			l := all[from:to]
			stride.Gcd(l...)
			stride.Others(6, 8, l...)
			stride.Others(65, 8, l...)
		}
	}
	if !slices.Equal(all, kept) {
		t.Errorf("%v", all)
	}
}

// spoil overwrites an answer, and what lies behind its length.
func spoil(l []int) {
	l = l[:cap(l)]
	for i := range l {
		l[i] = -77
	}
}

// P3.3
func TestWhatIsAnsweredIsNewMemory(t *testing.T) {
	without := []int{9, 2, 1, 2}
	for _, x := range []struct {
		name   string
		answer func() []int
		want   []int
	}{
		{"Strides", func() []int { return stride.Strides(9) }, []int{1, 2, 4, 5, 7, 8}},
		{"Order", func() []int { return stride.Order(6, 8) }, []int{2, 1, 0, 5, 4, 3}},
		{"Others without any", func() []int { return stride.Others(6, 8) }, []int{2, 1, 0, 5, 4, 3}},
		{"Others without some", func() []int { return stride.Others(6, 8, without...) }, []int{0, 5, 4, 3}},
	} {
		first, second := x.answer(), x.answer()
		spoil(first)
		if third := x.answer(); !slices.Equal(second, x.want) || !slices.Equal(third, x.want) {
			t.Errorf("%s: %v, %v; want %v", x.name, second, third, x.want)
		}
		if !slices.Equal(without, []int{9, 2, 1, 2}) {
			t.Errorf("%s: what was handed in is %v", x.name, without)
		}
	}
	// What a caller does to an answer changes no later answer of another call.
	spoil(stride.Strides(6))
	if l := stride.Order(6, 8); !slices.Equal(l, []int{2, 1, 0, 5, 4, 3}) || stride.Orders(6) != 12 {
		t.Errorf("%v, %d", l, stride.Orders(6))
	}
	if draw, ok := stride.Draw(6, 2, 5); draw != 8 || !ok {
		t.Errorf("%d, %t", draw, ok)
	}
}

// P3.4
func TestAnOrderHasEachPlaceOnce(t *testing.T) {
	for n := 1; n <= stride.MaxPlaces; n++ {
		for draw := -2; draw < stride.Orders(n)+2; draw++ {
			l := stride.Order(n, draw)
			slices.Sort(l)
			if !slices.Equal(l, orderOf(n, 0, 1)) {
				t.Fatalf("%d, %d: rising %v", n, draw, l)
			}
		}
	}
}

// P3.4
func TestDrawsHaveEachStartAndStrideOnce(t *testing.T) {
	for n := 1; n <= stride.MaxPlaces; n++ {
		type way struct{ start, by int }
		seen := map[way]int{}
		for draw := range stride.Orders(n) {
			l := stride.Order(n, draw)
			start, by := l[0], n // the one place that there is: its stride is 1, as is n
			if n > 1 {
				by = (l[1] - l[0] + n) % n
			}
			seen[way{start, by}]++
			if back, ok := stride.Draw(n, start, by); back != draw || !ok {
				t.Fatalf("%d: of %d, by %d the draw is %d, %t; want %d", n, start, by, back, ok, draw)
			}
		}
		for start := range n {
			for _, by := range stride.Strides(n) {
				if seen[way{start, by}] != 1 {
					t.Errorf("%d: from %d by %d there are %d", n, start, by, seen[way{start, by}])
				}
			}
		}
	}
}

// P3.4
func TestDrawsBeginAgain(t *testing.T) {
	for n := 1; n <= stride.MaxPlaces; n++ {
		orders := stride.Orders(n)
		for draw := range orders {
			l := stride.Order(n, draw)
			for _, again := range []int{draw + orders, draw + 1000*orders, draw - orders, draw - 1000*orders} {
				if other := stride.Order(n, again); !slices.Equal(l, other) {
					t.Fatalf("%d: of %d %v, of %d %v", n, draw, l, again, other)
				}
			}
		}
	}
}

// P3.4
func TestTwoNextToEachOtherAreTheStrideApart(t *testing.T) {
	for n := 1; n <= stride.MaxPlaces; n++ {
		for _, by := range stride.Strides(n) {
			for start := range n {
				draw, _ := stride.Draw(n, start, by)
				l := stride.Order(n, draw)
				for i, place := range l {
					if next := l[(i+1)%n]; (place+by)%n != next {
						t.Fatalf("%d, from %d by %d: %d behind %d", n, start, by, next, place)
					}
				}
			}
		}
	}
}
