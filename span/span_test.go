package span_test

import (
	"math"
	"math/big"
	"math/rand"
	"regexp"
	"slices"
	"strings"
	"testing"

	"distaff/api"
	"distaff/span"
)

// someFloats are floats of all magnitudes and signs, those at and beside the edges of spans among them.
func someFloats() []float64 {
	edges := []float64{0, math.SmallestNonzeroFloat64, 0x1p-1022, 1e-7, 0.000001, 0.5, 1, 1.1, 1.5, 1 << 33, 1 << 52, 1 << 53, 4611686018427.387904, 1e15, math.MaxFloat64, math.Inf(1)}
	var l []float64
	for _, f := range edges {
		l = append(l, f, -f, math.Nextafter(f, math.Inf(1)), math.Nextafter(f, math.Inf(-1)))
	}
	source := rand.New(rand.NewSource(1))
	for range 20000 {
		l = append(l, math.Float64frombits(source.Uint64()))
		l = append(l, float64(source.Int63n(1<<53))/1000000, float64(source.Int63())/1000000, source.Float64()*5e12)
	}
	return l
}

// productOf is f times 10^6, worked out exactly and rounded once, to the nearest float64 (of two to the even one).
func productOf(f float64) float64 {
	exact := new(big.Rat).SetFloat64(f)
	exact.Mul(exact, big.NewRat(1000000, 1))
	p, _ := exact.Float64()
	return p
}

// spanOf is what the chapter's words tell of f, apart from the program.
func spanOf(f float64) (n int64, e api.Errno, class int) {
	switch {
	case math.IsNaN(f) || f < 0:
		return 0, api.ErrSpan, span.Bad
	case f == 0:
		return 0, api.OK, span.Zero
	case math.IsInf(f, 1) || productOf(f) >= 0x1p62:
		return span.Max, api.OK, span.All
	}
	whole, _ := new(big.Float).SetFloat64(productOf(f)).Int64()
	if whole == 0 {
		return 0, api.OK, span.Tiny
	}
	return whole, api.OK, span.Some
}

// P1.1
func TestNanosAndClassOfNamedFloats(t *testing.T) {
	below := func(f float64) float64 { return math.Nextafter(f, math.Inf(-1)) }
	above := func(f float64) float64 { return math.Nextafter(f, math.Inf(1)) }
	for _, x := range []struct {
		name  string
		f     float64
		n     int64
		e     api.Errno
		class int
	}{
		{"0", 0, 0, api.OK, span.Zero},
		{"-0", math.Copysign(0, -1), 0, api.OK, span.Zero},
		{"1.5", 1.5, 1500000, api.OK, span.Some},
		{"what is behind the point is left out", 0.0000019, 1, api.OK, span.Some},
		{"a product that is rounded up to a whole number", 0.000001, 1, api.OK, span.Some},
		{"just below a nanosecond", below(0.000001), 0, api.OK, span.Tiny},
		{"0.0000001", 0.0000001, 0, api.OK, span.Tiny},
		{"the least float", math.SmallestNonzeroFloat64, 0, api.OK, span.Tiny},
		{"the least normal float", 0x1p-1022, 0, api.OK, span.Tiny},
		{"a tie, the even one below", 576460752305, 576460752305*1000000 - 64, api.OK, span.Some},
		{"a tie, the even one above", 576460752307, 576460752307*1000000 + 64, api.OK, span.Some},
		{"2^33 ms", 1 << 33, 1 << 33 * 1000000, api.OK, span.Some},
		{"the last float below Max", below(0x1p62 / 1000000), 1<<62 - 1024, api.OK, span.Some},
		{"the float nearest to Max", 0x1p62 / 1000000, span.Max, api.OK, span.All},
		{"the next float", above(0x1p62 / 1000000), span.Max, api.OK, span.All},
		{"a product of 2^63", 0x1p63 / 1000000, span.Max, api.OK, span.All},
		{"a product of 2^64", 0x1p64 / 1000000, span.Max, api.OK, span.All},
		{"a product that overflows", math.MaxFloat64, span.Max, api.OK, span.All},
		{"+Inf", math.Inf(1), span.Max, api.OK, span.All},
		{"NaN", math.NaN(), 0, api.ErrSpan, span.Bad},
		{"NaN with a sign", math.Float64frombits(0xfff8000000000001), 0, api.ErrSpan, span.Bad},
		{"a signalling NaN", math.Float64frombits(0x7ff0000000000001), 0, api.ErrSpan, span.Bad},
		{"-Inf", math.Inf(-1), 0, api.ErrSpan, span.Bad},
		{"-1", -1, 0, api.ErrSpan, span.Bad},
		{"-0.001", -0.001, 0, api.ErrSpan, span.Bad},
		{"-0.0000001", -0.0000001, 0, api.ErrSpan, span.Bad},
		{"the least float below 0", -math.SmallestNonzeroFloat64, 0, api.ErrSpan, span.Bad},
		{"the greatest float below 0", -math.MaxFloat64, 0, api.ErrSpan, span.Bad},
	} {
		if n, e := span.Nanos(x.f); n != x.n || e != x.e {
			t.Errorf("%s: Nanos %d, %d; want %d, %d", x.name, n, e, x.n, x.e)
		}
		if class := span.Class(x.f); class != x.class {
			t.Errorf("%s: Class %d; want %d", x.name, class, x.class)
		}
	}
}

// P1.1
func TestNanosAndClassAreThoseOfTheExactProduct(t *testing.T) {
	for _, f := range someFloats() {
		want, wantE, wantClass := spanOf(f)
		if n, e := span.Nanos(f); n != want || e != wantE {
			t.Fatalf("Nanos(%g, bits %x): %d, %d; want %d, %d", f, math.Float64bits(f), n, e, want, wantE)
		}
		if class := span.Class(f); class != wantClass {
			t.Fatalf("Class(%g, bits %x): %d; want %d", f, math.Float64bits(f), class, wantClass)
		}
	}
}

// P1.1
func TestConstants(t *testing.T) {
	if span.Max != 4611686018427387904 {
		t.Errorf("Max is %d", span.Max)
	}
	if got := [5]int{span.Bad, span.Zero, span.Tiny, span.Some, span.All}; got != [5]int{0, 1, 2, 3, 4} {
		t.Errorf("classes are %v", got)
	}
}

// P1.2
func TestSum(t *testing.T) {
	for _, x := range []struct {
		name string
		l    []int64
		want int64
	}{
		{"nil", nil, 0},
		{"nothing", []int64{}, 0},
		{"one", []int64{7}, 7},
		{"0", []int64{0, 0}, 0},
		{"several", []int64{1, 20, 300}, 321},
		{"below 0 counts as 0", []int64{5, -7, 3}, 8},
		{"just numbers below 0", []int64{-1, math.MinInt64}, 0},
		{"an example", []int64{5, -7, 1 << 62}, span.Max},
		{"Max", []int64{span.Max}, span.Max},
		{"above Max", []int64{math.MaxInt64}, span.Max},
		{"one above Max", []int64{span.Max + 1, 0}, span.Max},
		{"one below Max", []int64{span.Max - 1}, span.Max - 1},
		{"just below Max", []int64{span.Max - 3, 2}, span.Max - 1},
		{"just Max", []int64{span.Max - 1, 1}, span.Max},
		{"just above Max", []int64{span.Max - 1, 2}, span.Max},
		{"twice Max", []int64{span.Max, span.Max}, span.Max},
		{"more than 64 digits hold", []int64{span.Max, span.Max, span.Max, span.Max, span.Max}, span.Max},
		{"below 0 behind Max takes nothing away", []int64{span.Max, -5}, span.Max},
		{"greatest and least", []int64{math.MaxInt64, math.MaxInt64, math.MinInt64}, span.Max},
	} {
		before := slices.Clone(x.l)
		if n := span.Sum(x.l...); n != x.want {
			t.Errorf("%s: %d; want %d", x.name, n, x.want)
		}
		if !slices.Equal(before, x.l) {
			t.Errorf("%s: what was handed in became %v", x.name, x.l)
		}
	}
}

// P1.2
func TestSumOfManyNumbers(t *testing.T) {
	source := rand.New(rand.NewSource(2))
	greatest := big.NewInt(span.Max)
	for range 2000 {
		var l []int64
		exact := new(big.Int)
		for range source.Intn(9) {
			n := int64(source.Uint64()) >> source.Intn(64)
			l = append(l, n)
			exact.Add(exact, big.NewInt(min(max(n, 0), span.Max)))
		}
		if exact.Cmp(greatest) > 0 {
			exact = greatest
		}
		if n := span.Sum(l...); n != exact.Int64() {
			t.Fatalf("%v: %d; want %d", l, n, exact)
		}
	}
}

// P1.2
func TestMillis(t *testing.T) {
	for _, x := range []struct {
		n    int64
		want float64
	}{
		{0, 0}, {1, 0.000001}, {1000000, 1}, {1500000, 1.5}, {2500000, 2.5}, {123456789, 123.456789},
		{-1, 0}, {math.MinInt64, 0},
		{1<<53 + 1, 9007199254740992.0 / 1000000}, // rounded to an even float64 ahead of the division
		{span.Max - 1, 4611686018427.387904},
		{span.Max, 4611686018427.387904},
		{span.Max + 1, 4611686018427.387904},
		{math.MaxInt64, 4611686018427.387904},
	} {
		if f := span.Millis(x.n); f != x.want || math.Signbit(f) {
			t.Errorf("%d: %g; want %g", x.n, f, x.want)
		}
	}
}

// P1.2
func TestMillisIsTheQuotientOfTheRoundedNumber(t *testing.T) {
	source := rand.New(rand.NewSource(3))
	for range 20000 {
		n := source.Int63n(span.Max) >> source.Intn(62)
		rounded, _ := new(big.Rat).SetInt64(n).Float64()
		quotient := new(big.Rat).SetFloat64(rounded)
		want, _ := quotient.Quo(quotient, big.NewRat(1000000, 1)).Float64()
		if f := span.Millis(n); f != want {
			t.Fatalf("%d: %g; want %g", n, f, want)
		}
	}
}

// P1.3
func TestText(t *testing.T) {
	for _, x := range []struct {
		n    int64
		want string
	}{
		{0, "0.000000"}, {1, "0.000001"}, {10, "0.000010"}, {99999, "0.099999"}, {999999, "0.999999"},
		{1000000, "1.000000"}, {1500000, "1.500000"}, {9999999, "9.999999"}, {10000000, "10.000000"},
		{123456789, "123.456789"}, {1000000000001, "1000000.000001"},
		{span.Max - 1, "4611686018427.387903"}, {span.Max, "4611686018427.387904"},
		{span.Max + 1, ""}, {math.MaxInt64, ""}, {-1, ""}, {-1500000, ""}, {math.MinInt64, ""},
	} {
		if s := span.Text(x.n); s != x.want {
			t.Errorf("%d: %q; want %q", x.n, s, x.want)
		}
	}
}

// readOf is what the chapter's words tell of s, apart from the program.
func readOf(s string) (int64, api.Errno) {
	if !regexp.MustCompile(`\A(0|[1-9][0-9]*)\.[0-9]{6}\z`).MatchString(s) {
		return 0, api.ErrSpan
	}
	n, _ := new(big.Int).SetString(strings.Replace(s, ".", "", 1), 10)
	if n.Cmp(big.NewInt(span.Max)) > 0 {
		return 0, api.ErrSpan
	}
	return n.Int64(), api.OK
}

// P1.3
func TestRead(t *testing.T) {
	for _, x := range []struct {
		s string
		n int64
	}{
		{"0.000000", 0}, {"0.000001", 1}, {"0.100000", 100000}, {"1.500000", 1500000}, {"10.000000", 10000000},
		{"100000.000100", 100000000100}, {"4611686018427.387903", span.Max - 1}, {"4611686018427.387904", span.Max},
	} {
		if n, e := span.Read(x.s); n != x.n || e != api.OK {
			t.Errorf("%q: %d, %d; want %d", x.s, n, e, x.n)
		}
	}
}

// P1.3
func TestReadOfWhatIsNoSpansText(t *testing.T) {
	for _, s := range []string{
		"", " ", ".", "0", "1", "1.", "1.5", "1.0", "1.50000", "1.5000000", "1500000", "15000000",
		".000000", ".500000", "00.000000", "01.000000", "000000001.000000", "-0.000000", "-0.000001", "-1.000000", "+0.000000", "+1.000000", "+.000000", "-.000000",
		" 1.000000", "1.000000 ", "1.000000\n", "1. 00000", "1 .000000", "1.000000\x00", "\x001.000000",
		"1,500000", "1..00000", "1.00.000", "1.-00001", "1.+00001", "1.00000a", "a.000000", "1.0000e1", "1e1.000000", "0x1.000000", "1_0.000000", "1.000_000",
		"10000000", "0000000", "1:000000", "1/000000",
		"4611686018427.387905", "4611686018427.387910", "4611686018428.000000", "5000000000000.000000", "9999999999999.999999",
		"9223372036854.775807", "9223372036854.775808", "18446744073709.551616", "18446744073709.551617", "99999999999999999999.000000",
		"NaN", "+Inf", "Infinity", "nil", "٠.٠٠٠٠٠٠", "１.000000", "\xff.000000", "1.\xff\xff\xff\xff\xff\xff",
		strings.Repeat("0", 1<<20) + ".000000", strings.Repeat("9", 1<<20), "1." + strings.Repeat("0", 1<<20), "0." + strings.Repeat("0", 18),
	} {
		if n, e := span.Read(s); n != 0 || e != api.ErrSpan {
			t.Errorf("%.40q: %d, %d", s, n, e)
		}
	}
}

// P1.3
func TestReadOfTextsThatAreOffByAByte(t *testing.T) {
	for _, right := range []string{"0.000000", "0.000001", "1.500000", "10.000000", "4611686018427.387904", "4611686018427.000000"} {
		var l []string
		for i := range len(right) + 1 {
			for b := range 256 {
				l = append(l, right[:i]+string([]byte{byte(b)})+right[i:])
				if i < len(right) {
					l = append(l, right[:i]+string([]byte{byte(b)})+right[i+1:])
				}
			}
			l = append(l, right[:i], right[i:])
			if i < len(right) {
				l = append(l, right[:i]+right[i+1:])
			}
		}
		for _, s := range l {
			want, wantE := readOf(s)
			if n, e := span.Read(s); n != want || e != wantE {
				t.Errorf("%q: %d, %d; want %d, %d", s, n, e, want, wantE)
			}
		}
	}
}

// P1.4
func TestTheGreaterHasNotTheLesserSpan(t *testing.T) {
	l := slices.DeleteFunc(someFloats(), func(f float64) bool { return math.IsNaN(f) || f < 0 })
	slices.Sort(l)
	var last int64
	for _, f := range l {
		n, e := span.Nanos(f)
		if n < last || e != api.OK {
			t.Fatalf("%g: %d, %d, behind %d", f, n, e, last)
		}
		last = n
	}
	if last != span.Max {
		t.Errorf("the greatest one has %d", last)
	}
}

// P1.4
func TestWholeMilliseconds(t *testing.T) {
	l := []int64{0, 1, 2, 3, 9, 10, 999, 1 << 20, 1<<32 - 1, 1 << 32, 1<<32 + 1, 1<<33 - 2, 1<<33 - 1, 1 << 33}
	source := rand.New(rand.NewSource(4))
	for range 20000 {
		l = append(l, source.Int63n(1<<33+1)>>source.Intn(34))
	}
	for _, k := range l {
		n, e := span.Nanos(float64(k))
		if n != 1000000*k || e != api.OK {
			t.Fatalf("%d ms: %d, %d", k, n, e)
		}
		if f := span.Millis(n); f != float64(k) {
			t.Fatalf("%d ms are told as %g", k, f)
		}
	}
}

// P1.4
func TestTheOrderOfASumCountsForNothing(t *testing.T) {
	source := rand.New(rand.NewSource(5))
	for _, l := range [][]int64{{1, 2, 3}, {span.Max, -1, 5}, {math.MinInt64, span.Max - 1, 1, -1}, {span.Max - 1, 2, 0, -9}, {math.MaxInt64, math.MinInt64, 1}} {
		want := span.Sum(l...)
		for range 50 {
			mixed := slices.Clone(l)
			source.Shuffle(len(mixed), func(i, j int) { mixed[i], mixed[j] = mixed[j], mixed[i] })
			if n := span.Sum(mixed...); n != want {
				t.Fatalf("%v: %d; %v: %d", l, want, mixed, n)
			}
		}
	}
}

// P1.4
func TestWhatWasToldIsReadAsItWas(t *testing.T) {
	l := []int64{0, 1, 999999, 1000000, 1000001, span.Max - 1, span.Max}
	source := rand.New(rand.NewSource(6))
	for range 20000 {
		l = append(l, source.Int63n(span.Max)>>source.Intn(62))
	}
	for _, n := range l {
		s := span.Text(n)
		if read, e := span.Read(s); read != n || e != api.OK {
			t.Fatalf("%d is told as %q, and read as %d, %d", n, s, read, e)
		}
	}
}

// P1.4
func TestASpanToldByMillisIsOffByOneAtMost(t *testing.T) {
	l := []int64{0, 1, 2, 999999, 1<<51 - 1, 1 << 51, 1<<52 - 2, 1<<52 - 1}
	source := rand.New(rand.NewSource(7))
	for range 20000 {
		l = append(l, source.Int63n(1<<52)>>source.Intn(52))
	}
	for _, n := range l {
		back, e := span.Nanos(span.Millis(n))
		if e != api.OK || back < n-1 || back > n+1 {
			t.Fatalf("%d came back as %d, %d", n, back, e)
		}
	}
}
