package conf_test

import (
	"math"
	"math/big"
	"math/rand"
	"regexp"
	"slices"
	"strconv"
	"strings"
	"testing"

	"distaff/api"
	"distaff/conf"
)

// rooms are those that a config may have, by the chapter's words.
var rooms = []int{2, 4, 8, 16, 32, 64}

// small is the config of the chapter's examples.
var small = conf.Config{N: 2, Q: 4, G: 8, M: 3, T: 5, S: 1}

// places are what a P has ahead of its slots, in order, by the chapter's words.
var places = []string{"word", "next", "stat", "tick", "sys", "flag"}

// asks are the calls that tell the addresses of the places, in the same order.
var asks = []func(conf.Config, int) int{conf.Config.Word, conf.Config.Next, conf.Config.Stat, conf.Config.Tick, conf.Config.Sys, conf.Config.Flag}

// mayBe tells by the chapter's words whether a config is right.
func mayBe(c conf.Config) bool {
	return c.N >= 1 && c.N <= 8 && slices.Contains(rooms, c.Q) && c.G >= 1 && c.G <= 256 && c.M > c.N && c.M <= 16 && c.T >= 2 && c.T <= 200 && c.S >= 0 && c.S <= 1000
}

// layout is all names of a config's cells, by their addresses.
func layout(c conf.Config) []string {
	l := []string{"ticket", "serving", "idle", "size"}
	for p := range c.N {
		for _, place := range places {
			l = append(l, place+" "+strconv.Itoa(p))
		}
		for i := range c.Q {
			l = append(l, "slot "+strconv.Itoa(p)+" "+strconv.Itoa(i))
		}
	}
	return l
}

// text is a config's, whether it is right or not.
func text(c conf.Config) string {
	l := []string{"n", strconv.Itoa(c.N), "q", strconv.Itoa(c.Q), "g", strconv.Itoa(c.G), "m", strconv.Itoa(c.M), "t", strconv.Itoa(c.T), "s", strconv.Itoa(c.S)}
	return strings.Join(l, " ")
}

// shapes are right configs of all Ps and rooms, with some of the other numbers.
func shapes() []conf.Config {
	var l []conf.Config
	for n := 1; n <= 8; n++ {
		for _, q := range rooms {
			l = append(l, conf.Config{N: n, Q: q, G: 1, M: n + 1, T: 2, S: 0}, conf.Config{N: n, Q: q, G: 200, M: 16, T: 61, S: 7})
		}
	}
	return l
}

// wrong are configs that are not right.
func wrong() []conf.Config {
	l := []conf.Config{{}, {N: -1, Q: -1, G: -1, M: -1, T: -1, S: -1}, {N: 1}, {Q: 4}, {N: 2, Q: 4}, {N: 2, Q: 4, M: 3}}
	for _, n := range []int{math.MinInt, -8, -1, 0, 9, 16, math.MaxInt - 1, math.MaxInt} {
		c := small
		c.N = n
		l = append(l, c)
		c.M = n + 1
		l = append(l, c)
	}
	for _, q := range []int{math.MinInt, -64, -4, -2, -1, 0, 1, 3, 5, 6, 7, 9, 12, 24, 31, 33, 48, 63, 65, 96, 128, 256, 65536, 1 << 32, 1 << 62, math.MaxInt} {
		c := small
		c.Q = q
		l = append(l, c)
	}
	for _, g := range []int{math.MinInt, -8, -1, 0, 257, 512, math.MaxInt} {
		c := small
		c.G = g
		l = append(l, c)
	}
	for _, m := range []int{math.MinInt, -3, -1, 0, 1, 2, 17, 18, math.MaxInt} {
		c := small
		c.M = m
		l = append(l, c)
	}
	for _, n := range []int{math.MinInt, -5, -1, 0, 1, 201, 202, math.MaxInt} {
		c := small
		c.T = n
		l = append(l, c)
	}
	for _, s := range []int{math.MinInt, -1000, -1, 1001, 1002, math.MaxInt} {
		c := small
		c.S = s
		l = append(l, c)
	}
	return l
}

// P5.1
func TestBoundsAndFirstCells(t *testing.T) {
	if conf.MaxN != 8 || conf.MaxQ != 64 || conf.MaxG != 256 || conf.MaxM != 16 || conf.MaxT != 200 || conf.MaxS != 1000 {
		t.Error("bounds")
	}
	if conf.Ticket != 0 || conf.Serving != 1 || conf.Idle != 2 || conf.Size != 3 || conf.Semas != 4 {
		t.Error("first cells")
	}
	var d int64 = conf.D
	if d != 10000000 {
		t.Errorf("%d", d)
	}
}

// P5.1
func TestRightOfNamedConfigs(t *testing.T) {
	least, greatest := conf.Config{N: 1, Q: 2, G: 1, M: 2, T: 2, S: 0}, conf.Config{N: 8, Q: 64, G: 256, M: 16, T: 200, S: 1000}
	for _, x := range []struct {
		name string
		c    conf.Config
		want bool
	}{
		{"all at the least", least, true},
		{"all at the greatest", greatest, true},
		{"the examples'", small, true},
		{"M at N and 1, of the greatest N", conf.Config{N: 8, Q: 2, G: 1, M: 9, T: 2, S: 0}, true},
		{"M at N, of the greatest N", conf.Config{N: 8, Q: 2, G: 1, M: 8, T: 2, S: 0}, false},
		{"M at N, of the least N", conf.Config{N: 1, Q: 2, G: 1, M: 1, T: 2, S: 0}, false},
		{"M at the greatest, of the least N", conf.Config{N: 1, Q: 2, G: 1, M: 16, T: 2, S: 0}, true},
		{"M past the greatest", conf.Config{N: 8, Q: 2, G: 1, M: 17, T: 2, S: 0}, false},
		{"N 0", conf.Config{N: 0, Q: 2, G: 1, M: 2, T: 2, S: 0}, false},
		{"N 9", conf.Config{N: 9, Q: 64, G: 256, M: 16, T: 200, S: 1000}, false},
		{"N so great that N and 1 goes round", conf.Config{N: math.MaxInt, Q: 2, G: 1, M: 2, T: 2, S: 0}, false},
		{"Q 1", conf.Config{N: 1, Q: 1, G: 1, M: 2, T: 2, S: 0}, false},
		{"Q 0", conf.Config{N: 1, Q: 0, G: 1, M: 2, T: 2, S: 0}, false},
		{"Q 65", conf.Config{N: 1, Q: 65, G: 1, M: 2, T: 2, S: 0}, false},
		{"Q 128", conf.Config{N: 1, Q: 128, G: 1, M: 2, T: 2, S: 0}, false},
		{"Q the least number of all", conf.Config{N: 1, Q: math.MinInt, G: 1, M: 2, T: 2, S: 0}, false},
		{"G 0", conf.Config{N: 1, Q: 2, G: 0, M: 2, T: 2, S: 0}, false},
		{"G 257", conf.Config{N: 8, Q: 64, G: 257, M: 16, T: 200, S: 1000}, false},
		{"T 1", conf.Config{N: 1, Q: 2, G: 1, M: 2, T: 1, S: 0}, false},
		{"T 201", conf.Config{N: 8, Q: 64, G: 256, M: 16, T: 201, S: 1000}, false},
		{"S -1", conf.Config{N: 1, Q: 2, G: 1, M: 2, T: 2, S: -1}, false},
		{"S 1001", conf.Config{N: 8, Q: 64, G: 256, M: 16, T: 200, S: 1001}, false},
		{"a zero one", conf.Config{}, false},
	} {
		if right := x.c.Right(); right != x.want {
			t.Errorf("%s: %t", x.name, right)
		}
	}
}

// P5.1
func TestRightByEachNumber(t *testing.T) {
	for _, base := range shapes() {
		for n := -3; n <= 1100; n++ {
			of := []conf.Config{base, base, base, base, base, base}
			of[0].N, of[1].Q, of[2].G, of[3].M, of[4].T, of[5].S = n, n, n, n, n, n
			for i, c := range of {
				if right := c.Right(); right != mayBe(c) {
					t.Fatalf("number %d of %+v: %t", i, c, right)
				}
			}
		}
	}
}

// P5.1
func TestRightByNAndM(t *testing.T) {
	for n := -2; n <= 18; n++ {
		for m := -2; m <= 19; m++ {
			c := conf.Config{N: n, Q: 8, G: 9, M: m, T: 7, S: 3}
			if right := c.Right(); right != (n >= 1 && n <= 8 && m >= n+1 && m <= 16) {
				t.Errorf("N %d, M %d: %t", n, m, right)
			}
		}
	}
}

// P5.1
func TestCellsAndAddressesOfAllShapes(t *testing.T) {
	for _, c := range shapes() {
		names := layout(c)
		if n := c.Cells(); n != len(names) {
			t.Fatalf("%+v: %d cells, not %d", c, n, len(names))
		}
		for p := range c.N {
			for i, ask := range asks {
				want := slices.Index(names, places[i]+" "+strconv.Itoa(p))
				if a := ask(c, p); a != want {
					t.Fatalf("%+v, %s %d: %d, not %d", c, places[i], p, a, want)
				}
			}
			for i := range c.Q {
				want := slices.Index(names, "slot "+strconv.Itoa(p)+" "+strconv.Itoa(i))
				if a := c.Slot(p, uint32(i)); a != want {
					t.Fatalf("%+v, slot %d %d: %d, not %d", c, p, i, a, want)
				}
			}
		}
	}
}

// P5.1
func TestSlotsGoRound(t *testing.T) {
	source := rand.New(rand.NewSource(1))
	for _, c := range shapes() {
		q := uint32(c.Q)
		l := []uint32{0, 1, q - 2, q - 1, q, q + 1, 2*q - 1, 2 * q, 3*q + 1, 1 << 16, 1<<31 - 1, 1 << 31, 1<<31 + 1, math.MaxUint32 - 1, math.MaxUint32, -q, 1 - q}
		for range 100 {
			l = append(l, source.Uint32())
		}
		for p := range c.N {
			first := c.Flag(p) + 1
			for _, i := range l {
				// In 64 digits, in which nothing here goes round.
				if a, want := c.Slot(p, i), first+int(uint64(i)%uint64(c.Q)); a != want {
					t.Fatalf("%+v, slot %d %d: %d, not %d", c, p, i, a, want)
				}
			}
			if last := c.Slot(p, math.MaxUint32); last != first+c.Q-1 {
				t.Errorf("%+v, the greatest of %d: %d", c, p, last)
			}
		}
	}
}

// P5.1
func TestWhatIsNoPHasNoAddress(t *testing.T) {
	for _, c := range shapes() {
		for _, p := range []int{math.MinInt, math.MinInt + 1, -1 << 32, -9, -2, -1, c.N, c.N + 1, 8, 9, 100, 1 << 32, math.MaxInt/(c.Q+6) + 1, math.MaxInt - 1, math.MaxInt} {
			for i, ask := range asks {
				if a := ask(c, p); a != -1 {
					t.Fatalf("%+v, %s %d: %d", c, places[i], p, a)
				}
			}
			for _, i := range []uint32{0, 1, uint32(c.Q) - 1, uint32(c.Q), math.MaxUint32} {
				if a := c.Slot(p, i); a != -1 {
					t.Fatalf("%+v, slot %d %d: %d", c, p, i, a)
				}
			}
		}
	}
}

// P5.1, P5.2, P5.3
func TestConfigsThatAreNotRight(t *testing.T) {
	names := append(layout(conf.Config{N: 3, Q: 8}), "", "nothing")
	for _, c := range wrong() {
		if c.Right() || c.Cells() != 0 || c.Text() != "" {
			t.Fatalf("%+v: %t, %d, %q", c, c.Right(), c.Cells(), c.Text())
		}
		for _, p := range []int{math.MinInt, -1, 0, 1, 2, 7, 8, math.MaxInt} {
			for i, ask := range asks {
				if a := ask(c, p); a != -1 {
					t.Fatalf("%+v, %s %d: %d", c, places[i], p, a)
				}
			}
			for _, i := range []uint32{0, 1, 3, 64, math.MaxUint32} {
				if a := c.Slot(p, i); a != -1 {
					t.Fatalf("%+v, slot %d %d: %d", c, p, i, a)
				}
			}
		}
		for _, a := range []int{math.MinInt, -1, 0, 1, 3, 4, 10, 23, math.MaxInt} {
			if s := c.Name(a); s != "" {
				t.Fatalf("%+v, address %d: %q", c, a, s)
			}
		}
		for _, s := range names {
			if a, e := c.Find(s); a != -1 || e != api.ErrArg {
				t.Fatalf("%+v, %q: %d, %d", c, s, a, e)
			}
		}
		if d, e := conf.Read(text(c)); d != (conf.Config{}) || e != api.ErrArg {
			t.Fatalf("%q: %+v, %d", text(c), d, e)
		}
	}
}

// P5.1, P5.2
func TestTheExamples(t *testing.T) {
	if n, word, slot, stat := small.Cells(), small.Word(1), small.Slot(0, 6), small.Stat(2); n != 24 || word != 14 || slot != 12 || stat != -1 {
		t.Errorf("%d, %d, %d, %d", n, word, slot, stat)
	}
	if a, b, c := small.Name(3), small.Name(12), small.Name(24); a != "size" || b != "slot 0 2" || c != "" {
		t.Errorf("%q, %q, %q", a, b, c)
	}
	if a, e := small.Find("flag 1"); a != 19 || e != api.OK {
		t.Errorf("%d, %d", a, e)
	}
}

// P5.2
func TestNamesOfNamedAddresses(t *testing.T) {
	great := conf.Config{N: 8, Q: 64, G: 256, M: 16, T: 200, S: 1000}
	for _, x := range []struct {
		c    conf.Config
		a    int
		want string
	}{
		{small, 0, "ticket"}, {small, 1, "serving"}, {small, 2, "idle"}, {small, 3, "size"},
		{small, 4, "word 0"}, {small, 5, "next 0"}, {small, 6, "stat 0"}, {small, 7, "tick 0"}, {small, 8, "sys 0"}, {small, 9, "flag 0"}, {small, 10, "slot 0 0"}, {small, 13, "slot 0 3"},
		{small, 14, "word 1"}, {small, 19, "flag 1"}, {small, 20, "slot 1 0"}, {small, 23, "slot 1 3"},
		{great, 563, "slot 7 63"}, {great, 564, ""}, {great, 74, "word 1"}, {great, 73, "slot 0 63"}, {great, 494, "word 7"},
	} {
		if s := x.c.Name(x.a); s != x.want {
			t.Errorf("%+v, address %d: %q; want %q", x.c, x.a, s, x.want)
		}
	}
}

// P5.2
func TestNamesOfAllCells(t *testing.T) {
	for _, c := range shapes() {
		for a, want := range layout(c) {
			if s := c.Name(a); s != want {
				t.Fatalf("%+v, address %d: %q, not %q", c, a, s, want)
			}
			if b, e := c.Find(want); b != a || e != api.OK {
				t.Fatalf("%+v, %q: %d, %d, not %d", c, want, b, e, a)
			}
		}
	}
}

// P5.2
func TestWhatIsNoAddressHasNoName(t *testing.T) {
	for _, c := range shapes() {
		n := len(layout(c))
		for _, a := range []int{math.MinInt, math.MinInt + 1, -1 << 32, -n, -5, -4, -3, -2, -1, n, n + 1, n + c.Q, 2 * n, 1 << 32, math.MaxInt - 1, math.MaxInt} {
			if s := c.Name(a); s != "" {
				t.Fatalf("%+v, address %d: %q", c, a, s)
			}
		}
	}
}

// P5.2
func TestFindOfWhatIsNoName(t *testing.T) {
	for _, s := range []string{
		"", " ", "  ", "nothing", "Ticket", "TICKET", "tickets", "ticke", " ticket", "ticket ", "ticket 0", "serving 0", "idle -1", "size 1", "ticket serving", "\tticket", "ticket\n", "ticket\x00", "\x00", "\xff",
		"word", "next", "stat", "tick", "sys", "flag", "slot", "word ", " word", "word  0", "word 0 ", " word 0", "word\t0", "word 0\n", "word 0\x00", "word0", "word 0 0", "wor 0", "words 0", "Word 0", "0 word", "0", "0 0",
		"word 00", "word 01", "word +0", "word +1", "word -0", "word -1", "word 2", "word 3", "word 8", "word 10", "word 0x1", "word 1.0", "word 1e0", "word 1_0", "word \u0661", "word one", "word 4294967296", "word 4294967297", "word 18446744073709551616", "word 18446744073709551617", "word 99999999999999999999999999",
		"next 2", "stat 2", "tick 2", "tick 01", "sys 2", "flag 2", "flag 1 0", "flag 1 1",
		"slot 0", "slot 0 ", "slot  0 0", "slot 0  0", "slot 0 0 ", " slot 0 0", "slot 0 0 0", "slot 0 4", "slot 0 5", "slot 1 4", "slot 0 -1", "slot 0 +1", "slot 0 01", "slot 0 00", "slot 00 0", "slot +0 0", "slot -0 0", "slot -1 0", "slot -1 3", "slot 2 0", "slot 0 4294967296", "slot 0 18446744073709551616", "slot 4294967296 0", "slot 0 64", "slots 0 0", "0 slot 0", "slot 0\t0", "slot 0\x000",
		"slot 0 0\n", "sl\xf6t 0 0", "cell 0", "address 4", strings.Repeat("word ", 1000) + "0", "word " + strings.Repeat("0", 1000), strings.Repeat(" ", 5000), "semas", "n 2",
	} {
		if a, e := small.Find(s); a != -1 || e != api.ErrArg {
			t.Errorf("%q: %d, %d", s, a, e)
		}
	}
}

// spoilt are texts that are another one's with one byte less, one more, or another one, or two in turn.
func spoilt(s string) []string {
	l := []string{s + s, s + " " + s, " " + s, s + " ", strings.ToUpper(s), strings.ReplaceAll(s, " ", "  "), strings.ReplaceAll(s, " ", "\t")}
	for i := range len(s) {
		l = append(l, s[:i], s[i:], s[:i]+s[i+1:])
		if i > 0 {
			l = append(l, s[:i-1]+s[i:i+1]+s[i-1:i]+s[i+1:])
		}
	}
	for i := range len(s) + 1 {
		for _, b := range []string{" ", "0", "1", "2", "4", "6", "9", "-", "+", "a", "n", "s", "t", "\t", "\n", "\x00", "\xff", "_", ".", "\u00a0", "\u0663", "00", " 0"} {
			l = append(l, s[:i]+b+s[i:])
			if i < len(s) {
				l = append(l, s[:i]+b+s[i+1:])
			}
		}
	}
	return l
}

// P5.2
func TestFindTakesNamesAlone(t *testing.T) {
	for _, c := range []conf.Config{small, {N: 1, Q: 2, G: 1, M: 2, T: 2}, {N: 8, Q: 16, G: 1, M: 9, T: 2}} {
		names := layout(c)
		for _, name := range names {
			for _, s := range spoilt(name) {
				want, wantE := slices.Index(names, s), api.OK
				if want < 0 {
					wantE = api.ErrArg
				}
				if a, e := c.Find(s); a != want || e != wantE {
					t.Fatalf("%+v, %q: %d, %d; want %d, %d", c, s, a, e, want, wantE)
				}
			}
		}
	}
}

// P5.3
func TestTextOfNamedConfigs(t *testing.T) {
	for _, x := range []struct {
		c    conf.Config
		want string
	}{
		{small, "n 2 q 4 g 8 m 3 t 5 s 1"},
		{conf.Config{N: 1, Q: 2, G: 1, M: 2, T: 2, S: 0}, "n 1 q 2 g 1 m 2 t 2 s 0"},
		{conf.Config{N: 8, Q: 64, G: 256, M: 16, T: 200, S: 1000}, "n 8 q 64 g 256 m 16 t 200 s 1000"},
		{conf.Config{N: 3, Q: 16, G: 100, M: 10, T: 61, S: 42}, "n 3 q 16 g 100 m 10 t 61 s 42"},
	} {
		if s := x.c.Text(); s != x.want {
			t.Errorf("%q; want %q", s, x.want)
		}
		if c, e := conf.Read(x.want); c != x.c || e != api.OK {
			t.Errorf("%q: %+v, %d", x.want, c, e)
		}
	}
}

// P5.3
func TestReadOfWhatIsNoText(t *testing.T) {
	for _, s := range []string{
		"", " ", "n", "n ", "n 2", "n 2 q 4 g 8 m 3 t 5", "n 2 q 4 g 8 m 3 t 5 s", "n 2 q 4 g 8 m 3 t 5 s ", "n 2 q 4 g 8 m 3 t 5 s 1 1", "n 2 q 4 g 8 m 3 t 5 s 1 n", "n 2 q 4 g 8 m 3 t 5 s 1 n 2", "2 4 8 3 5 1",
		" n 2 q 4 g 8 m 3 t 5 s 1", "n 2 q 4 g 8 m 3 t 5 s 1 ", "n  2 q 4 g 8 m 3 t 5 s 1", "n 2  q 4 g 8 m 3 t 5 s 1", "n 2 q 4 g 8 m 3 t 5  s 1", "n 2 q 4 g 8 m 3 t 5 s  1", "n 2 q 4 g 8 m 3 t 5 s 1\n", "n\t2 q 4 g 8 m 3 t 5 s 1", "n 2 q 4 g 8 m 3 t 5 s\t1",
		"n 02 q 4 g 8 m 3 t 5 s 1", "n 2 q 04 g 8 m 3 t 5 s 1", "n 2 q 4 g 08 m 3 t 5 s 1", "n 2 q 4 g 8 m 03 t 5 s 1", "n 2 q 4 g 8 m 3 t 05 s 1", "n 2 q 4 g 8 m 3 t 5 s 01", "n 2 q 4 g 8 m 3 t 5 s 00",
		"n +2 q 4 g 8 m 3 t 5 s 1", "n 2 q +4 g 8 m 3 t 5 s 1", "n 2 q 4 g +8 m 3 t 5 s 1", "n 2 q 4 g 8 m +3 t 5 s 1", "n 2 q 4 g 8 m 3 t +5 s 1", "n 2 q 4 g 8 m 3 t 5 s +1", "n 2 q 4 g 8 m 3 t 5 s -0", "n 2 q 4 g 8 m 3 t 5 s +0", "n 2 q 4 g 8 m 3 t 5 s -1", "n -2 q 4 g 8 m 3 t 5 s 1",
		"N 2 q 4 g 8 m 3 t 5 s 1", "n 2 q 4 g 8 m 3 t 5 S 1", "q 4 n 2 g 8 m 3 t 5 s 1", "n 2 q 4 g 8 m 3 s 1 t 5", "x 2 q 4 g 8 m 3 t 5 s 1", "n 2 n 4 g 8 m 3 t 5 s 1", "n 2 q 4 g 8 m 3 t 5 t 1", "2 n 4 q 8 g 3 m 5 t 1 s", "n 2,q 4,g 8,m 3,t 5,s 1", "n2q4g8m3t5s1", "n=2 q=4 g=8 m=3 t=5 s=1",
		"n 2 q 4 g 8 m 3 t 5 s x", "n x q 4 g 8 m 3 t 5 s 1", "n 2 q 4 g 8 m 3 t 5 s 0x1", "n 2 q 4 g 8 m 3 t 5 s 1.0", "n 2 q 4 g 8 m 3 t 5 s 1e2", "n 2 q 4 g 8 m 3 t 5 s 1_0", "n 2 q 4 g 8 m 3 t 5 s 1\x00", "n 2 q 4 g 8 m 3 t 5 s \xff", "n 2 q 4 g 8 m 3 t 5 s \u0661", "\ufeffn 2 q 4 g 8 m 3 t 5 s 1", "n\u00a02 q 4 g 8 m 3 t 5 s 1",
		"n 9223372036854775808 q 4 g 8 m 3 t 5 s 1", "n 2 q 4 g 8 m 3 t 5 s 9223372036854775808", "n 2 q 4 g 8 m 3 t 5 s 9223372036854775807", "n 2 q 4 g 8 m 3 t 5 s -9223372036854775808", "n 2 q 4 g 8 m 3 t 5 s -9223372036854775809", "n 18446744073709551618 q 4 g 8 m 3 t 5 s 1", "n 4294967298 q 4 g 8 m 3 t 5 s 1", "n 2 q 4 g 8 m 3 t 5 s 18446744073709551617", "n 2 q 4 g 8 m 3 t 5 s 99999999999999999999999999999999",
		"n 0 q 4 g 8 m 3 t 5 s 1", "n 9 q 4 g 8 m 10 t 5 s 1", "n 2 q 3 g 8 m 3 t 5 s 1", "n 2 q 1 g 8 m 3 t 5 s 1", "n 2 q 128 g 8 m 3 t 5 s 1", "n 2 q 4 g 0 m 3 t 5 s 1", "n 2 q 4 g 257 m 3 t 5 s 1", "n 2 q 4 g 8 m 2 t 5 s 1", "n 2 q 4 g 8 m 17 t 5 s 1", "n 2 q 4 g 8 m 3 t 1 s 1", "n 2 q 4 g 8 m 3 t 201 s 1", "n 2 q 4 g 8 m 3 t 5 s 1001",
		"n 0 q 0 g 0 m 0 t 0 s 0", "           ", strings.Repeat(" ", 5000), strings.Repeat("n 2 ", 1000), "n 2 q 4 g 8 m 3 t 5 s 1 n 2 q 4 g 8 m 3 t 5 s 1", "n 2 q 4 g 8 m 3 t 5 s " + strings.Repeat("0", 1000) + "1",
	} {
		if c, e := conf.Read(s); c != (conf.Config{}) || e != api.ErrArg {
			t.Errorf("%q: %+v, %d", s, c, e)
		}
	}
}

// form is that of a config's text, with numbers of any size.
var form = regexp.MustCompile(`\An (0|-?[1-9][0-9]*) q (0|-?[1-9][0-9]*) g (0|-?[1-9][0-9]*) m (0|-?[1-9][0-9]*) t (0|-?[1-9][0-9]*) s (0|-?[1-9][0-9]*)\z`)

// read reads a text by its form, and in numbers that have no ends.
func read(s string) (conf.Config, api.Errno) {
	l := form.FindStringSubmatch(s)
	if l == nil {
		return conf.Config{}, api.ErrArg
	}
	var n [6]int
	for i, digits := range l[1:] {
		exact, _ := new(big.Int).SetString(digits, 10)
		if !exact.IsInt64() {
			return conf.Config{}, api.ErrArg
		}
		n[i] = int(exact.Int64())
	}
	c := conf.Config{N: n[0], Q: n[1], G: n[2], M: n[3], T: n[4], S: n[5]}
	if !mayBe(c) {
		return conf.Config{}, api.ErrArg
	}
	return c, api.OK
}

// P5.3
func TestReadTakesTextsAlone(t *testing.T) {
	taken := 0
	for _, c := range []conf.Config{small, {N: 1, Q: 2, G: 1, M: 2, T: 2}, {N: 8, Q: 64, G: 256, M: 16, T: 200, S: 1000}, {N: 5, Q: 16, G: 99, M: 12, T: 20, S: 100}} {
		for _, s := range spoilt(text(c)) {
			want, wantE := read(s)
			if d, e := conf.Read(s); d != want || e != wantE {
				t.Fatalf("%q: %+v, %d; want %+v, %d", s, d, e, want, wantE)
			}
			if wantE == api.OK {
				taken++
			}
		}
	}
	// Some are another config's text; a test in which none is would tell less.
	if taken == 0 {
		t.Error("none was taken")
	}
}

// P5.3
func TestTextsOfNumbersBesideTheBounds(t *testing.T) {
	source := rand.New(rand.NewSource(2))
	beside := []int{-1, 0, 1, 2, 3, 4, 7, 8, 9, 15, 16, 17, 31, 32, 33, 63, 64, 65, 199, 200, 201, 255, 256, 257, 999, 1000, 1001}
	pick := func(usual ...int) int {
		if source.Intn(8) == 0 {
			return beside[source.Intn(len(beside))]
		}
		return usual[source.Intn(len(usual))]
	}
	right := 0
	for range 20000 {
		c := conf.Config{N: pick(1, 2, 8), Q: pick(rooms...), G: pick(1, 8, 256), M: pick(9, 15, 16), T: pick(2, 61, 200), S: pick(0, 5, 1000)}
		want, wantE, told := conf.Config{}, api.ErrArg, ""
		if mayBe(c) {
			want, wantE, told = c, api.OK, text(c)
			right++
		}
		if s := c.Text(); s != told {
			t.Fatalf("%+v: %q; want %q", c, s, told)
		}
		if d, e := conf.Read(text(c)); d != want || e != wantE {
			t.Fatalf("%q: %+v, %d; want %+v, %d", text(c), d, e, want, wantE)
		}
	}
	if right < 1000 || right > 19000 {
		t.Errorf("%d of 20000 were right", right)
	}
}

// P5.4
func TestEachAddressIsJustOneCells(t *testing.T) {
	for _, c := range shapes() {
		cells := make([]int, c.Cells())
		for _, a := range []int{conf.Ticket, conf.Serving, conf.Idle, conf.Size} {
			cells[a]++
		}
		for p := range c.N {
			for _, ask := range asks {
				cells[ask(c, p)]++
			}
			for i := range c.Q {
				cells[c.Slot(p, uint32(i))]++
			}
		}
		for a, n := range cells {
			if n != 1 {
				t.Fatalf("%+v, address %d: that of %d cells", c, a, n)
			}
		}
	}
}

// P5.4
func TestWhatWasNamedIsFound(t *testing.T) {
	for _, c := range shapes() {
		of := map[string]int{}
		for a := -100; a < c.Cells()+100; a++ {
			s := c.Name(a)
			if (s != "") != (a >= 0 && a < c.Cells()) {
				t.Fatalf("%+v, address %d: %q", c, a, s)
			}
			if s == "" {
				continue
			}
			if b, twice := of[s]; twice {
				t.Fatalf("%+v: %q is the name of %d and %d", c, s, b, a)
			}
			of[s] = a
			if b, e := c.Find(s); b != a || e != api.OK {
				t.Fatalf("%+v, %q: %d, %d, not %d", c, s, b, e, a)
			}
		}
	}
}

// P5.4
func TestTheOtherNumbersMoveNoCell(t *testing.T) {
	for _, c := range shapes() {
		d := conf.Config{N: c.N, Q: c.Q, G: 256, M: 16, T: 200, S: 1000}
		for a := range c.Cells() + 2 {
			if c.Name(a) != d.Name(a) {
				t.Fatalf("%+v, %+v, address %d: %q, %q", c, d, a, c.Name(a), d.Name(a))
			}
		}
	}
}

// P5.4
func TestWhatWasToldIsReadAsItWas(t *testing.T) {
	texts := map[string]conf.Config{}
	hold := func(c conf.Config) {
		s := c.Text()
		d, e := conf.Read(s)
		if d != c || e != api.OK || !c.Right() {
			t.Fatalf("%+v, %q: %+v, %d", c, s, d, e)
		}
		if old, twice := texts[s]; twice && old != c {
			t.Fatalf("%q: the text of %+v and %+v", s, old, c)
		}
		texts[s] = c
	}
	for n := 1; n <= 8; n++ {
		for _, q := range rooms {
			for m := n + 1; m <= 16; m++ {
				for _, x := range [][3]int{{1, 2, 0}, {2, 3, 1}, {9, 10, 9}, {10, 99, 10}, {99, 100, 99}, {100, 101, 100}, {255, 199, 999}, {256, 200, 1000}} {
					hold(conf.Config{N: n, Q: q, G: x[0], M: m, T: x[1], S: x[2]})
				}
			}
		}
	}
	for n := range 1001 {
		hold(conf.Config{N: 2, Q: 4, G: 1 + n%256, M: 3, T: 2 + n%199, S: n})
	}
}

// P5.4
func TestTheSameAnswersTwice(t *testing.T) {
	for _, c := range append(shapes(), wrong()...) {
		before := c
		for range 2 {
			if c.Text() != before.Text() || c.Cells() != before.Cells() || c.Name(7) != before.Name(7) || c.Slot(0, 9) != before.Slot(0, 9) || c != before {
				t.Fatalf("%+v, then %+v", before, c)
			}
		}
	}
}
