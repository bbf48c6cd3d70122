package ident_test

import (
	"fmt"
	"math"
	"math/rand"
	"regexp"
	"strings"
	"testing"

	"skald/api"
	"skald/ident"
)

const (
	lastSaga         = 9_999
	lastStep         = 7
	lastGroup        = 7
	lastMove         = 64
	lastEffectNumber = 1_679_832
	lastNumber       = 1_680_728
)

// The texts of valid effects and items, as the chapter defines them.
const (
	effectForm = `([1-9][0-9]{0,3})/([0-7])/([fur])`
	moveForm   = `m([1-9]|[1-5][0-9]|6[0-4])/(out|in)`
	groupForm  = `@([1-7])`
)

var (
	effectTexts = regexp.MustCompile(`\A` + effectForm + `\z`)
	itemTexts   = regexp.MustCompile(`\A(?:` + effectForm + `|` + moveForm + `)` + groupForm + `\z`)
)

// effectOf returns an effect.
func effectOf(saga, step, phase int) api.Effect {
	return api.Effect{Saga: saga, Step: step, Phase: phase}
}

// effectText returns a valid effect's text as the chapter defines it, without the package.
func effectText(e api.Effect) string {
	return fmt.Sprintf("%d/%d/%c", e.Saga, e.Step, " fur"[e.Phase])
}

// itemText returns a valid item's text as the chapter defines it, without the package.
func itemText(x api.Item) string {
	s := effectText(x.Eff)
	switch {
	case x.Move != 0 && x.In:
		s = fmt.Sprintf("m%d/in", x.Move)
	case x.Move != 0:
		s = fmt.Sprintf("m%d/out", x.Move)
	}
	return fmt.Sprintf("%s@%d", s, x.Group)
}

// eachEffect calls f with each valid effect, in order.
func eachEffect(f func(e api.Effect)) {
	for saga := 1; saga <= lastSaga; saga++ {
		for step := 0; step <= lastStep; step++ {
			for phase := api.Forward; phase <= api.Free; phase++ {
				f(effectOf(saga, step, phase))
			}
		}
	}
}

// eachItem calls f with each valid item and its number, in the order of the numbers.
func eachItem(f func(n int, x api.Item)) {
	n := 0
	groups := func(x api.Item) {
		for x.Group = 1; x.Group <= lastGroup; x.Group++ {
			n++
			f(n, x)
		}
	}
	eachEffect(func(e api.Effect) { groups(api.Item{Eff: e}) })
	for move := 1; move <= lastMove; move++ {
		groups(api.Item{Move: move})
		groups(api.Item{Move: move, In: true})
	}
}

// someItems returns the items of some numbers: the first ones and the last ones of both kinds, and others between.
func someItems() []api.Item {
	var l []api.Item
	eachItem(func(n int, x api.Item) {
		edge := n <= 200 || n > lastNumber-200 || (n > lastEffectNumber-200 && n <= lastEffectNumber+200)
		if edge || n%997 == 0 {
			l = append(l, x)
		}
	})
	return l
}

// numbers returns numbers in and around low to high, and far away.
func numbers(low, high int) []int {
	return []int{math.MinInt, math.MinInt + 1, math.MinInt32, -1000, -2, -1, low - 1, low, low + 1, (low + high) / 2, high - 1, high, high + 1, high + 2, 2 * high, 1 << 32, 1<<32 + low, 1 << 40, math.MaxInt - 1, math.MaxInt}
}

// in reports whether n is from low to high.
func in(n, low, high int) bool { return n >= low && n <= high }

// validEffect reports whether an effect is valid as the chapter defines it.
func validEffect(e api.Effect) bool {
	return in(e.Saga, 1, lastSaga) && in(e.Step, 0, lastStep) && in(e.Phase, 1, 3)
}

// validItem reports whether an item is valid as the chapter defines it.
func validItem(x api.Item) bool {
	effectItem := x.Move == 0 && !x.In && validEffect(x.Eff)
	moveItem := in(x.Move, 1, lastMove) && x.Eff == api.Effect{}
	return in(x.Group, 1, lastGroup) && (effectItem || moveItem)
}

// expectEffect checks what all functions say about an effect.
func expectEffect(t *testing.T, e api.Effect) {
	t.Helper()
	text, want := "", api.ErrArg
	if validEffect(e) {
		text, want = effectText(e), api.OK
	}
	if f := ident.CheckEffect(e); f != want {
		t.Errorf("CheckEffect(%v): %d, want %d", e, f, want)
	}
	if s, f := ident.Effect(e); s != text || f != want {
		t.Errorf("Effect(%v): %q, %d; want %q, %d", e, s, f, text, want)
	}
}

// expectItem checks what all functions say about an item.
func expectItem(t *testing.T, x api.Item) {
	t.Helper()
	text, want := "", api.ErrArg
	if validItem(x) {
		text, want = itemText(x), api.OK
	}
	if f := ident.CheckItem(x); f != want {
		t.Errorf("CheckItem(%v): %d, want %d", x, f, want)
	}
	if s, f := ident.Item(x); s != text || f != want {
		t.Errorf("Item(%v): %q, %d; want %q, %d", x, s, f, text, want)
	}
	n, f := ident.Number(x)
	if f != want || (n == 0) != (want != api.OK) {
		t.Errorf("Number(%v): %d, %d; want the error %d", x, n, f, want)
	}
}

// expectParsed checks that a text is read as an effect and as an item just if it is the text of one.
func expectParsed(t *testing.T, s string) {
	t.Helper()
	e, f := ident.ParseEffect(s)
	isEffect := effectTexts.MatchString(s)
	switch {
	case isEffect && (f != api.OK || !validEffect(e) || effectText(e) != s):
		t.Errorf("ParseEffect(%q): %v, %d", s, e, f)
	case !isEffect && (f != api.ErrForm || e != api.Effect{}):
		t.Errorf("ParseEffect(%q): %v, %d; want ErrForm", s, e, f)
	}
	x, f := ident.ParseItem(s)
	isItem := itemTexts.MatchString(s)
	switch {
	case isItem && (f != api.OK || !validItem(x) || itemText(x) != s):
		t.Errorf("ParseItem(%q): %v, %d", s, x, f)
	case !isItem && (f != api.ErrForm || x != api.Item{}):
		t.Errorf("ParseItem(%q): %v, %d; want ErrForm", s, x, f)
	}
}

// P5.1, P5.2: the examples of effects.
func TestEffectExamples(t *testing.T) {
	for s, e := range map[string]api.Effect{
		"12/3/f":   effectOf(12, 3, api.Forward),
		"1/0/r":    effectOf(1, 0, api.Free),
		"9999/7/u": effectOf(9999, 7, api.Undo),
	} {
		if got, f := ident.Effect(e); got != s || f != api.OK {
			t.Errorf("Effect(%v): %q, %d; want %q", e, got, f, s)
		}
		if got, f := ident.ParseEffect(s); got != e || f != api.OK {
			t.Errorf("ParseEffect(%q): %v, %d; want %v", s, got, f, e)
		}
	}
	for _, e := range []api.Effect{effectOf(0, 0, api.Forward), effectOf(1, 8, api.Forward), effectOf(1, 0, 4)} {
		if s, f := ident.Effect(e); s != "" || f != api.ErrArg {
			t.Errorf("Effect(%v): %q, %d; want ErrArg", e, s, f)
		}
	}
	for _, s := range []string{"012/3/f", "12/3/x", "12/3"} {
		if e, f := ident.ParseEffect(s); e != (api.Effect{}) || f != api.ErrForm {
			t.Errorf("ParseEffect(%q): %v, %d; want ErrForm", s, e, f)
		}
	}
}

// P5.3, P5.4, P5.6: the examples of items and numbers.
func TestItemExamples(t *testing.T) {
	for s, x := range map[string]api.Item{
		"12/3/f@2": {Eff: effectOf(12, 3, api.Forward), Group: 2},
		"m5/out@1": {Move: 5, Group: 1},
		"m5/in@2":  {Move: 5, In: true, Group: 2},
	} {
		if got, f := ident.Item(x); got != s || f != api.OK {
			t.Errorf("Item(%v): %q, %d; want %q", x, got, f, s)
		}
		if got, f := ident.ParseItem(s); got != x || f != api.OK {
			t.Errorf("ParseItem(%q): %v, %d; want %v", s, got, f, x)
		}
	}
	first := effectOf(1, 0, api.Forward)
	for _, x := range []api.Item{{Move: 5, Eff: first, Group: 1}, {Eff: first, In: true, Group: 1}, {Eff: first, Group: 8}} {
		if s, f := ident.Item(x); s != "" || f != api.ErrArg {
			t.Errorf("Item(%v): %q, %d; want ErrArg", x, s, f)
		}
	}
	for s, n := range map[string]int{"1/0/f@1": 1, "1/0/u@1": 8, "2/0/f@1": 169, "9999/7/r@7": 1679832, "m1/out@1": 1679833, "m64/in@7": 1680728} {
		x, f := ident.ParseItem(s)
		got, g := ident.Number(x)
		back, h := ident.FromNumber(n)
		if f != api.OK || got != n || g != api.OK || back != x || h != api.OK {
			t.Errorf("%q: %d, Number %d, %d; FromNumber(%d): %v, %d", s, f, got, g, n, back, h)
		}
	}
}

// P5.1: effects around the first and the last saga, step and phase, and far from them.
func TestEffectEdges(t *testing.T) {
	for _, saga := range numbers(1, lastSaga) {
		for _, step := range numbers(0, lastStep) {
			for _, phase := range numbers(1, 3) {
				expectEffect(t, effectOf(saga, step, phase))
			}
		}
	}
}

// P5.3, P5.6: items around the first and the last group and move, with effects that are zero, valid or not.
func TestItemEdges(t *testing.T) {
	effects := []api.Effect{
		{}, effectOf(1, 0, 1), effectOf(lastSaga, lastStep, 3), effectOf(12, 3, 2),
		effectOf(0, 0, 1), effectOf(1, 0, 0), effectOf(0, 1, 0), effectOf(lastSaga+1, 0, 1), effectOf(1, lastStep+1, 1), effectOf(1, -1, 1), effectOf(1, 0, 4), effectOf(-1, 0, 0),
	}
	for _, e := range effects {
		for _, move := range numbers(1, lastMove) {
			for _, group := range numbers(1, lastGroup) {
				expectItem(t, api.Item{Eff: e, Move: move, Group: group})
				expectItem(t, api.Item{Eff: e, Move: move, In: true, Group: group})
			}
		}
	}
}

// P5.2, P5.4: numbers that are not written as they have to be, and bytes before, between and behind the parts.
func TestWrongTexts(t *testing.T) {
	for _, n := range []string{"", "0", "00", "01", "08", "0012", "+1", "-1", "-0", " 1", "1 ", "1_0", "0x1", "1e1", "1.0", "8", "9", "10", "64", "65", "99", "999", "9999", "10000", "4294967297", "9223372036854775807", "9223372036854775808", "18446744073709551617", "99999999999999999999999999", strings.Repeat("9", 5000), strings.Repeat("0", 5000) + "1", "a", "٣", "\x00", "\xff"} {
		for _, form := range []string{"%s/3/f", "12/%s/u", "12/3/%s", "%s/3/f@2", "12/%s/r@2", "12/3/f@%s", "m%s/out@1", "m%s/in@7", "m5/out@%s", "m5/in@%s", "m5/%s@1"} {
			expectParsed(t, fmt.Sprintf(form, n))
		}
	}
	for _, s := range []string{"", "/", "//", "///", "@", "@1", "m", "m/", "m5", "m5/", "m5/out", "m5/in", "m5/out@", "m5@1", "m5/@1", "mm5/out@1", "M5/out@1", "m5/Out@1", "m5/inout@1", "m5/outin@1", "m5/i@1", "m5out@1", "5/out@1", "m5//out@1", "m12/3/f@1", "m5/out@1@1", "m5/in@1m5/in@1", "12", "12/", "12//f", "12/3/", "12/3/@1", "12/3f", "123/f", "12/3/F", "12/3/fu", "12/3/ff", "12/3/f/", "12/3/f@", "12/3/f@@1", "12/3/f@1@1", "12/3/f12/3/f", "0/0/f@1", "m0/in@1", "m0/out@1", "m1/in@0", "m1/out@8"} {
		expectParsed(t, s)
	}
}

// P5.2, P5.4: texts of which a byte is taken away, added or changed.
func TestChangedTexts(t *testing.T) {
	bases := []string{"1/0/f", "12/3/u", "9999/7/r", "100/1/f", "1/0/f@1", "12/3/u@2", "9999/7/r@7", "m1/out@1", "m5/in@2", "m64/in@7", "m10/out@4"}
	for _, s := range bases {
		expectParsed(t, s)
		for i := range s {
			expectParsed(t, s[:i])
			expectParsed(t, s[i:])
			expectParsed(t, s[:i]+s[i+1:])
			for c := range 256 {
				expectParsed(t, s[:i]+string([]byte{byte(c)})+s[i+1:])
			}
		}
		for i := range len(s) + 1 {
			for c := range 256 {
				expectParsed(t, s[:i]+string([]byte{byte(c)})+s[i:])
			}
		}
	}
}

// P5.2, P5.4: texts of the bytes that texts have, in any order.
func TestAnyTexts(t *testing.T) {
	r := rand.New(rand.NewSource(5))
	parts := []string{"/", "/", "@", "@", "m", "out", "in", "f", "u", "r", "0", "1", "3", "5", "7", "8", "9", "12", "64", "9999", " ", "-", "+"}
	for range 200_000 {
		var s strings.Builder
		for range r.Intn(9) {
			s.WriteString(parts[r.Intn(len(parts))])
		}
		expectParsed(t, s.String())
	}
}

// P5.1, P5.2, P5.7: each effect is read from its text, and no two have the same text.
func TestEffectTexts(t *testing.T) {
	seen := map[string]bool{}
	eachEffect(func(e api.Effect) {
		s, f := ident.Effect(e)
		back, g := ident.ParseEffect(s)
		if s != effectText(e) || f != api.OK || back != e || g != api.OK || seen[s] {
			t.Errorf("%v: %q, %d; %v, %d; seen before: %t", e, s, f, back, g, seen[s])
		}
		seen[s] = true
	})
}

// P5.3, P5.4, P5.7: items are read from their texts, and no two have the same text.
func TestItemTexts(t *testing.T) {
	seen := map[string]bool{}
	for _, x := range someItems() {
		s, f := ident.Item(x)
		back, g := ident.ParseItem(s)
		if s != itemText(x) || f != api.OK || back != x || g != api.OK || seen[s] {
			t.Errorf("%v: %q, %d; %v, %d; seen before: %t", x, s, f, back, g, seen[s])
		}
		seen[s] = true
	}
}

// P5.6, P5.8: items and numbers from 1 on belong to each other, in the order of the effects, with the moves behind them.
func TestNumbers(t *testing.T) {
	last := 0
	var before api.Effect
	eachItem(func(want int, x api.Item) {
		n, f := ident.Number(x)
		back, g := ident.FromNumber(want)
		if n != want || f != api.OK || back != x || g != api.OK {
			t.Errorf("Number(%v): %d, %d; FromNumber(%d): %v, %d", x, n, f, want, back, g)
		}
		if x.Move == 0 {
			if ident.Order(before, x.Eff) > 0 || n > lastEffectNumber {
				t.Errorf("the item %v with the number %d is not in order", x, n)
			}
			before = x.Eff
		}
		last = want
	})
	if last != lastNumber {
		t.Errorf("%d items, want %d", last, lastNumber)
	}
}

// P5.6: numbers that no item has.
func TestNumbersOfNothing(t *testing.T) {
	for _, n := range append(numbers(1, lastNumber), numbers(1<<32+1, 1<<32+lastNumber)...) {
		x, f := ident.FromNumber(n)
		switch {
		case in(n, 1, lastNumber) && (f != api.OK || !validItem(x)):
			t.Errorf("FromNumber(%d): %v, %d", n, x, f)
		case !in(n, 1, lastNumber) && (f != api.ErrRange || x != api.Item{}):
			t.Errorf("FromNumber(%d): %v, %d; want ErrRange", n, x, f)
		}
	}
}

// P5.5: names of one byte and of others, each byte at each place, and lengths around the limit.
func TestNames(t *testing.T) {
	is := regexp.MustCompile(`\A[a-z0-9]{1,16}\z`)
	expect := func(s string) {
		t.Helper()
		if got := ident.Name(s); got != is.MatchString(s) {
			t.Errorf("Name(%q): %t", s, got)
		}
	}
	for _, s := range []string{"a1", "A", "", "a", "z", "0", "9", "`", "{", "/", ":", "ä", "é", "a b", "a-b", "a_b", "a\n", "\na", "ａ", "٣", "a\u0301", "\x00", "\xff", "a\xff", "\xe1a"} {
		expect(s)
	}
	for n := range 40 {
		expect(strings.Repeat("a", n))
		expect(strings.Repeat("9", n))
		expect(strings.Repeat("ä", n))
	}
	for _, n := range []int{256, 256 + 1, 1 << 16, 1<<16 + 1, 1<<16 + 16} {
		expect(strings.Repeat("z", n))
	}
	for _, base := range []string{"a", "z0", "a1b2", "abcdefghijklmnop", "abcdefghijklmnopq"} {
		for i := range base {
			for c := range 256 {
				expect(base[:i] + string([]byte{byte(c)}) + base[i+1:])
			}
		}
	}
}

// definedOrder compares two effects as the chapter defines it.
func definedOrder(a, b api.Effect) int {
	first, second := [3]int{a.Saga, a.Step, a.Phase}, [3]int{b.Saga, b.Step, b.Phase}
	for i := range first {
		if first[i] != second[i] {
			if first[i] < second[i] {
				return -1
			}
			return 1
		}
	}
	return 0
}

// P5.5, P5.9: effects, valid or not, are ordered by saga, then by step, then by phase, and the other way round if
// they are exchanged.
func TestOrder(t *testing.T) {
	if n := ident.Order(effectOf(2, 0, api.Forward), effectOf(1, 7, api.Free)); n != 1 {
		t.Errorf("Order of 2/0/f and 1/7/r: %d", n)
	}
	values := []int{math.MinInt, -1, 0, 1, 2, math.MaxInt}
	var l []api.Effect
	for _, saga := range values {
		for _, step := range values {
			for _, phase := range values {
				l = append(l, effectOf(saga, step, phase))
			}
		}
	}
	for _, a := range l {
		for _, b := range l {
			n := ident.Order(a, b)
			if n != definedOrder(a, b) || n != -ident.Order(b, a) || (n == 0) != (a == b) {
				t.Errorf("Order(%v, %v): %d", a, b, n)
			}
		}
	}
}

// R8: equal calls return equal results, whatever is called between them.
func TestSameAgain(t *testing.T) {
	all := func(x api.Item, s string, n int) string {
		a, b := ident.Effect(x.Eff)
		c, d := ident.ParseEffect(s)
		e, f := ident.Item(x)
		g, h := ident.ParseItem(s)
		i, j := ident.Number(x)
		k, l := ident.FromNumber(n)
		return fmt.Sprint(a, b, c, d, e, f, g, h, i, j, k, l, ident.CheckEffect(x.Eff), ident.CheckItem(x), ident.Name(s), ident.Order(x.Eff, c))
	}
	good := api.Item{Eff: effectOf(12, 3, api.Undo), Group: 4}
	first := all(good, "12/3/u@4", 4_000)
	wrong := all(api.Item{Group: 9}, "m5/", -1)
	if again := all(good, "12/3/u@4", 4_000); again != first {
		t.Errorf("%s, then %s", first, again)
	}
	if again := all(api.Item{Group: 9}, "m5/", -1); again != wrong {
		t.Errorf("%s, then %s", wrong, again)
	}
}
