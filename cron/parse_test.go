package cron_test

import (
	"errors"
	"math/rand"
	"slices"
	"strings"
	"testing"

	"almanac/api"
	"almanac/cron"
)

// Promise 7.1.

// places are the first bytes of the words of * * * * *, where each of them is replaced by a word.
var places = [5]int{0, 2, 4, 6, 8}

// replaced is * * * * * with another word in the place of one.
func replaced(i int, word string) string {
	words := []string{"*", "*", "*", "*", "*"}
	words[i] = word
	return strings.Join(words, " ")
}

func TestParse(t *testing.T) {
	for text, want := range map[string]api.Cron{
		"* * * * *":                             anyMinute(),
		"*/1 0-23 * JAN-DEC *":                  anyMinute(),
		"5 7 * 3 *":                             with(func(c *api.Cron) { c.Minutes, c.Hours, c.Months = []int{5}, []int{7}, []int{3} }),
		"0 0 1 1 1":                             {Minutes: []int{0}, Hours: []int{0}, Months: []int{1}, Days: []int{1}, Weekdays: []int{1}},
		"59 23 31 12 7":                         {Minutes: []int{59}, Hours: []int{23}, Months: []int{12}, Days: []int{31}, Weekdays: []int{7}},
		"5/20 */6 * JAN-MAR,DEC 0,7":            {Minutes: []int{5, 25, 45}, Hours: []int{0, 6, 12, 18}, Months: []int{1, 2, 3, 12}, Any: true, Weekdays: []int{7}},
		"30,10,20,10 5-7,6-8 3,1-2 OCT,2 5,MON": {Minutes: []int{10, 20, 30}, Hours: []int{5, 6, 7, 8}, Months: []int{2, 10}, Days: []int{1, 2, 3}, Weekdays: []int{1, 5}},
		"0 0 L * *":                             {Minutes: []int{0}, Hours: []int{0}, Months: numbers(1, 12), Last: true, AnyWeek: true},
		"0 0 L,31W,L,1W,31W,4,2 * *":            {Minutes: []int{0}, Hours: []int{0}, Months: numbers(1, 12), Days: []int{2, 4}, Last: true, Near: []int{1, 31}, AnyWeek: true},
		"0 0 * * 5L":                            {Minutes: []int{0}, Hours: []int{0}, Months: numbers(1, 12), Any: true, LastOf: []int{5}},
		"0 0 * * SUNL,5L,0L,7L,FRIL":            {Minutes: []int{0}, Hours: []int{0}, Months: numbers(1, 12), Any: true, LastOf: []int{5, 7}},
		"0 0 * * 5#2":                           {Minutes: []int{0}, Hours: []int{0}, Months: numbers(1, 12), Any: true, Nth: []api.Nth{{N: 2, Day: 5}}},
		"0 0 * * 0#1,SUN#5,1#5,MON#1,7#1,1#5":   {Minutes: []int{0}, Hours: []int{0}, Months: numbers(1, 12), Any: true, Nth: []api.Nth{{N: 1, Day: 1}, {N: 5, Day: 1}, {N: 1, Day: 7}, {N: 5, Day: 7}}},
		"0 0 * * 3L,2#4,TUE":                    {Minutes: []int{0}, Hours: []int{0}, Months: numbers(1, 12), Any: true, Weekdays: []int{2}, LastOf: []int{3}, Nth: []api.Nth{{N: 4, Day: 2}}},
		"0 0 */1 * */1":                         {Minutes: []int{0}, Hours: []int{0}, Months: numbers(1, 12), Days: numbers(1, 31), Weekdays: numbers(1, 7)},
		"0 0 *,* * *,1":                         {Minutes: []int{0}, Hours: []int{0}, Months: numbers(1, 12), Days: numbers(1, 31), Weekdays: numbers(1, 7)},
	} {
		got, err := cron.Parse(text)
		wantValue(t, at("7.1: Parse(%q)", text), got, err, want)
	}
}

// listed is what a text tells in the word so many words behind the first one.
func listed(c api.Cron, i int) []int {
	return [][]int{c.Minutes, c.Hours, c.Days, c.Months, c.Weekdays}[i]
}

func TestSteps(t *testing.T) {
	for i, c := range []struct{ first, last int }{{0, 59}, {0, 23}, {1, 31}, {1, 12}, {1, 7}} {
		for word, want := range map[string][2]int{"*": {c.first, c.last}, "2": {2, c.last}, "2-6": {2, 6}, "3-3": {3, 3}} {
			for step, by := range map[string]int{"1": 1, "2": 2, "3": 3, "4": 4, "59": 59, "60": 60} {
				var l []int
				for n := want[0]; n <= want[1]; n += by {
					l = append(l, n)
				}
				text := replaced(i, word+"/"+step)
				got, err := cron.Parse(text)
				wantValue(t, at("7.1: Parse(%q)", text), listed(got, i), err, l)
			}
		}
	}
}

// TestNumbers: which numbers, and which names, a word may have.
func TestNumbers(t *testing.T) {
	names := [5]string{3: "JAN FEB MAR APR MAY JUN JUL AUG SEP OCT NOV DEC", 4: "MON TUE WED THU FRI SAT SUN"}
	for i, c := range []struct{ first, last int }{{0, 59}, {0, 23}, {1, 31}, {1, 12}, {1, 7}} {
		for n := range 110 {
			word := strings.TrimLeft(string([]byte{byte('0' + n/100), byte('0' + n/10%10), byte('0' + n%10)}), "0")
			if n == 0 {
				word = "0"
			}
			got, err := cron.Parse(replaced(i, word))
			switch {
			case n >= c.first && n <= c.last:
				wantValue(t, at("7.1: Parse(%q)", replaced(i, word)), listed(got, i), err, []int{n})
			case i == 4 && n == 0:
				wantValue(t, at("7.1: Parse(%q)", replaced(i, word)), listed(got, i), err, []int{7})
			default:
				wantPlace(t, at("7.1: Parse(%q)", replaced(i, word)), got, err, api.ErrRange, places[i])
			}
		}
		for n, name := range strings.Fields(names[i]) {
			for other := range places {
				got, err := cron.Parse(replaced(other, name))
				if other == i {
					wantValue(t, at("7.1: Parse(%q)", replaced(other, name)), listed(got, i), err, []int{n + 1})
				} else {
					wantPlace(t, at("7.1: Parse(%q)", replaced(other, name)), got, err, api.ErrForm, places[other])
				}
			}
		}
	}
}

// TestFaults: the first fault is told at the word's first byte, and nothing is read.
func TestFaults(t *testing.T) {
	all := []int{0, 1, 2, 3, 4}
	for _, c := range []struct {
		words []int
		want  api.Errno
		items string
	}{
		{all, api.ErrForm, "a - -- -5 5- +5 05 00 5. 5.0 0x5 1e1 5--6 5-6-7 *5 5* ** *-5 5-* / 5/ /5 */ */x */0x1 */01 */00 */-1 */+1 */2/2 */2- 5-6/ 5-x 5-06 05-6 x-6 5/x x/5 x/60 L/2 \t \x00 \u0661 jan Jan JANU sun MO 5L5 5W5 5#2#2 #"},
		{all, api.ErrRange, "60 99 99999999999999999999999 */0 */61 */100 */99999999999999999999999 5-60 60-5 60-x x/0 x/61 60/1 60-61/1 5-3/0 60/61"},
		{all, api.ErrOrder, "6-5 7-1 6-5/2"},
		{[]int{0, 1, 3}, api.ErrForm, "L 5L 5W 5#2 LW W 60W 60L 60#9"},
		{[]int{2}, api.ErrForm, "W LW WL LL 5WW 5L 5#2 -W 1-5W *W 05W 15W/2 15/2W L/1 L-5 5-L l 15w"},
		{[]int{2}, api.ErrRange, "0 0W 32 32W 99W 0-5 1-32 15W/0 L/0 L/61"},
		{[]int{4}, api.ErrForm, "L LL 5LL 5W W 1-5L *L 05L 5# #2 5#x x#2 5#02 05#2 5#-1 -5#1 5#2/2 5L/2 5#2L 5L#2 5l 1-5#2 *#2 x#9 5#*"},
		{[]int{4}, api.ErrRange, "8 8L 99L 8#1 5#0 5#6 5#99 8#x 8#9 5L/0 5#2/0 5#2/61 9-x"},
		{[]int{4}, api.ErrOrder, "SUN-MON 0-3 SUN-1 7-6 FRI-WED"},
		{[]int{3}, api.ErrOrder, "DEC-JAN FEB-1 12-11"},
		{[]int{3}, api.ErrRange, "0 13 0-3 JAN-13 13-JAN"},
		{[]int{1}, api.ErrRange, "24 0-24"},
	} {
		for _, item := range strings.Split(c.items, " ") {
			for _, i := range c.words {
				for _, word := range []string{item, "1," + item, item + ",x", "3-4,*," + item + ",99"} {
					got, err := cron.Parse(replaced(i, word))
					wantPlace(t, at("7.1: Parse(%q)", replaced(i, word)), got, err, c.want, places[i])
				}
			}
		}
	}
	for i := range all {
		for _, word := range []string{"", ",", "1,", ",1", "1,,2"} {
			got, err := cron.Parse(replaced(i, word))
			wantPlace(t, at("7.1: Parse(%q)", replaced(i, word)), got, err, api.ErrForm, places[i])
		}
	}
}

// TestFirstFault: of two words that are wrong the first one is told, where it begins.
func TestFirstFault(t *testing.T) {
	for _, c := range []struct {
		text  string
		want  api.Errno
		place int
	}{
		{"    ", api.ErrForm, 0},
		{"*    ", api.ErrForm, 2},
		{"* * * * ", api.ErrForm, 8},
		{"10-20,30 x * 13 8", api.ErrForm, 9},
		{"10-20,30 1,2,3 15W,L JAN,13 x", api.ErrRange, 21},
		{"10-20,30 1,2,3 15W,L JAN,12 5-4", api.ErrOrder, 28},
		{"60 x x x x", api.ErrRange, 0},
		{"* 5-4 60 x x", api.ErrOrder, 2},
	} {
		got, err := cron.Parse(c.text)
		wantPlace(t, at("7.1: Parse(%q)", c.text), got, err, c.want, c.place)
	}
}

// TestWords: whether there are five words is asked first, by blanks alone.
func TestWords(t *testing.T) {
	for _, text := range []string{"", " ", "*", "* * * *", "* * * * * *", " * * * * *", "* * * * * ", "*  * * * *", "     ", "*\t*\t*\t*\t*", "x x x x", "* * * *\n*", strings.Repeat(" ", api.MaxText)} {
		got, err := cron.Parse(text)
		wantError(t, at("7.1: Parse(%q)", text), got, err, api.ErrForm)
	}
	got, err := cron.Parse("*\t * * * *")
	wantPlace(t, at("7.1: a tab"), got, err, api.ErrForm, 0)
	got, err = cron.Parse("* * * * *\n")
	wantPlace(t, at("7.1: a line feed"), got, err, api.ErrForm, 8)
}

func TestLongTexts(t *testing.T) {
	fill := func(long int, word, rest string) string {
		return strings.Repeat(word, long)[:long-len(rest)] + rest
	}
	long := fill(api.MaxText, "*,", "*,11 * * * *")
	got, err := cron.Parse(long)
	wantValue(t, at("7.1: a text of MaxText bytes"), got, err, anyMinute())
	for _, text := range []string{long[:2] + long, fill(api.MaxText+1, "x", ""), fill(api.MaxText+1, " ", "")} {
		got, err := cron.Parse(text)
		wantError(t, at("7.1: a text of %d bytes", len(text)), got, err, api.ErrLimit)
	}
	got, err = cron.Parse(fill(api.MaxText, "9", " * * * *"))
	wantPlace(t, at("7.1: a number of many digits"), got, err, api.ErrRange, 0)
}

// TestItems: drawn items, each of which tells numbers, tell together what each tells alone; their order says nothing.
func TestItems(t *testing.T) {
	r := rand.New(rand.NewSource(71))
	forms := []string{"*/7", "3", "0", "2-6", "1-7/2", "5/3", "4/60", "6-6"}
	for range 300 {
		i := r.Intn(5)
		var items []string
		var want []int
		for range 1 + r.Intn(5) {
			item := forms[r.Intn(len(forms))]
			c, err := cron.Parse(replaced(i, item))
			if err != nil {
				continue // 0 is no day of a month, and no month
			}
			items = append(items, item)
			want = append(want, listed(c, i)...)
		}
		if len(items) == 0 {
			continue
		}
		slices.Sort(want)
		text := replaced(i, strings.Join(items, ","))
		got, err := cron.Parse(text)
		wantValue(t, at("7.1: Parse(%q)", text), listed(got, i), err, slices.Compact(want))
	}
}

// TestDrawnTexts: whatever stands in a text, it is read, or its fault is told in its own way; and what is read may be.
func TestDrawnTexts(t *testing.T) {
	r := rand.New(rand.NewSource(72))
	const bytes = "  ****0123456789,,--//LW#JANSUMO"
	for range 100_000 {
		text := []byte("*/9 3 1W,L * 5L")
		for range 1 + r.Intn(4) {
			text[r.Intn(len(text))] = bytes[r.Intn(len(bytes))]
		}
		c, err := cron.Parse(string(text))
		if err == nil {
			if err := cron.Check(c); err != nil {
				t.Errorf("7.2: Check of Parse(%q): %v", text, err)
			}
			continue
		}
		var a *api.At
		blanks := strings.Count(string(text), " ")
		if errors.As(err, &a) != (blanks == 4) || a == nil && err != api.ErrForm {
			t.Errorf("7.1: Parse(%q): %v", text, err)
		}
		if a != nil && a.Place > 0 && text[a.Place-1] != ' ' {
			t.Errorf("7.1: Parse(%q): %v, which is not at a word's first byte", text, err)
		}
	}
}
