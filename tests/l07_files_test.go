package tests

import (
	"math/rand"
	"slices"
	"strings"
	"testing"

	"loop.example/g01401/impl"
)

func savedOf(name string, deck []int64, dice ...impl.Die) impl.Saved {
	return impl.Saved{Name: name, Deck: deck, Dice: dice}
}

// badSaved returns what cannot be stored, each for one reason.
func badSaved() []impl.Saved {
	list := []impl.Saved{{}, savedOf("a", nil), savedOf("", []int64{0}), savedOf("a", []int64{0}, manyOf(dieOf(1), 7)...), savedOf("a", []int64{0}, manyOf(dieOf(1), 1000)...)}
	for _, name := range []string{"", "A", "a1", "abcdefghi", "a b", " a", "a\n", "a\x00", "\xff", "ä", "`", "{", strings.Repeat("a", 256), strings.Repeat("a", 257)} {
		list = append(list, savedOf(name, []int64{1, 0}, dieOf(1, 2)))
	}
	for _, deck := range badDecks {
		list = append(list, savedOf("a", deck, dieOf(1, 2)))
	}
	for _, bad := range badDice {
		for place := range 3 {
			list = append(list, savedOf("a", []int64{1, 0}, replaced(manyOf(dieOf(1, 2), 3), place, bad)...))
		}
	}
	return list
}

// someSaved returns what can be stored, the least and the most of it included.
func someSaved() []impl.Saved {
	list := []impl.Saved{
		savedOf("a", []int64{0}), savedOf("z", []int64{1, 0}, dieOf(1, 2)), savedOf("abcdefgh", []int64{2, 0, 1}, dieOf(0, 0, 20), dieOf(7)),
		savedOf("zzzzzzzz", counted(52), manyOf(dieOf(slices.Repeat([]int64{20}, 12)...), 6)...), savedOf("q", []int64{0}, dieOf(0)),
		savedOf("dck", []int64{0, 1}, mixedDice...),
	}
	draws := rand.New(rand.NewSource(75))
	for range 60 {
		var deck []int64
		for _, card := range draws.Perm(1 + draws.Intn(52)) {
			deck = append(deck, int64(card))
		}
		var name []byte
		for range 1 + draws.Intn(8) {
			name = append(name, byte('a'+draws.Intn(26)))
		}
		list = append(list, savedOf(string(name), deck, drawDice(draws, 6, 12)...))
	}
	return list
}

// withCheck returns bytes with their check number behind them.
func withCheck(bytes []byte) string {
	check := int64(0)
	for _, b := range bytes {
		check = (check*983 + int64(b) + 239) % 65003
	}
	return string(bytes) + string([]byte{byte(check % 256), byte(check / 256)})
}

// plainStore writes byte by byte what is told, valid or not.
func plainStore(s impl.Saved) string {
	bytes := []byte{'D', 'C', 'K', '1', byte(len(s.Name))}
	bytes = append(bytes, s.Name...)
	put := func(list []int64) {
		bytes = append(bytes, byte(len(list)))
		for _, n := range list {
			bytes = append(bytes, byte(n))
		}
	}
	put(s.Deck)
	bytes = append(bytes, byte(len(s.Dice)))
	for _, d := range s.Dice {
		put(d.Faces)
	}
	return withCheck(bytes)
}

// badStored returns bytes with the right check numbers of what cannot be stored. Numbers that no byte tells are left out: their bytes are others'.
func badStored() []string {
	var stored []string
	for _, s := range badSaved() {
		numbers := slices.Clone(s.Deck)
		for _, d := range s.Dice {
			numbers = append(numbers, d.Faces...)
		}
		if !slices.ContainsFunc(numbers, func(n int64) bool { return n < -1 || n > 255 }) {
			stored = append(stored, plainStore(s))
		}
	}
	return stored
}

func isSame(a, b impl.Saved) bool {
	same := a.Name == b.Name && slices.Equal(a.Deck, b.Deck) && len(a.Dice) == len(b.Dice)
	for i := range a.Dice {
		same = same && slices.Equal(a.Dice[i].Faces, b.Dice[i].Faces)
	}
	return same
}

func areSame(a, b []impl.Saved) bool {
	return slices.EqualFunc(a, b, isSame)
}

func wantNotLoaded(t *testing.T, bytes string, what string, args ...any) {
	t.Helper()
	loaded, ok := impl.LoadSaved(bytes)
	if ok || !isSame(loaded, impl.Saved{}) {
		t.Errorf("%s %v: LoadSaved of %q: got %v, %v, want a failure", what, args, bytes[:min(len(bytes), 200)], loaded, ok)
	}
}

func TestSavedAreValid(t *testing.T) {
	for _, s := range someSaved() {
		wantEqual(t, impl.ValidSaved(s), true, "ValidSaved", s)
	}
	for _, s := range badSaved() {
		wantEqual(t, impl.ValidSaved(s), false, "ValidSaved", s)
	}
}

func TestSavedAreCompared(t *testing.T) {
	one, two := dieOf(1, 2), dieOf(1, 3)
	list := []impl.Saved{
		{}, savedOf("a", nil), savedOf("a", []int64{0}), savedOf("a", []int64{1, 0}), savedOf("b", []int64{0}), savedOf("a", []int64{0}, one), savedOf("a", []int64{0}, two),
		savedOf("a", []int64{0}, one, two), savedOf("a", []int64{0}, two, one), savedOf("a", []int64{0}, impl.Die{}), savedOf("", nil, one), savedOf("A", []int64{-1}, dieOf(-1)),
	}
	for i, a := range list {
		for k, b := range list {
			b = savedOf(b.Name, slices.Clone(b.Deck), slices.Clone(b.Dice)...)
			wantEqual(t, impl.SameSaved([]impl.Saved{a}, []impl.Saved{b}), i == k, "SameSaved", a, b)
			wantEqual(t, impl.SameSaved([]impl.Saved{list[5], a}, []impl.Saved{list[5], b}), i == k, "SameSaved of two", a, b)
			wantEqual(t, impl.SameSaved([]impl.Saved{a, b}, []impl.Saved{b, a}), i == k, "SameSaved of two turned", a, b)
		}
		wantEqual(t, impl.SameSaved([]impl.Saved{a}, nil), false, "SameSaved of one and none", a)
		wantEqual(t, impl.SameSaved([]impl.Saved{a}, []impl.Saved{a, a}), false, "SameSaved of one and two", a)
	}
	wantEqual(t, impl.SameSaved(nil, []impl.Saved{}), true, "SameSaved of none")
	empty := impl.Saved{Deck: []int64{}, Dice: []impl.Die{}}
	wantEqual(t, impl.SameSaved([]impl.Saved{{}}, []impl.Saved{empty}), true, "SameSaved of nothing")
}

func TestSavedAreLoadedAsStored(t *testing.T) {
	for _, s := range someSaved() {
		bytes, ok := impl.StoreSaved(s)
		wantEqual(t, ok && bytes == plainStore(s), true, "StoreSaved", s, []byte(bytes))
		loaded, ok := impl.LoadSaved(bytes)
		wantEqual(t, ok && isSame(loaded, s), true, "LoadSaved leads back", s, loaded)
	}
	for _, c := range []struct {
		saved impl.Saved
		bytes string
	}{
		{savedOf("a", []int64{1, 0}, dieOf(1, 2)), "DCK1\x01a\x02\x01\x00\x01\x02\x01\x02\x0d\x3c"},
		{savedOf("a", []int64{0}), "DCK1\x01a\x01\x00\x00\x2b\x15"},
		{savedOf("abcdefgh", []int64{2, 0, 1}, dieOf(0, 0, 20), dieOf(7)), "DCK1\x08abcdefgh\x03\x02\x00\x01\x02\x03\x00\x00\x14\x01\x07\xc9\x9c"},
	} {
		bytes, ok := impl.StoreSaved(c.saved)
		wantEqual(t, ok && bytes == c.bytes, true, "StoreSaved", c.saved, []byte(bytes))
		loaded, ok := impl.LoadSaved(c.bytes)
		wantEqual(t, ok && isSame(loaded, c.saved), true, "LoadSaved", c.saved, loaded)
	}
}

func TestWhatIsNotValidIsNotStored(t *testing.T) {
	good := someSaved()[:3]
	for _, s := range badSaved() {
		bytes, ok := impl.StoreSaved(s)
		wantEqual(t, !ok && bytes == "", true, "StoreSaved fails", s, bytes)
		for place := range good {
			bytes, ok = impl.StoreAll(replaced(good, place, s))
			wantEqual(t, !ok && bytes == "", true, "StoreAll fails", place, s, bytes)
		}
	}
	for _, count := range []int{9, 10, 1000} {
		bytes, ok := impl.StoreAll(slices.Repeat(good[:1], count))
		wantEqual(t, !ok && bytes == "", true, "StoreAll of too many", count, len(bytes))
	}
}

func TestOtherBytesAreNotLoaded(t *testing.T) {
	for _, bytes := range badStored() {
		wantNotLoaded(t, bytes, "bad")
	}
	for _, bytes := range []string{"", "D", "DCK1", "DCK1\x00", "DCK1\x01a", "DCK1\x01a\x01\x00\x00", "DCK1\x01a\x01\x00\x00\x2b", "\xff", strings.Repeat("\xff", 1000), strings.Repeat("\x00", 1000)} {
		wantNotLoaded(t, bytes, "other")
	}
	for _, mark := range []string{"DCK0", "DCK2", "dck1", "DCk1", "XCK1", "DC1", "DCK11", ""} {
		wantNotLoaded(t, withCheck([]byte(mark+"\x01a\x01\x00\x00")), "mark", mark)
	}
	// Two counts that do not fit what comes, and one byte too much or too little ahead of the check number.
	for _, behind := range []string{"\x02a\x01\x00\x00", "\x01a\x02\x00\x00", "\x01a\x01\x00\x01", "\x01a\x01\x00\x00\x00", "\x01a\x01\x00", "\x01a\x01\x00\x01\x02\x01",
		"\x01a\x01\x00\x01\x01\x01\x01", "\x01a\x01\x00\xff", "\x01a\xff\x00\x00", "\xffa\x01\x00\x00"} {
		wantNotLoaded(t, withCheck([]byte("DCK1"+behind)), "counts")
	}
	// The check number's bytes turned, or another one's.
	wantNotLoaded(t, "DCK1\x01a\x01\x00\x00\x15\x2b", "turned")
	wantNotLoaded(t, "DCK1\x01a\x01\x00\x00\x00\x00", "no check number")
	loaded, ok := impl.LoadSaved(withCheck([]byte("DCK1\x01a\x01\x00\x00")))
	wantEqual(t, ok && isSame(loaded, savedOf("a", []int64{0})), true, "LoadSaved of what is not changed", loaded)
}

func TestChangedBytesAreNotLoaded(t *testing.T) {
	for _, s := range someSaved()[:12] {
		bytes := plainStore(s)
		for at := range bytes {
			wantNotLoaded(t, bytes[:at], "cut", at)
			wantNotLoaded(t, bytes[at+1:], "without its beginning", at)
			for _, other := range []byte{0, 1, 2, 'a', 255, bytes[at] + 1, bytes[at] - 1, bytes[at] ^ 128} {
				if other != bytes[at] {
					wantNotLoaded(t, bytes[:at]+string([]byte{other})+bytes[at+1:], "changed", at, other)
				}
			}
		}
		for _, more := range []string{"\x00", "x", "D", "DCK1", bytes} {
			wantNotLoaded(t, bytes+more, "more", s)
			wantNotLoaded(t, more+bytes, "more ahead", s)
		}
	}
}

// wantRecovered tells whether RecoverAll returns a list, and its size in bytes.
func wantRecovered(t *testing.T, bytes string, list []impl.Saved, size int, what string, args ...any) {
	t.Helper()
	got, n, ok := impl.RecoverAll(bytes)
	if !ok || !areSame(got, list) || n != int64(size) {
		t.Errorf("%s %v: RecoverAll: got %d, %v, %v, want %d, %v, true", what, args, len(got), n, ok, len(list), size)
	}
}

func TestFilesAreRecovered(t *testing.T) {
	list := someSaved()
	for count := range 9 {
		some := list[count*5 : count*5+count]
		want, ends := "", []int{0}
		for _, s := range some {
			want += plainStore(s)
			ends = append(ends, len(want))
		}
		all, ok := impl.StoreAll(some)
		wantEqual(t, ok && all == want, true, "StoreAll", count, len(all))
		whole := 0
		for at := range len(all) + 1 {
			if whole < count && at == ends[whole+1] {
				whole++
			}
			// Cut anywhere, what is whole is recovered; changed anywhere, what stands ahead of it is.
			wantRecovered(t, all[:at], some[:whole], ends[whole], "cut", count, at)
			if at < len(all) {
				wantRecovered(t, all[:at]+string([]byte{all[at] + 1})+all[at+1:], some[:whole], ends[whole], "changed", count, at)
			}
		}
		for _, more := range []string{"\x00", "x", "DCK1", "DCK1\x01a\x01\x00\x00", "DCK1\x01a\x01\x00\x00\x2b\x16"} {
			wantRecovered(t, all+more, some, len(all), "more", count, more)
		}
	}
}

func TestAtMostEightAreRecovered(t *testing.T) {
	list := someSaved()[:6]
	all := ""
	var ends []int
	var whole []impl.Saved
	for i := range 20 {
		whole = append(whole, list[i%6])
		all += plainStore(list[i%6])
		ends = append(ends, len(all))
	}
	wantRecovered(t, all, whole[:8], ends[7], "twenty")
	wantRecovered(t, all[:ends[8]], whole[:8], ends[7], "nine")
	wantRecovered(t, all[:ends[7]], whole[:8], ends[7], "eight")
	wantRecovered(t, all[:ends[7]-1], whole[:7], ends[6], "seven and a part")
	wantRecovered(t, "", nil, 0, "nothing")
	wantRecovered(t, "DCK1", nil, 0, "a mark")
	wantRecovered(t, " "+all, nil, 0, "something ahead")
	for _, bad := range badStored() {
		wantRecovered(t, bad+all, nil, 0, "something bad ahead", []byte(bad))
		wantRecovered(t, all[:ends[2]]+bad+all, whole[:3], ends[2], "something bad behind three", []byte(bad))
	}
	stored, ok := impl.StoreAll(nil)
	wantEqual(t, ok && stored == "", true, "StoreAll of none", stored)
	stored, ok = impl.StoreAll(whole[:8])
	wantEqual(t, ok && stored == all[:ends[7]], true, "StoreAll of eight", len(stored))
}
