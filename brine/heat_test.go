package brine_test

import (
	"math"
	"math/rand"
	"slices"
	"testing"

	"icehall/api"
	"icehall/brine"
)

func total(l []int) int {
	n := 0
	for _, x := range l {
		n += x
	}
	return n
}

// P2.3: what is bought, left, and goes into the air.
func TestReuse(t *testing.T) {
	comes, needs := []int{100, 50, 0, 30}, []int{20, 20, 80, 40}
	most := slices.Repeat([]int{api.MaxHeat}, api.MaxHeatHours)
	none := make([]int, api.MaxHeatHours)
	for _, c := range []struct {
		name         string
		comes, needs []int
		start, room  int
		bought       []int
		left, air    int
	}{
		{"the document's example", comes, needs, 10, 60, []int{0, 0, 20, 10}, 0, 60},
		{"enough room", comes, needs, 10, 90, []int{0, 0, 0, 0}, 0, 30},
		{"no room", comes, needs, 0, 0, []int{0, 0, 80, 10}, 0, 110},
		{"no hours", nil, nil, 5, 9, nil, 5, 0},
		{"no hours, all that can be", []int{}, nil, api.MaxHeat, api.MaxHeat, nil, api.MaxHeat, 0},
		{"what comes is used before there has to be room", []int{50}, []int{50}, 10, 10, []int{0}, 10, 0},
		{"what has no room is used in its hour", []int{50}, []int{55}, 10, 10, []int{0}, 5, 0},
		{"just the room is left", []int{50}, []int{10}, 10, 50, []int{0}, 50, 0},
		{"1 more than the room", []int{50}, []int{9}, 10, 50, []int{0}, 50, 1},
		{"nothing comes", []int{0, 0}, []int{3, 4}, 5, 5, []int{0, 2}, 0, 0},
		{"all that can come", most, none, api.MaxHeat, api.MaxHeat, none, api.MaxHeat, api.MaxHeatHours * api.MaxHeat},
		{"all that can be needed", none, most, 0, 0, most, 0, 0},
	} {
		b, left, air, e := brine.Reuse(c.comes, c.needs, c.start, c.room)
		if !slices.Equal(b, c.bought) || left != c.left || air != c.air || e != api.OK {
			t.Errorf("%s: %v, %d, %d, %d; want %v, %d, %d", c.name, b, left, air, e, c.bought, c.left, c.air)
		}
	}
}

// heatErrors is what neither Reuse nor Room takes, whatever the room or the limit is.
var heatErrors = []struct {
	name         string
	comes, needs []int
	start        int
	e            api.Errno
}{
	{"too long", make([]int, 201), make([]int, 201), 0, api.ErrLong},
	{"too long, and not as many", make([]int, 201), nil, 0, api.ErrLong},
	{"too long, and out of range", slices.Repeat([]int{-1}, 201), make([]int, 201), -1, api.ErrLong},
	{"less needs", []int{1, 2}, []int{1}, 0, api.ErrArg},
	{"more needs", []int{1}, []int{1, 2}, 0, api.ErrArg},
	{"needs only", nil, []int{1}, 0, api.ErrArg},
	{"many needs", nil, make([]int, 201), 0, api.ErrArg},
	{"less needs, and out of range", []int{-1, 2}, []int{1}, -1, api.ErrArg},
	{"comes below 0", []int{1, -1}, []int{1, 1}, 0, api.ErrRange},
	{"comes above MaxHeat", []int{1, api.MaxHeat + 1}, []int{1, 1}, 0, api.ErrRange},
	{"needs below 0", []int{1, 1}, []int{1, -1}, 0, api.ErrRange},
	{"needs above MaxHeat", []int{1, 1}, []int{1, api.MaxHeat + 1}, 0, api.ErrRange},
	{"numbers of any size", []int{math.MaxInt}, []int{math.MinInt}, 0, api.ErrRange},
	{"start below 0", []int{1}, []int{1}, -1, api.ErrRange},
	{"start above MaxHeat", []int{1}, []int{1}, api.MaxHeat + 1, api.ErrRange},
	{"start of any size", nil, nil, math.MinInt, api.ErrRange},
}

// P2.3 and R1: the errors of Reuse, in their order.
func TestReuseErrors(t *testing.T) {
	check := func(name string, comes, needs []int, start, room int, want api.Errno) {
		t.Helper()
		if b, left, air, e := brine.Reuse(comes, needs, start, room); len(b) != 0 || left != 0 || air != 0 || e != want {
			t.Errorf("%s: %v, %d, %d, %d; want %d", name, b, left, air, e, want)
		}
	}
	for _, c := range heatErrors {
		check(c.name, c.comes, c.needs, c.start, 9, c.e)
		check(c.name, c.comes, c.needs, c.start, max(0, c.start), c.e)
	}
	for _, c := range []struct{ start, room int }{
		{0, -1}, {-1, -1}, {0, api.MaxHeat + 1}, {10, 9}, {1, 0}, {0, math.MinInt}, {0, math.MaxInt}, {math.MaxInt, math.MaxInt}, {math.MinInt, math.MinInt},
	} {
		check("start and room", []int{1}, []int{1}, c.start, c.room, api.ErrRange)
		check("start and room", nil, nil, c.start, c.room, api.ErrRange)
		check("start and room, and not as many", []int{1}, nil, c.start, c.room, api.ErrArg)
	}
}

// P2.4: the least room.
func TestRoom(t *testing.T) {
	comes, needs := []int{100, 50, 0, 30}, []int{20, 20, 80, 40}
	greatest := []int{api.MaxHeat, 0}
	later := []int{0, api.MaxHeat}
	for _, c := range []struct {
		name         string
		comes, needs []int
		start, limit int
		want         int
		e            api.Errno
	}{
		{"the document's example, 0", comes, needs, 10, 0, 90, api.OK},
		{"the document's example, 10", comes, needs, 10, 10, 80, api.OK},
		{"the document's example, 30", comes, needs, 10, 30, 60, api.OK},
		{"1 less", comes, needs, 10, 29, 61, api.OK},
		{"1 more", comes, needs, 10, 31, 59, api.OK},
		{"start is enough", comes, needs, 10, 80, 10, api.OK},
		{"start is just not enough", comes, needs, 10, 79, 11, api.OK},
		{"start is more than enough", comes, needs, 95, 0, 95, api.OK},
		{"any limit", comes, needs, 10, api.MaxAmount, 10, api.OK},
		{"no hours", nil, nil, 7, 0, 7, api.OK},
		{"all the room", greatest, later, 0, 0, api.MaxHeat, api.OK},
		{"all the room but 1", greatest, later, 0, 1, api.MaxHeat - 1, api.OK},
		{"all is stored already", greatest, later, api.MaxHeat, 0, api.MaxHeat, api.OK},
		{"too little comes", []int{5}, []int{9}, 0, 3, 0, api.ErrNone},
		{"just enough comes", []int{5}, []int{9}, 0, 4, 0, api.OK},
		{"too late", []int{0, 9}, []int{9, 0}, 3, 5, 0, api.ErrNone},
		{"no room is large enough", []int{api.MaxHeat, api.MaxHeat, 0, 0}, []int{0, 0, api.MaxHeat, 1}, 0, 0, 0, api.ErrNone},
	} {
		if n, e := brine.Room(c.comes, c.needs, c.start, c.limit); n != c.want || e != c.e {
			t.Errorf("%s: %d, %d; want %d, %d", c.name, n, e, c.want, c.e)
		}
	}
}

// P2.4 and R1: the errors of Reuse, then ErrRange, then ErrNone.
func TestRoomErrors(t *testing.T) {
	for _, c := range heatErrors {
		for _, limit := range []int{0, -1, api.MaxAmount + 1} {
			if n, e := brine.Room(c.comes, c.needs, c.start, limit); n != 0 || e != c.e {
				t.Errorf("%s: %d, %d; want %d", c.name, n, e, c.e)
			}
		}
	}
	for _, limit := range []int{-1, api.MaxAmount + 1, math.MinInt, math.MaxInt} {
		for _, needs := range []int{0, 9} {
			if n, e := brine.Room([]int{5}, []int{needs}, 0, limit); n != 0 || e != api.ErrRange {
				t.Errorf("limit %d: %d, %d", limit, n, e)
			}
		}
	}
}

// P2.4: no lesser room is enough.
func TestRoomLeast(t *testing.T) {
	rnd := rand.New(rand.NewSource(24))
	told := 0
	for range 3000 {
		comes, needs := anyHours(rnd, 6, 9)
		start, limit := rnd.Intn(3), rnd.Intn(8)
		want, found := 0, false
		for room := start; room <= 60 && !found; room++ {
			b, _, _, _ := brine.Reuse(comes, needs, start, room)
			want, found = room, total(b) <= limit
		}
		n, e := brine.Room(comes, needs, start, limit)
		if found && (n != want || e != api.OK) || !found && (n != 0 || e != api.ErrNone) {
			t.Fatal(comes, needs, start, limit, n, e, want, found)
		}
		if found && want > start {
			told++
		}
	}
	if told < 100 {
		t.Fatal("hardly any room was searched for", told)
	}
}

// anyHours returns what comes and is needed in some hours.
func anyHours(rnd *rand.Rand, hours, most int) (comes, needs []int) {
	for range rnd.Intn(hours + 1) {
		comes = append(comes, rnd.Intn(most+1))
		needs = append(needs, rnd.Intn(most+1))
	}
	return comes, needs
}

// P2.7: no other way to use what is stored buys less, until whatever hour.
func TestReuseLeast(t *testing.T) {
	rnd := rand.New(rand.NewSource(270))
	for range 1500 {
		comes, needs := anyHours(rnd, 5, 6)
		room := rnd.Intn(8)
		start := rnd.Intn(room + 1)
		bought, left, air, e := brine.Reuse(comes, needs, start, room)
		if e != api.OK {
			t.Fatal(e)
		}
		least := leastBought(comes, needs, start, room)
		for h := range comes {
			if total(bought[:h+1]) != least[h] {
				t.Fatal("less can be bought", comes, needs, start, room, h, bought, least)
			}
		}
		if start+total(comes)+total(bought) != left+air+total(needs) {
			t.Fatal("heat is not conserved", comes, needs, start, room, bought, left, air)
		}
	}
}

// leastBought tries each use and each loss, and returns the least that is bought until each hour.
func leastBought(comes, needs []int, start, room int) []int {
	least := make([]int, len(comes))
	paid := map[int]int{start: 0}
	for h := range comes {
		next := map[int]int{}
		least[h] = math.MaxInt
		for stored, cost := range paid {
			there := stored + comes[h]
			for used := 0; used <= min(there, needs[h]); used++ {
				now := cost + needs[h] - used
				least[h] = min(least[h], now)
				for kept := 0; kept <= min(room, there-used); kept++ {
					if before, known := next[kept]; !known || now < before {
						next[kept] = now
					}
				}
			}
		}
		paid = next
	}
	return least
}

// P2.7: with more room no more is bought, until whatever hour.
func TestReuseMoreRoom(t *testing.T) {
	rnd := rand.New(rand.NewSource(277))
	for range 3000 {
		comes, needs := anyHours(rnd, 12, 1000)
		start := rnd.Intn(500)
		room := start + rnd.Intn(1000)
		less, _, _, _ := brine.Reuse(comes, needs, start, room)
		more, _, _, _ := brine.Reuse(comes, needs, start, room+1+rnd.Intn(500))
		for h := range comes {
			if total(more[:h+1]) > total(less[:h+1]) {
				t.Fatal(comes, needs, start, room, h, less, more)
			}
		}
	}
}

// P2.7: hours in two parts leave what they leave in one.
func TestReuseTwoParts(t *testing.T) {
	rnd := rand.New(rand.NewSource(2777))
	for range 1000 {
		comes, needs := anyHours(rnd, 12, 100)
		room := rnd.Intn(200)
		start, cut := rnd.Intn(room+1), rnd.Intn(len(comes)+1)
		b, left, air, _ := brine.Reuse(comes, needs, start, room)
		b1, middle, air1, _ := brine.Reuse(comes[:cut], needs[:cut], start, room)
		b2, end, air2, e := brine.Reuse(comes[cut:], needs[cut:], middle, room)
		if e != api.OK || !slices.Equal(append(b1, b2...), b) || end != left || air1+air2 != air {
			t.Fatal(comes, needs, start, room, cut)
		}
	}
}
