package tests

import (
	"math"
	"math/bits"
	"math/rand"
	"slices"
	"testing"

	"loop.example/g03302/impl"
)

// pegsIn returns the number of pegs of a position.
func pegsIn(p int) int { return bits.OnesCount(uint(p)) }

// byPegs lists positions in layers, each in ascending order: the layer n has those with n pegs fewer, or more, than p.
func byPegs(positions map[int]bool, p int) [][]int {
	layers := [][]int{}
	for q := range positions {
		n := max(pegsIn(p)-pegsIn(q), pegsIn(q)-pegsIn(p))
		for len(layers) <= n {
			layers = append(layers, []int{})
		}
		layers[n] = append(layers[n], q)
	}
	for _, list := range layers {
		slices.Sort(list)
	}
	return layers
}

// layersByPlaying lists the layers of what is reached from a position, found by playing every jump.
func layersByPlaying(lines []impl.Line, p int) [][]int { return byPegs(reachedFrom(lines, p), p) }

// backLayersByPlaying lists the layers of the positions that reach a goal, found by playing between the complements.
func backLayersByPlaying(b impl.Board, lines []impl.Line, goal int) [][]int {
	return byPegs(goodPositions(b, lines, goal), goal)
}

// firstLongest returns the index of the first one of the longest lists.
func firstLongest(lists [][]int) int {
	first := 0
	for i, list := range lists {
		if len(list) > len(lists[first]) {
			first = i
		}
	}
	return first
}

// inBoth lists the numbers that are in both of two lists, each once, in ascending order.
func inBoth(a []int, c []int) []int {
	both := []int{}
	for _, n := range a {
		if slices.Contains(c, n) {
			both = append(both, n)
		}
	}
	slices.Sort(both)
	return slices.Compact(both)
}

// numbersBehind returns numbers of jumps for which a layer is empty when there are some layers before it.
func numbersBehind(layers int) []int {
	return append(greatInts(), layers, layers+1, layers+17, -1, -2, -layers)
}

func checkLayer(t *testing.T, b impl.Board, p int, n int, want ...int) {
	t.Helper()
	if got := impl.LayerOf(b, p, n); !slices.Equal(got, want) {
		t.Errorf("LayerOf(%v, %d, %d): got %v, want %v", b, p, n, got, want)
	}
}

func checkBackLayer(t *testing.T, b impl.Board, goal int, n int, want ...int) {
	t.Helper()
	if got := impl.BackLayer(b, goal, n); !slices.Equal(got, want) {
		t.Errorf("BackLayer(%v, %d, %d): got %v, want %v", b, goal, n, got, want)
	}
}

func checkWidest(t *testing.T, b impl.Board, p int, want int) {
	t.Helper()
	if got := impl.WidestLayer(b, p); got != want {
		t.Errorf("WidestLayer(%v, %d): got %d, want %d", b, p, got, want)
	}
}

func checkMeeting(t *testing.T, b impl.Board, p int, goal int, n int, want ...int) {
	t.Helper()
	if got := impl.MeetingOf(b, p, goal, n); !slices.Equal(got, want) {
		t.Errorf("MeetingOf(%v, %d, %d, %d): got %v, want %v", b, p, goal, n, got, want)
	}
}

// checkCommon checks what two lists have in common, with either one first, and that both are as before.
func checkCommon(t *testing.T, a []int, c []int, want ...int) {
	t.Helper()
	oldA, oldC := slices.Clone(a), slices.Clone(c)
	if got := impl.CommonOf(a, c); !slices.Equal(got, want) {
		t.Errorf("CommonOf(%v, %v): got %v, want %v", oldA, oldC, got, want)
	}
	if got := impl.CommonOf(c, a); !slices.Equal(got, want) {
		t.Errorf("CommonOf(%v, %v): got %v, want %v", oldC, oldA, got, want)
	}
	if !slices.Equal(a, oldA) || !slices.Equal(c, oldC) {
		t.Errorf("CommonOf of %v and %v left %v and %v", oldA, oldC, a, c)
	}
}

// checkLayers checks all layers of a position, the empty ones behind them and the widest one.
func checkLayers(t *testing.T, b impl.Board, p int, layers ...[]int) {
	t.Helper()
	for n, want := range layers {
		checkLayer(t, b, p, n, want...)
	}
	for _, n := range numbersBehind(len(layers)) {
		checkLayer(t, b, p, n)
	}
	checkWidest(t, b, p, firstLongest(layers))
}

// checkBackLayers checks all layers of the positions that lead to a goal, and the empty ones behind them.
func checkBackLayers(t *testing.T, b impl.Board, goal int, layers ...[]int) {
	t.Helper()
	for n, want := range layers {
		checkBackLayer(t, b, goal, n, want...)
	}
	for _, n := range numbersBehind(len(layers)) {
		checkBackLayer(t, b, goal, n)
	}
}

// checkMeetings checks where the layers of a position and those of a goal meet, for all numbers of jumps, and returns whether they do.
func checkMeetings(t *testing.T, b impl.Board, p int, goal int, layers [][]int, back [][]int) bool {
	t.Helper()
	d := pegsIn(p) - pegsIn(goal)
	meets := false
	for n := range max(d+1, 0) {
		want := []int{}
		if n < len(layers) && d-n < len(back) {
			want = inBoth(layers[n], back[d-n])
		}
		checkMeeting(t, b, p, goal, n, want...)
		if n > 0 && meets != (len(want) > 0) {
			t.Errorf("%v: the layers of %d and %d meet after some jumps, but not after others", b, p, goal)
		}
		meets = len(want) > 0
	}
	if meets != impl.CanReach(b, p, goal) {
		t.Errorf("%v: CanReach from %d to %d is %v, but the layers are not so", b, p, goal, !meets)
	}
	for _, n := range append(greatInts(), -1, d+1, d+2, -d-1) {
		if n < 0 || n > d {
			checkMeeting(t, b, p, goal, n)
		}
	}
	return meets
}

// checkNoLayers checks that there are no layers of what is no position of a small board.
func checkNoLayers(t *testing.T, b impl.Board, p int) {
	t.Helper()
	for _, n := range append(greatInts(), 0, 1, 2, -1) {
		checkLayer(t, b, p, n)
		checkBackLayer(t, b, p, n)
	}
	checkWidest(t, b, p, -1)
	for _, n := range []int{0, 1, -1} {
		checkMeeting(t, b, p, p, n)
		checkMeeting(t, b, p, 0, n)
		checkMeeting(t, b, 0, p, n)
		checkMeeting(t, b, p, b.Holes, n)
		checkMeeting(t, b, b.Holes, p, n)
	}
}

func TestLayersByHand(t *testing.T) {
	square := impl.Rectangle(3, 3)
	checkLayers(t, square, 35, []int{35}, []int{36}, []int{256})
	checkBackLayers(t, square, 35, []int{35}, []int{27, 106, 177}, []int{182, 248, 426})
	checkBackLayers(t, square, 256, []int{256}, []int{36, 192}, []int{28, 35, 82, 137}, []int{27, 106, 142, 177, 312, 402}, []int{182, 248, 426})
	// The middle two pegs of a row of four: the first line leads to the greater position.
	checkLayers(t, impl.Rectangle(4, 1), 6, []int{6}, []int{1, 8})
	checkBackLayers(t, impl.Rectangle(4, 1), 6, []int{6})
	row := impl.Rectangle(6, 1)
	checkLayers(t, row, 61, []int{61}, []int{51}, []int{11, 52}, []int{12}, []int{2, 16})
	checkBackLayers(t, row, 2, []int{2}, []int{12}, []int{11, 52}, []int{51}, []int{47, 61})
	checkBackLayers(t, impl.Rectangle(1, 6), 9, []int{9}, []int{7, 14, 49}, []int{27, 45, 54})
	// No line of this board leads over the missing hole.
	checkLayers(t, notch(), 29, []int{29}, []int{37})
	checkBackLayers(t, notch(), 37, []int{37}, []int{29})
	checkLayers(t, notch(), 5, []int{5})
}

func TestPositionsOfSeveralGamesAreInTheLayerOnce(t *testing.T) {
	// Both orders of the two jumps lead from 27 to 36.
	checkLayers(t, impl.Rectangle(3, 2), 27, []int{27}, []int{28, 35}, []int{36})
	checkBackLayers(t, impl.Rectangle(3, 2), 36, []int{36}, []int{28, 35}, []int{27})
	checkMeeting(t, impl.Rectangle(3, 2), 27, 36, 1, 28, 35)
	checkLayers(t, impl.Rectangle(3, 3), 27, []int{27}, []int{28, 35, 82, 137}, []int{36, 192}, []int{256})
}

func TestLayersOfAllPositions(t *testing.T) {
	for _, b := range []impl.Board{impl.Rectangle(3, 3), ring(), notch(), impl.Rectangle(4, 2), impl.Rectangle(2, 4), impl.Rectangle(7, 1), impl.Rectangle(1, 7)} {
		lines := linesByPlace(b)
		for p := range b.Holes + 1 {
			if p&b.Holes == p {
				checkLayers(t, b, p, layersByPlaying(lines, p)...)
				checkBackLayers(t, b, p, backLayersByPlaying(b, lines, p)...)
			} else {
				checkNoLayers(t, b, p)
			}
		}
	}
}

func TestLayersOnEveryBoard(t *testing.T) {
	eachBoard(func(b impl.Board) {
		lines := linesByPlace(b)
		eachPosition(b, func(pegs []int) {
			p := positionOf(pegs...)
			if b.Width*b.Height > 16 {
				checkNoLayers(t, b, p)
				return
			}
			checkLayers(t, b, p, layersByPlaying(lines, p)...)
			checkBackLayers(t, b, p, backLayersByPlaying(b, lines, p)...)
		})
	})
}

func TestLayersOnBoardsOfSixteenPlaces(t *testing.T) {
	random := rand.New(rand.NewSource(170))
	most, deepest := 0, 0
	for _, b := range smallBoards() {
		lines := linesByPlace(b)
		positions := []int{0, b.Holes}
		for _, k := range holesByPlace(b) {
			positions = append(positions, positionOf(k), b.Holes-positionOf(k))
		}
		for range 15 {
			positions = append(positions, random.Intn(b.Holes+1)&b.Holes)
		}
		for _, p := range positions {
			layers := layersByPlaying(lines, p)
			checkLayers(t, b, p, layers...)
			checkBackLayers(t, b, p, backLayersByPlaying(b, lines, p)...)
			most, deepest = max(most, len(layers[firstLongest(layers)])), max(deepest, len(layers))
		}
	}
	if most < 440 || deepest < 14 {
		t.Errorf("no layer has more than %d positions, and no position more than %d layers", most, deepest)
	}
}

func TestFirstAndLastLayers(t *testing.T) {
	random := rand.New(rand.NewSource(171))
	for _, b := range smallBoards() {
		for range 30 {
			p := random.Intn(b.Holes+1) & b.Holes
			checkLayer(t, b, p, 0, p)
			checkBackLayer(t, b, p, 0, p)
			last := pegsIn(p) - impl.FewestLeft(b, p)
			if got := impl.LayerOf(b, p, last); len(got) == 0 || pegsIn(got[0]) != impl.FewestLeft(b, p) {
				t.Errorf("LayerOf(%v, %d, %d): got %v", b, p, last, got)
			}
			checkLayer(t, b, p, last+1)
			// What is played from a position is what is undone between the complements.
			other := impl.OtherOf(b, p)
			if got := impl.BackLayer(b, other, last); len(got) != len(impl.LayerOf(b, p, last)) {
				t.Errorf("BackLayer(%v, %d, %d): got %v", b, other, last, got)
			}
			checkBackLayer(t, b, other, last+1)
		}
	}
}

func TestLayersOfPositionsWithoutJumps(t *testing.T) {
	alone, withoutUndos := 0, 0
	for _, b := range smallBoards() {
		checkLayers(t, b, 0, []int{0})
		checkLayers(t, b, b.Holes, []int{b.Holes})
		checkBackLayers(t, b, 0, []int{0})
		checkBackLayers(t, b, b.Holes, []int{b.Holes})
		for p := range min(b.Holes+1, 600) {
			if p&b.Holes == p && len(impl.JumpsOf(b, p)) == 0 {
				checkLayers(t, b, p, []int{p})
				alone++
			}
			if p&b.Holes == p && len(impl.UndosOf(b, p)) == 0 {
				checkBackLayers(t, b, p, []int{p})
				withoutUndos++
			}
		}
	}
	if alone < 300 || withoutUndos < 300 {
		t.Errorf("only %d positions without jumps, and %d without undone ones", alone, withoutUndos)
	}
	// Where there are no lines at all, each position has its first layer only.
	for p := range 16 {
		checkLayers(t, impl.Rectangle(2, 2), p, []int{p})
		checkBackLayers(t, impl.Rectangle(2, 2), p, []int{p})
	}
	checkBackLayers(t, impl.Rectangle(3, 3), 16, []int{16})
	checkBackLayers(t, impl.Rectangle(3, 3), 2, []int{2}, []int{144})
}

func TestLayersMakeUpWhatIsReached(t *testing.T) {
	random := rand.New(rand.NewSource(172))
	for _, b := range smallBoards() {
		for range 20 {
			p := random.Intn(b.Holes+1) & b.Holes
			reached, back := []int{}, []int{}
			for n := range 17 {
				reached = append(reached, impl.LayerOf(b, p, n)...)
				back = append(back, impl.BackLayer(b, p, n)...)
			}
			slices.Sort(reached)
			slices.Sort(back)
			if !slices.Equal(reached, impl.ReachOf(b, p)) {
				t.Errorf("%v: the layers of %d have %v", b, p, reached)
			}
			if !slices.Equal(back, impl.BackOf(b, p)) {
				t.Errorf("%v: the layers back from %d have %v", b, p, back)
			}
		}
	}
}

func TestLayersFollowGames(t *testing.T) {
	random := rand.New(rand.NewSource(173))
	longest := 0
	for _, b := range smallBoards() {
		lines := linesByPlace(b)
		for range 15 {
			pegs := somePegs(random, holesByPlace(b), len(holesByPlace(b)))
			jumps, positions := randomGame(random, lines, pegs)
			longest = max(longest, len(jumps))
			d := len(jumps)
			for n, q := range positions {
				if !slices.Contains(impl.LayerOf(b, positions[0], n), q) {
					t.Errorf("%v: %d jumps lead from %d to %d, but it is not in the layer", b, n, positions[0], q)
				}
				if !slices.Contains(impl.BackLayer(b, positions[d], d-n), q) {
					t.Errorf("%v: %d jumps lead from %d to %d, but it is not in the layer", b, d-n, q, positions[d])
				}
				if !slices.Contains(impl.MeetingOf(b, positions[0], positions[d], n), q) {
					t.Errorf("%v: a game from %d to %d leads over %d, where the layers do not meet", b, positions[0], positions[d], q)
				}
			}
		}
	}
	if longest < 6 {
		t.Errorf("no game has more than %d jumps", longest)
	}
}

func TestWidestLayer(t *testing.T) {
	square := impl.Rectangle(3, 3)
	checkWidest(t, square, 0, 0)
	checkWidest(t, square, 511, 0)
	checkWidest(t, square, 256, 0)
	checkWidest(t, square, 27, 1)
	// All layers have one position each.
	checkLayers(t, square, 120, []int{120}, []int{49}, []int{9}, []int{64})
	checkWidest(t, square, 120, 0)
	checkWidest(t, square, 35, 0)
	// Two of the layers have three positions each, or two.
	checkLayers(t, square, 55, []int{55}, []int{15, 165, 275}, []int{70, 276, 385}, []int{65})
	checkWidest(t, square, 55, 1)
	checkWidest(t, impl.Rectangle(6, 1), 61, 2)
	// Only the last but one has more than one position.
	checkLayers(t, square, 107, []int{107}, []int{108}, []int{37, 328}, []int{257})
	checkWidest(t, square, 107, 2)
	greatest := impl.Rectangle(4, 4)
	checkWidest(t, greatest, impl.FullBut(greatest, 0), 8)
	if got := len(impl.LayerOf(greatest, impl.FullBut(greatest, 5), 8)); got != 443 {
		t.Errorf("LayerOf the greatest board: got %d positions", got)
	}
	for _, p := range []int{-1, 512, math.MaxInt64, math.MinInt64} {
		checkWidest(t, square, p, -1)
	}
	checkWidest(t, notch(), 2, -1)
	checkWidest(t, impl.CrossBoard(), 0, -1)
	checkWidest(t, impl.Board{}, 0, -1)
}

func TestCommonOfAscendingLists(t *testing.T) {
	checkCommon(t, nil, nil)
	checkCommon(t, []int{}, nil)
	checkCommon(t, []int{1, 2}, nil)
	checkCommon(t, []int{0}, []int{})
	checkCommon(t, []int{1, 2, 3}, []int{1, 2, 3}, 1, 2, 3)
	checkCommon(t, []int{0}, []int{0}, 0)
	checkCommon(t, []int{-1}, []int{-1}, -1)
	checkCommon(t, []int{1, 2}, []int{3})
	checkCommon(t, []int{1, 3, 5}, []int{0, 2, 4, 6})
	checkCommon(t, []int{5}, []int{1, 2, 3, 4, 5, 6}, 5)
	checkCommon(t, []int{6}, []int{1, 2, 3, 4, 5, 6}, 6)
	checkCommon(t, []int{1}, []int{1, 2, 3, 4, 5, 6}, 1)
	checkCommon(t, []int{1, 4, 9, 16}, []int{1, 2, 4, 8, 16, 32}, 1, 4, 16)
	checkCommon(t, []int{-7, -3, 0, 2}, []int{-8, -7, -2, 0, 3}, -7, 0)
	checkCommon(t, greatAscending(), greatAscending(), greatAscending()...)
	checkCommon(t, []int{math.MinInt64, math.MaxInt64}, []int{math.MaxInt64}, math.MaxInt64)
	checkCommon(t, []int{math.MinInt64, math.MaxInt64}, []int{math.MinInt64, 0}, math.MinInt64)
	checkCommon(t, []int{math.MinInt64}, []int{math.MaxInt64})
	checkCommon(t, []int{math.MinInt64, 1}, []int{0, 1, math.MaxInt64}, 1)
}

func TestCommonOfListsWithEqualNumbers(t *testing.T) {
	checkCommon(t, []int{0, 0}, []int{0}, 0)
	checkCommon(t, []int{0, 0}, []int{0, 0}, 0)
	checkCommon(t, []int{4, 4, 4, 4}, []int{4, 4}, 4)
	checkCommon(t, []int{1, 1, 2}, []int{1, 2, 2}, 1, 2)
	checkCommon(t, []int{1, 1, 2, 2, 3, 3}, []int{1, 1, 1, 3, 3}, 1, 3)
	checkCommon(t, []int{-2, -2, -1}, []int{-2, -2, -2, -1, -1}, -2, -1)
	checkCommon(t, []int{1, 1, 1}, []int{2, 2})
	checkCommon(t, []int{math.MaxInt64, math.MaxInt64}, []int{math.MaxInt64, math.MaxInt64, math.MaxInt64}, math.MaxInt64)
	checkCommon(t, []int{math.MinInt64, math.MinInt64}, []int{math.MinInt64, math.MinInt64}, math.MinInt64)
}

func TestCommonOfListsThatAreNotAscending(t *testing.T) {
	checkCommon(t, []int{3, 1, 2}, []int{1, 2, 3}, 3)
	checkCommon(t, []int{3, 2, 1}, []int{3, 2, 1}, 3, 2, 1)
	checkCommon(t, []int{3, 2, 1}, []int{1, 2, 3}, 3)
	checkCommon(t, []int{2, 1, 3}, []int{1, 3, 2}, 3)
	checkCommon(t, []int{9, 1, 2}, []int{1, 2, 3})
	// A number is taken again after another one was taken, but not right after itself.
	checkCommon(t, []int{2, 1, 2}, []int{2, 1, 2}, 2, 1, 2)
	checkCommon(t, []int{1, 2, 1, 2}, []int{1, 2, 1, 2}, 1, 2, 1, 2)
	checkCommon(t, []int{5, 5, 1, 5}, []int{5, 1, 5}, 5)
	checkCommon(t, []int{5, 1, 5, 5}, []int{5, 1, 5}, 5, 1, 5)
	checkCommon(t, []int{5, 1, 5}, []int{5, 2, 5}, 5)
	// Of equal numbers in a list, only one is passed over at a time.
	checkCommon(t, []int{1, 1, 0}, []int{1, 0}, 1)
	checkCommon(t, []int{7, 7, 3, 9}, []int{7, 3, 9}, 7, 9)
}

// greatAscending returns the numbers at the ends of an int, and some between them, in ascending order.
func greatAscending() []int {
	list := append(greatInts(), -1, 0, 1)
	slices.Sort(list)
	return list
}

// someNumbers returns up to 8 numbers of a small range around 0, chosen at random.
func someNumbers(random *rand.Rand) []int {
	list := []int{}
	for range random.Intn(9) {
		list = append(list, random.Intn(9)-4)
	}
	return list
}

// commonOfRests returns what the rests of two lists have in common, as the document describes it, after a number was taken, if one was.
func commonOfRests(a []int, c []int, taken ...int) []int {
	if len(a) == 0 || len(c) == 0 {
		return nil
	}
	if a[0] < c[0] {
		return commonOfRests(a[1:], c, taken...)
	}
	if c[0] < a[0] {
		return commonOfRests(a, c[1:], taken...)
	}
	if slices.Equal(taken, a[:1]) {
		return commonOfRests(a[1:], c[1:], taken...)
	}
	return append([]int{a[0]}, commonOfRests(a[1:], c[1:], a[0])...)
}

func TestCommonOfRandomLists(t *testing.T) {
	random := rand.New(rand.NewSource(174))
	again := 0
	for range 20000 {
		a, c := someNumbers(random), someNumbers(random)
		want := commonOfRests(a, c)
		checkCommon(t, a, c, want...)
		if !slices.Equal(want, inBoth(a, c)) {
			again++
		}
		slices.Sort(a)
		slices.Sort(c)
		want = inBoth(a, c)
		checkCommon(t, a, c, want...)
		checkCommon(t, slices.Compact(a), slices.Compact(c), want...)
	}
	if again < 5000 {
		t.Errorf("only %d lists have less or more in common than if they were ascending", again)
	}
}

func TestMeetingByHand(t *testing.T) {
	square := impl.Rectangle(3, 3)
	checkMeeting(t, square, 35, 256, -1)
	checkMeeting(t, square, 35, 256, 0, 35)
	checkMeeting(t, square, 35, 256, 1, 36)
	checkMeeting(t, square, 35, 256, 2, 256)
	checkMeeting(t, square, 35, 256, 3)
	// A goal to which only two of the four positions after one jump lead, and one to which all of them lead.
	checkMeeting(t, square, 27, 36, 1, 28, 35)
	checkMeeting(t, square, 27, 256, 1, 28, 35, 82, 137)
	checkMeeting(t, square, 27, 256, 2, 36, 192)
	row := impl.Rectangle(6, 1)
	for n, want := range [][]int{{61}, {51}, {11, 52}, {12}, {2}} {
		checkMeeting(t, row, 61, 2, n, want...)
	}
	checkMeeting(t, row, 61, 16, 2, 11, 52)
	checkMeeting(t, row, 61, 16, 4, 16)
	checkMeeting(t, row, 61, 2, 5)
	checkMeeting(t, row, 61, 2, -1)
}

func TestMeetingOfAPositionAndItself(t *testing.T) {
	random := rand.New(rand.NewSource(175))
	for _, b := range smallBoards() {
		for range 20 {
			p := random.Intn(b.Holes+1) & b.Holes
			checkMeeting(t, b, p, p, 0, p)
			for _, n := range append(greatInts(), -1, 1, 2) {
				checkMeeting(t, b, p, p, n)
			}
		}
	}
}

func TestMeetingsThatCannotBe(t *testing.T) {
	square := impl.Rectangle(3, 3)
	// A goal with more pegs than the position, also where a game leads back to it.
	for n := -3; n <= 3; n++ {
		checkMeeting(t, square, 256, 35, n)
		checkMeeting(t, square, 256, 36, n)
		checkMeeting(t, square, 0, 511, n)
		checkMeeting(t, square, 36, 35, n)
	}
	// As many pegs, but other ones.
	for n := -1; n <= 2; n++ {
		checkMeeting(t, square, 36, 192, n)
		checkMeeting(t, square, 1, 2, n)
	}
	// Goals that cannot be reached: with another key, and with the same one.
	for n := -1; n <= 4; n++ {
		checkMeeting(t, square, 35, 1, n)
		checkMeeting(t, square, 35, 0, n)
		checkMeeting(t, square, 27, 0, n)
		checkMeeting(t, square, 341, 7, n)
	}
	if impl.SameKey(square, 35, 1) || !impl.SameKey(square, 341, 7) {
		t.Error("the keys are not those of the test")
	}
}

func TestMeetingsOfAllPairs(t *testing.T) {
	meeting, apart := 0, 0
	for _, b := range []impl.Board{notch(), ring(), impl.Rectangle(3, 2), impl.Rectangle(4, 2), impl.Rectangle(7, 1), impl.Rectangle(1, 7)} {
		lines := linesByPlace(b)
		layers, back := map[int][][]int{}, map[int][][]int{}
		for p := range b.Holes + 1 {
			if p&b.Holes == p {
				layers[p], back[p] = layersByPlaying(lines, p), backLayersByPlaying(b, lines, p)
			}
		}
		for p := range layers {
			for goal := range back {
				if checkMeetings(t, b, p, goal, layers[p], back[goal]) {
					meeting++
				} else {
					apart++
				}
			}
		}
	}
	if meeting < 2500 || apart < 2500 {
		t.Errorf("%d pairs meet, and %d do not", meeting, apart)
	}
}

func TestMeetingsOnSmallBoards(t *testing.T) {
	random := rand.New(rand.NewSource(176))
	far, apart := 0, 0
	for _, b := range smallBoards() {
		lines := linesByPlace(b)
		for range 25 {
			p := random.Intn(b.Holes+1) & b.Holes
			if random.Intn(3) == 0 {
				holes := holesByPlace(b)
				p = b.Holes - positionOf(holes[random.Intn(len(holes))])
			}
			layers := layersByPlaying(lines, p)
			last := layers[len(layers)-1]
			for _, goal := range []int{last[0], last[len(last)-1], layers[len(layers)/2][0], random.Intn(b.Holes+1) & b.Holes, p ^ b.Holes} {
				meets := checkMeetings(t, b, p, goal, layers, backLayersByPlaying(b, lines, goal))
				if meets && pegsIn(p)-pegsIn(goal) >= 8 {
					far++
				}
				if !meets {
					apart++
				}
			}
		}
	}
	if far < 20 || apart < 300 {
		t.Errorf("only %d pairs meet over 8 jumps or more, and %d do not meet", far, apart)
	}
}

func TestLayersOfInvalidPositions(t *testing.T) {
	for _, b := range smallBoards() {
		for _, p := range invalidPositions(b) {
			checkNoLayers(t, b, p)
		}
	}
	checkNoLayers(t, impl.Rectangle(3, 3), -1)
	checkNoLayers(t, impl.Rectangle(3, 3), -256)
	checkNoLayers(t, impl.Rectangle(3, 3), 512)
	checkNoLayers(t, impl.Rectangle(3, 3), 512+35)
	checkNoLayers(t, notch(), 2)
	checkNoLayers(t, notch(), 7)
	checkNoLayers(t, impl.Rectangle(4, 4), 1<<16)
}

func TestMeetingsWithOneInvalidPosition(t *testing.T) {
	random := rand.New(rand.NewSource(177))
	for _, b := range smallBoards() {
		for _, wrong := range invalidPositions(b) {
			p := random.Intn(b.Holes+1) & b.Holes
			for n := -2; n <= 17; n++ {
				checkMeeting(t, b, wrong, p, n)
				checkMeeting(t, b, p, wrong, n)
			}
		}
	}
}

func TestLayersOnLargeBoards(t *testing.T) {
	for _, b := range largeBoards() {
		positions := append(invalidPositions(b), 0, b.Holes, b.Holes/2&b.Holes)
		for _, k := range holesByPlace(b) {
			positions = append(positions, positionOf(k), b.Holes-positionOf(k))
		}
		for _, p := range positions {
			checkNoLayers(t, b, p)
		}
	}
	// The same holes on a grid of 16 places and on one of 18.
	checkLayers(t, impl.Board{Width: 4, Height: 4, Holes: 7}, 3, []int{3}, []int{4})
	checkMeeting(t, impl.Board{Width: 4, Height: 4, Holes: 7}, 3, 4, 1, 4)
	checkNoLayers(t, impl.Board{Width: 3, Height: 6, Holes: 7}, 3)
	checkMeeting(t, impl.Board{Width: 3, Height: 6, Holes: 7}, 3, 4, 1)
	checkMeeting(t, impl.Board{Width: 3, Height: 6, Holes: 7}, 3, 4, 0)
}

func TestLayersOnInvalidBoards(t *testing.T) {
	for _, b := range brokenSmallBoards() {
		for _, p := range append(greatInts(), 0, 1, 3, 4, 7, -1, b.Holes, -b.Holes) {
			checkNoLayers(t, b, p)
		}
	}
}

func TestLayersAreNewEachTime(t *testing.T) {
	square := impl.Rectangle(3, 3)
	for range 3 {
		layer, back, meeting := impl.LayerOf(square, 27, 1), impl.BackLayer(square, 256, 2), impl.MeetingOf(square, 27, 256, 1)
		if len(layer) != 4 || len(back) != 4 || len(meeting) != 4 {
			t.Fatalf("got %v, %v and %v", layer, back, meeting)
		}
		clear(layer)
		clear(back)
		checkList(t, square, "MeetingOf", 1, meeting, []int{28, 35, 82, 137})
		clear(meeting)
		checkLayer(t, square, 27, 1, 28, 35, 82, 137)
		checkBackLayer(t, square, 256, 2, 28, 35, 82, 137)
		checkMeeting(t, square, 27, 256, 1, 28, 35, 82, 137)
	}
}

func TestCommonSharesNoMemory(t *testing.T) {
	a, c := []int{1, 2, 3, 70, 80}, []int{1, 2, 3, 90}
	common := impl.CommonOf(a[:3], c[:3])
	_ = append(common, 5, 5)
	clear(common)
	if !slices.Equal(a, []int{1, 2, 3, 70, 80}) || !slices.Equal(c, []int{1, 2, 3, 90}) {
		t.Errorf("the lists became %v and %v", a, c)
	}
	same := impl.CommonOf(a, a)
	clear(a)
	if !slices.Equal(same, []int{1, 2, 3, 70, 80}) {
		t.Errorf("what a list has in common with itself became %v", same)
	}
}
