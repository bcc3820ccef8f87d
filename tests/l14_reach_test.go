package tests

import (
	"math/bits"
	"math/rand"
	"slices"
	"testing"

	"loop.example/g03302/impl"
)

// smallBoards returns boards of several forms with at most 16 places.
func smallBoards() []impl.Board {
	return []impl.Board{
		notch(), ring(), impl.Rectangle(1, 1), impl.Rectangle(2, 2), impl.Rectangle(3, 3), impl.Rectangle(4, 2), impl.Rectangle(2, 5),
		impl.Rectangle(7, 1), impl.Rectangle(1, 7), impl.Rectangle(7, 2), impl.Rectangle(2, 7), impl.Rectangle(5, 3), impl.Rectangle(3, 5), impl.Rectangle(4, 4),
		{Width: 4, Height: 4, Holes: 1<<16 - 1 - positionOf(0, 3, 12, 15)}, {Width: 4, Height: 4, Holes: positionOf(4, 5, 6, 7, 15)},
		{Width: 4, Height: 4, Holes: 1}, {Width: 4, Height: 4, Holes: 1 << 15},
	}
}

// largeBoards returns valid boards with more than 16 places, some of them with few holes.
func largeBoards() []impl.Board {
	return []impl.Board{
		impl.Rectangle(3, 6), impl.Rectangle(6, 3), impl.Rectangle(4, 5), impl.Rectangle(5, 4), impl.Rectangle(7, 3), impl.Rectangle(3, 7),
		sevenBySix(), impl.Rectangle(7, 7), impl.CrossBoard(), {Width: 3, Height: 6, Holes: 7}, {Width: 6, Height: 3, Holes: 7},
		{Width: 7, Height: 7, Holes: 7}, {Width: 7, Height: 7, Holes: 1 << 48}, {Width: 4, Height: 5, Holes: 1<<16 - 1},
	}
}

// reachInOrder lists what a search by playing every jump reaches, in ascending order.
func reachInOrder(lines []impl.Line, p int) []int {
	list := []int{}
	for q := range reachedFrom(lines, p) {
		list = append(list, q)
	}
	slices.Sort(list)
	return list
}

// finalsByPowers lists the holes of the positions with one peg.
func finalsByPowers(b impl.Board, reached []int) []int {
	finals := []int{}
	for _, k := range holesByPlace(b) {
		if slices.Contains(reached, positionOf(k)) {
			finals = append(finals, k)
		}
	}
	return finals
}

// fewestPegs returns the least number of pegs of positions, of which there is at least one.
func fewestPegs(positions []int) int {
	fewest := 64
	for _, q := range positions {
		fewest = min(fewest, bits.OnesCount(uint(q)))
	}
	return fewest
}

func checkCanReach(t *testing.T, b impl.Board, p int, goal int, want bool) {
	t.Helper()
	if got := impl.CanReach(b, p, goal); got != want {
		t.Errorf("CanReach(%v, %d, %d): got %v", b, p, goal, got)
	}
}

func checkFewest(t *testing.T, b impl.Board, p int, want int) {
	t.Helper()
	if got := impl.FewestLeft(b, p); got != want {
		t.Errorf("FewestLeft(%v, %d): got %d, want %d", b, p, got, want)
	}
}

func checkFinals(t *testing.T, b impl.Board, p int, want ...int) {
	t.Helper()
	if got := impl.FinalsOf(b, p); !slices.Equal(got, want) {
		t.Errorf("FinalsOf(%v, %d): got %v, want %v", b, p, got, want)
	}
}

// checkReach checks the list of reachable positions and what is counted in it.
func checkReach(t *testing.T, b impl.Board, p int, want ...int) {
	t.Helper()
	if got := impl.ReachOf(b, p); !slices.Equal(got, want) {
		t.Errorf("ReachOf(%v, %d): got %v, want %v", b, p, got, want)
	}
	if got := impl.CountReach(b, p); got != len(want) {
		t.Errorf("CountReach(%v, %d): got %d, want %d", b, p, got, len(want))
	}
	checkFewest(t, b, p, fewestPegs(want))
	checkFinals(t, b, p, finalsByPowers(b, want)...)
}

// checkReachOfPegs checks all functions of the chapter for a position, and CanReach for a few goals of each kind.
func checkReachOfPegs(t *testing.T, random *rand.Rand, b impl.Board, lines []impl.Line, p int) {
	t.Helper()
	want := reachInOrder(lines, p)
	checkReach(t, b, p, want...)
	checkCanReach(t, b, p, want[0], true)
	checkCanReach(t, b, p, want[len(want)-1], true)
	checkCanReach(t, b, p, p, true)
	for range 3 {
		checkCanReach(t, b, p, want[random.Intn(len(want))], true)
		goal := random.Intn(b.Holes+1) & b.Holes
		checkCanReach(t, b, p, goal, slices.Contains(want, goal))
	}
}

// checkNoReach checks that nothing is reached, not even the position itself.
func checkNoReach(t *testing.T, b impl.Board, p int) {
	t.Helper()
	if got := impl.ReachOf(b, p); len(got) != 0 {
		t.Errorf("ReachOf(%v, %d): got %v", b, p, got)
	}
	if got := impl.CountReach(b, p); got != 0 {
		t.Errorf("CountReach(%v, %d): got %d", b, p, got)
	}
	checkFewest(t, b, p, -1)
	checkFinals(t, b, p)
	for _, goal := range []int{p, 0, 1, -1, b.Holes} {
		checkCanReach(t, b, p, goal, false)
	}
}

func TestIsSmallByPlaces(t *testing.T) {
	if impl.MaxSmall != 16 {
		t.Errorf("MaxSmall is %d, want 16", impl.MaxSmall)
	}
	for width := -1; width <= 17; width++ {
		for height := -1; height <= 17; height++ {
			sides := width >= 1 && width <= 7 && height >= 1 && height <= 7
			for _, holes := range []int{0, 1, 2, 1 << 15, 1<<16 - 1, 1 << 16} {
				want := sides && width*height <= 16 && holes >= 1 && holes < positionOf(width*height)
				if got := impl.IsSmall(impl.Board{Width: width, Height: height, Holes: holes}); got != want {
					t.Errorf("IsSmall of %d by %d with the holes %d: got %v", width, height, holes, got)
				}
			}
			if got := impl.IsSmall(impl.Rectangle(width, height)); got != (sides && width*height <= 16) {
				t.Errorf("IsSmall of all %d by %d: got %v", width, height, got)
			}
		}
	}
}

func TestIsSmallOfNamedBoards(t *testing.T) {
	for _, b := range smallBoards() {
		if !impl.IsSmall(b) {
			t.Errorf("IsSmall(%v): got false", b)
		}
	}
	for _, b := range append(largeBoards(), brokenBoards()...) {
		if impl.IsSmall(b) {
			t.Errorf("IsSmall(%v): got true", b)
		}
	}
	// 16 places are few enough, but a side of 8 is too long.
	if impl.IsSmall(impl.Board{Width: 2, Height: 8, Holes: 1<<16 - 1}) || impl.IsSmall(impl.Board{Width: 8, Height: 2, Holes: 1<<16 - 1}) {
		t.Error("IsSmall of 2 by 8 or 8 by 2: got true")
	}
}

func TestReachByHand(t *testing.T) {
	square := impl.Rectangle(3, 3)
	checkReach(t, square, 35, 35, 36, 256)
	checkFinals(t, square, 35, 8)
	checkFewest(t, square, 35, 1)
	checkCanReach(t, square, 35, 36, true)
	checkCanReach(t, square, 36, 35, false)
	checkCanReach(t, square, 256, 35, false)
	checkCanReach(t, square, 35, 255, false)
	// The middle two pegs of a row of four: the first jump to be found leads to the greater position.
	checkReach(t, impl.Rectangle(4, 1), 6, 1, 6, 8)
	checkFinals(t, impl.Rectangle(4, 1), 6, 0, 3)
	checkReach(t, impl.Rectangle(1, 4), 6, 1, 6, 8)
	// Two orders of the same two jumps lead to the same position.
	checkReach(t, impl.Rectangle(3, 2), 27, 27, 28, 35, 36)
	checkFinals(t, impl.Rectangle(3, 2), 27)
	checkFewest(t, impl.Rectangle(3, 2), 27, 2)
	// No line of this board leads over the missing hole.
	checkReach(t, notch(), 48, 8, 48)
	checkReach(t, notch(), 5, 5)
	checkFinals(t, notch(), 24, 5)
}

func TestReachOfAllPositions(t *testing.T) {
	random := rand.New(rand.NewSource(140))
	for _, b := range []impl.Board{impl.Rectangle(3, 3), ring(), notch(), impl.Rectangle(4, 2), impl.Rectangle(2, 5), impl.Rectangle(7, 1), impl.Rectangle(1, 7)} {
		lines := linesByPlace(b)
		for p := range b.Holes + 1 {
			if p&b.Holes == p {
				checkReachOfPegs(t, random, b, lines, p)
			} else {
				checkNoReach(t, b, p)
			}
		}
	}
}

func TestReachOnEveryBoard(t *testing.T) {
	random := rand.New(rand.NewSource(141))
	eachBoard(func(b impl.Board) {
		lines := linesByPlace(b)
		eachPosition(b, func(pegs []int) {
			if b.Width*b.Height <= 16 {
				checkReachOfPegs(t, random, b, lines, positionOf(pegs...))
			} else {
				checkNoReach(t, b, positionOf(pegs...))
			}
		})
	})
}

func TestReachOnBoardsOfSixteenPlaces(t *testing.T) {
	random := rand.New(rand.NewSource(142))
	for _, b := range smallBoards() {
		if b.Width*b.Height < 14 {
			continue
		}
		lines := linesByPlace(b)
		for _, k := range holesByPlace(b) {
			checkReachOfPegs(t, random, b, lines, b.Holes-positionOf(k))
		}
		for range 40 {
			checkReachOfPegs(t, random, b, lines, random.Intn(b.Holes+1)&b.Holes)
		}
	}
}

func TestReachOfTheGreatestSmallBoard(t *testing.T) {
	b := impl.Rectangle(4, 4)
	for k, want := range map[int]int{0: 1687, 5: 2115} {
		if got := impl.CountReach(b, impl.FullBut(b, k)); got != want {
			t.Errorf("CountReach without the peg %d: got %d, want %d", k, got, want)
		}
	}
}

func TestReachOfStuckPositions(t *testing.T) {
	for _, b := range smallBoards() {
		checkReach(t, b, 0, 0)
		checkFinals(t, b, 0)
		checkFewest(t, b, 0, 0)
		if b.Holes != b.Holes&-b.Holes {
			checkReach(t, b, b.Holes, b.Holes)
			checkFinals(t, b, b.Holes)
			checkFewest(t, b, b.Holes, len(holesByPlace(b)))
		}
	}
	checkReach(t, impl.Rectangle(3, 3), 341, 341)
	checkReach(t, impl.Rectangle(3, 3), 257, 257)
	checkReach(t, impl.Rectangle(2, 2), 7, 7)
	checkReach(t, impl.Rectangle(4, 4), 1<<16-1, 1<<16-1)
	// The pegs 2 and 3 are beside each other in the list of holes, but not on the board.
	checkReach(t, impl.Rectangle(3, 3), 12, 12)
	checkReach(t, impl.Rectangle(7, 1), 0b1010101, 0b1010101)
}

func TestFinalsOfSinglePegs(t *testing.T) {
	for _, b := range smallBoards() {
		for _, k := range holesByPlace(b) {
			checkReach(t, b, positionOf(k), positionOf(k))
			checkFinals(t, b, positionOf(k), k)
			checkFewest(t, b, positionOf(k), 1)
		}
	}
}

func TestFinalsHaveTheKeyOfTheStart(t *testing.T) {
	random := rand.New(rand.NewSource(143))
	several := 0
	for _, b := range smallBoards() {
		for range 60 {
			p := random.Intn(b.Holes+1) & b.Holes
			finals := impl.FinalsOf(b, p)
			for _, k := range finals {
				if !slices.Contains(impl.FinalHoles(b, p), k) {
					t.Errorf("FinalsOf(%v, %d) has %d, which has another key", b, p, k)
				}
			}
			if len(finals) > 1 {
				several++
			}
		}
	}
	if several < 10 {
		t.Errorf("only %d positions have more than one final hole", several)
	}
}

func TestWhatIsReachedFromReachedPositions(t *testing.T) {
	random := rand.New(rand.NewSource(144))
	most := 0
	for _, b := range smallBoards() {
		for range 30 {
			p := random.Intn(b.Holes+1) & b.Holes
			reached := impl.ReachOf(b, p)
			most = max(most, len(reached))
			for range min(len(reached), 20) {
				q := reached[random.Intn(len(reached))]
				if q != p && impl.CountPegs(b, q) >= impl.CountPegs(b, p) {
					t.Errorf("%v: %d with %d pegs is reached from %d with %d pegs", b, q, impl.CountPegs(b, q), p, impl.CountPegs(b, p))
				}
				for _, further := range impl.ReachOf(b, q) {
					if _, ok := slices.BinarySearch(reached, further); !ok {
						t.Errorf("%v: %d is reached from %d, but not from %d", b, further, q, p)
					}
				}
				if impl.FewestLeft(b, q) < impl.FewestLeft(b, p) {
					t.Errorf("%v: fewer pegs can be left from %d than from %d", b, q, p)
				}
			}
		}
	}
	if most < 500 {
		t.Errorf("no more than %d positions are reached", most)
	}
}

func TestGamesLeadToReachedPositions(t *testing.T) {
	random := rand.New(rand.NewSource(145))
	for _, b := range smallBoards() {
		lines := linesByPlace(b)
		for range 20 {
			pegs := somePegs(random, holesByPlace(b), len(holesByPlace(b)))
			_, positions := randomGame(random, lines, pegs)
			for i, from := range positions {
				for k, to := range positions {
					checkCanReach(t, b, from, to, i <= k)
				}
			}
		}
	}
}

func TestGoalsThatAreNoPositions(t *testing.T) {
	for _, b := range smallBoards() {
		for _, goal := range invalidPositions(b) {
			checkCanReach(t, b, 0, goal, false)
			checkCanReach(t, b, b.Holes, goal, false)
			checkCanReach(t, b, b.Holes-positionOf(holesByPlace(b)[0]), goal, false)
			checkCanReach(t, b, goal, 0, false)
			checkCanReach(t, b, goal, b.Holes, false)
		}
	}
	checkCanReach(t, impl.Rectangle(3, 3), 35, -1, false)
	checkCanReach(t, impl.Rectangle(3, 3), 35, 512, false)
	checkCanReach(t, impl.Rectangle(3, 3), 35, 512+256, false)
	checkCanReach(t, notch(), 5, 2, false)
	checkCanReach(t, notch(), 5, 7, false)
}

func TestReachOfInvalidPositions(t *testing.T) {
	for _, b := range smallBoards() {
		for _, p := range invalidPositions(b) {
			checkNoReach(t, b, p)
		}
	}
	checkNoReach(t, impl.Rectangle(3, 3), -1)
	checkNoReach(t, impl.Rectangle(3, 3), 512)
	checkNoReach(t, notch(), 2)
	checkNoReach(t, notch(), 7)
	checkNoReach(t, impl.Rectangle(4, 4), 1<<16)
}

func TestReachOnLargeBoards(t *testing.T) {
	for _, b := range largeBoards() {
		positions := append(invalidPositions(b), 0, b.Holes, b.Holes&-b.Holes, b.Holes/2&b.Holes)
		for _, k := range holesByPlace(b) {
			positions = append(positions, positionOf(k), b.Holes-positionOf(k))
		}
		for _, p := range positions {
			checkNoReach(t, b, p)
		}
	}
}

func TestReachOnInvalidBoards(t *testing.T) {
	boards := append(brokenBoards(),
		impl.Board{Width: 2, Height: 8, Holes: 1<<16 - 1}, impl.Board{Width: 8, Height: 2, Holes: 1<<16 - 1}, impl.Board{Width: 16, Height: 1, Holes: 7},
		impl.Board{Width: 1, Height: 16, Holes: 7}, impl.Board{Width: 4, Height: 4, Holes: 1 << 16}, impl.Board{Width: 4, Height: 4})
	for _, b := range boards {
		for _, p := range append(greatInts(), 0, 1, 3, 7, -1, b.Holes, -b.Holes) {
			checkNoReach(t, b, p)
		}
	}
}

func TestReachedPositionsAreNewEachTime(t *testing.T) {
	b := impl.Rectangle(4, 1)
	for range 3 {
		reached, finals := impl.ReachOf(b, 6), impl.FinalsOf(b, 6)
		if len(reached) != 3 || len(finals) != 2 {
			t.Fatalf("got %v and %v", reached, finals)
		}
		clear(reached)
		clear(finals)
		checkReach(t, b, 6, 1, 6, 8)
	}
}
