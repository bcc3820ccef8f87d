package tests

import (
	"math/rand"
	"slices"
	"testing"

	"loop.example/g03302/impl"
)

// goodPositions lists from where a goal is reached: the complements of what the complement of the goal reaches.
func goodPositions(b impl.Board, lines []impl.Line, goal int) map[int]bool {
	good := map[int]bool{}
	for q := range reachedFrom(lines, b.Holes-goal) {
		good[b.Holes-q] = true
	}
	return good
}

// goodInOrder lists the lines on which a jump from a position leads to one of the good positions.
func goodInOrder(lines []impl.Line, p int, good map[int]bool) []impl.Line {
	return slices.DeleteFunc(slices.Clone(lines), func(l impl.Line) bool {
		jumper, landed := positionOf(l.From, l.Over), positionOf(l.To)
		return p&jumper != jumper || p&landed != 0 || !good[p-jumper+landed]
	})
}

// firstOfAllGames plays all games from a position, in order, and returns the first one that ends with the goal.
func firstOfAllGames(lines []impl.Line, p int, goal int) ([]impl.Line, bool) {
	if p == goal {
		return []impl.Line{}, true
	}
	for _, l := range lines {
		jumper, landed := positionOf(l.From, l.Over), positionOf(l.To)
		if p&jumper != jumper || p&landed != 0 {
			continue
		}
		if rest, ok := firstOfAllGames(lines, p-jumper+landed, goal); ok {
			return append([]impl.Line{l}, rest...), true
		}
	}
	return nil, false
}

// firstByGoodJumps returns the game that takes the first good jump at each of its positions.
func firstByGoodJumps(lines []impl.Line, p int, goal int, good map[int]bool) []impl.Line {
	way := []impl.Line{}
	for p != goal {
		l := goodInOrder(lines, p, good)[0]
		way = append(way, l)
		p += positionOf(l.To) - positionOf(l.From, l.Over)
	}
	return way
}

func checkWay(t *testing.T, b impl.Board, p int, goal int, want []impl.Line, wantOk bool) {
	t.Helper()
	if got, ok := impl.WayTo(b, p, goal); !slices.Equal(got, want) || ok != wantOk {
		t.Errorf("WayTo(%v, %d, %d): got %v and %v, want %v and %v", b, p, goal, got, ok, want, wantOk)
	}
	number := len(want)
	if !wantOk {
		number = -1
	}
	if got := impl.JumpsBetween(b, p, goal); got != number {
		t.Errorf("JumpsBetween(%v, %d, %d): got %d, want %d", b, p, goal, got, number)
	}
}

func checkSingleWay(t *testing.T, b impl.Board, p int, want []impl.Line, wantOk bool) {
	t.Helper()
	if got, ok := impl.WayToSingle(b, p); !slices.Equal(got, want) || ok != wantOk {
		t.Errorf("WayToSingle(%v, %d): got %v and %v, want %v and %v", b, p, got, ok, want, wantOk)
	}
}

func checkGood(t *testing.T, b impl.Board, p int, goal int, want ...impl.Line) {
	t.Helper()
	if got := impl.GoodJumps(b, p, goal); !slices.Equal(got, want) {
		t.Errorf("GoodJumps(%v, %d, %d): got %v, want %v", b, p, goal, got, want)
	}
}

func checkSpoiled(t *testing.T, b impl.Board, p int, goal int, l impl.Line, want bool) {
	t.Helper()
	if got := impl.IsSpoiled(b, p, goal, l); got != want {
		t.Errorf("IsSpoiled(%v, %d, %d, %v): got %v", b, p, goal, l, got)
	}
}

// checkGoal checks all functions of the chapter for one goal, and returns the number of jumps that spoil and of good ones.
func checkGoal(t *testing.T, b impl.Board, lines []impl.Line, p int, goal int) (int, int) {
	t.Helper()
	good := goodPositions(b, lines, goal)
	if !good[p] {
		checkWay(t, b, p, goal, nil, false)
		checkGood(t, b, p, goal)
		for _, l := range lines {
			checkSpoiled(t, b, p, goal, l, false)
		}
		return 0, 0
	}
	checkWay(t, b, p, goal, firstByGoodJumps(lines, p, goal, good), true)
	jumps := goodInOrder(lines, p, good)
	checkGood(t, b, p, goal, jumps...)
	spoiling := 0
	for _, l := range lines {
		jumper, landed := positionOf(l.From, l.Over), positionOf(l.To)
		spoils := p&jumper == jumper && p&landed == 0 && !slices.Contains(jumps, l)
		checkSpoiled(t, b, p, goal, l, spoils)
		if spoils {
			spoiling++
		}
	}
	return spoiling, len(jumps)
}

// checkSingle checks WayToSingle against the first hole in which a last peg is left.
func checkSingle(t *testing.T, b impl.Board, lines []impl.Line, p int) {
	t.Helper()
	finals := finalsByPowers(b, reachInOrder(lines, p))
	if len(finals) == 0 {
		checkSingleWay(t, b, p, nil, false)
		return
	}
	goal := positionOf(finals[0])
	checkSingleWay(t, b, p, firstByGoodJumps(lines, p, goal, goodPositions(b, lines, goal)), true)
}

// checkNoWay checks that no goal is reached, not even the position itself.
func checkNoWay(t *testing.T, b impl.Board, p int) {
	t.Helper()
	checkSingleWay(t, b, p, nil, false)
	for _, goal := range []int{p, 0, 1, 2, -1, b.Holes} {
		checkWay(t, b, p, goal, nil, false)
		checkGood(t, b, p, goal)
		for _, l := range []impl.Line{{}, line3(0, 1, 2), line3(2, 1, 0), line3(0, b.Width, 2*b.Width)} {
			checkSpoiled(t, b, p, goal, l, false)
		}
	}
}

func TestWaysByHand(t *testing.T) {
	square := impl.Rectangle(3, 3)
	checkWay(t, square, 35, 256, twoJumps(), true)
	checkWay(t, square, 35, 36, twoJumps()[:1], true)
	checkWay(t, square, 36, 256, twoJumps()[1:], true)
	checkSingleWay(t, square, 35, twoJumps(), true)
	checkGood(t, square, 35, 256, line3(0, 1, 2))
	checkGood(t, square, 36, 256, line3(2, 5, 8))
	checkSpoiled(t, square, 35, 256, line3(0, 1, 2), false)
	checkSpoiled(t, square, 36, 36, line3(2, 5, 8), true)
	// The peg in the middle of a row of four decides where the last peg is left.
	row := impl.Rectangle(4, 1)
	checkWay(t, row, 6, 1, []impl.Line{line3(2, 1, 0)}, true)
	checkWay(t, row, 6, 8, []impl.Line{line3(1, 2, 3)}, true)
	checkGood(t, row, 6, 1, line3(2, 1, 0))
	checkGood(t, row, 6, 8, line3(1, 2, 3))
	checkSpoiled(t, row, 6, 1, line3(1, 2, 3), true)
	checkSpoiled(t, row, 6, 8, line3(2, 1, 0), true)
	// A line is the same one only with the same From and To.
	checkSpoiled(t, row, 6, 8, line3(0, 1, 2), false)
	checkSpoiled(t, row, 6, 8, line3(3, 2, 1), false)
}

func TestWayIsTheFirstOfSeveralGames(t *testing.T) {
	// Two jumps that do not disturb each other lead to the goal in both orders.
	both := impl.Rectangle(3, 2)
	checkWay(t, both, 27, 36, []impl.Line{line3(0, 1, 2), line3(3, 4, 5)}, true)
	checkGood(t, both, 27, 36, line3(0, 1, 2), line3(3, 4, 5))
	checkWay(t, both, 54, 9, []impl.Line{line3(2, 1, 0), line3(5, 4, 3)}, true)
	// From one hole, a jump to the right comes before one down.
	square := impl.Rectangle(3, 3)
	checkGood(t, square, 11, 12, line3(0, 1, 2))
	checkGood(t, square, 11, 66, line3(0, 3, 6))
	checkSpoiled(t, square, 11, 12, line3(0, 3, 6), true)
	checkSpoiled(t, square, 11, 66, line3(0, 1, 2), true)
}

func TestWayIsTheFirstOfAllGames(t *testing.T) {
	random := rand.New(rand.NewSource(150))
	several := 0
	for _, b := range []impl.Board{impl.Rectangle(3, 3), ring(), notch(), impl.Rectangle(4, 2), impl.Rectangle(2, 5), impl.Rectangle(7, 1), impl.Rectangle(1, 7)} {
		lines := linesByPlace(b)
		for range 150 {
			p := random.Intn(b.Holes+1) & b.Holes
			for _, goal := range reachInOrder(lines, p) {
				want, ok := firstOfAllGames(lines, p, goal)
				checkWay(t, b, p, goal, want, ok)
				if len(goodInOrder(lines, p, goodPositions(b, lines, goal))) > 1 {
					several++
				}
			}
		}
	}
	if several < 100 {
		t.Errorf("only %d goals have several good jumps", several)
	}
}

func TestWaysToAllGoals(t *testing.T) {
	spoiling, good := 0, 0
	for _, b := range []impl.Board{impl.Rectangle(2, 3), notch(), impl.Rectangle(6, 1), impl.Rectangle(1, 7)} {
		lines := linesByPlace(b)
		for p := range b.Holes + 1 {
			if p&b.Holes != p {
				checkNoWay(t, b, p)
				continue
			}
			checkSingle(t, b, lines, p)
			for goal := range b.Holes + 1 {
				if goal&b.Holes == goal {
					spoils, goods := checkGoal(t, b, lines, p, goal)
					spoiling, good = spoiling+spoils, good+goods
				}
			}
		}
	}
	if spoiling < 100 || good < 100 {
		t.Errorf("only %d jumps spoil, and %d are good", spoiling, good)
	}
}

func TestWaysOnEveryBoard(t *testing.T) {
	random := rand.New(rand.NewSource(151))
	eachBoard(func(b impl.Board) {
		lines := linesByPlace(b)
		eachPosition(b, func(pegs []int) {
			p := positionOf(pegs...)
			if b.Width*b.Height > 16 {
				checkNoWay(t, b, p)
				return
			}
			checkSingle(t, b, lines, p)
			reached := reachInOrder(lines, p)
			checkGoal(t, b, lines, p, reached[random.Intn(len(reached))])
			checkGoal(t, b, lines, p, random.Intn(b.Holes+1)&b.Holes)
		})
	})
}

func TestWaysOnBoardsOfSixteenPlaces(t *testing.T) {
	random := rand.New(rand.NewSource(152))
	longest, spoiling := 0, 0
	for _, b := range smallBoards() {
		lines := linesByPlace(b)
		for range 12 {
			p := b.Holes - positionOf(holesByPlace(b)[random.Intn(len(holesByPlace(b)))])
			if random.Intn(3) == 0 {
				p &= random.Intn(b.Holes + 1)
			}
			checkSingle(t, b, lines, p)
			reached := reachInOrder(lines, p)
			for _, goal := range []int{reached[0], reached[random.Intn(len(reached))], p} {
				spoils, _ := checkGoal(t, b, lines, p, goal)
				longest, spoiling = max(longest, impl.JumpsBetween(b, p, goal)), spoiling+spoils
			}
		}
	}
	if longest < 11 || spoiling < 100 {
		t.Errorf("no way has more than %d jumps, and only %d jumps spoil", longest, spoiling)
	}
}

func TestWaysLeadToTheGoal(t *testing.T) {
	random := rand.New(rand.NewSource(153))
	for _, b := range smallBoards() {
		for range 8 {
			p := random.Intn(b.Holes+1) & b.Holes
			reached := impl.ReachOf(b, p)
			goal := reached[random.Intn(len(reached))]
			way, ok := impl.WayTo(b, p, goal)
			if !ok {
				t.Errorf("WayTo(%v, %d, %d): no way", b, p, goal)
			}
			checkSolution(t, b, p, goal, way, true)
			for i, now := range impl.PositionsOf(b, p, way) {
				checkWay(t, b, now, goal, way[i:], true)
				good := impl.GoodJumps(b, now, goal)
				if i == len(way) && len(good) != 0 || i < len(way) && (len(good) == 0 || good[0] != way[i]) {
					t.Errorf("%v: the good jumps from %d to %d are %v, and the rest of the way is %v", b, now, goal, good, way[i:])
				}
			}
		}
	}
}

func TestGoodAndSpoilingJumpsAreAllJumps(t *testing.T) {
	random := rand.New(rand.NewSource(154))
	for _, b := range smallBoards() {
		for range 10 {
			p := random.Intn(b.Holes+1) & b.Holes
			reached := impl.ReachOf(b, p)
			goal := reached[random.Intn(len(reached))]
			good := impl.GoodJumps(b, p, goal)
			for _, l := range impl.JumpsOf(b, p) {
				after, _ := impl.DoJump(b, p, l)
				isGood := impl.CanReach(b, after, goal)
				if slices.Contains(good, l) != isGood {
					t.Errorf("GoodJumps(%v, %d, %d): got %v, and %v is good: %v", b, p, goal, good, l, isGood)
				}
				checkSpoiled(t, b, p, goal, l, !isGood)
			}
		}
	}
}

func TestWayToThePositionItself(t *testing.T) {
	for _, b := range smallBoards() {
		lines := linesByPlace(b)
		for _, p := range []int{0, b.Holes, b.Holes - positionOf(holesByPlace(b)[0]), b.Holes & 0x5a5a, b.Holes & 0x3c63} {
			checkWay(t, b, p, p, nil, true)
			checkGood(t, b, p, p)
			for _, l := range lines {
				jumper, landed := positionOf(l.From, l.Over), positionOf(l.To)
				checkSpoiled(t, b, p, p, l, p&jumper == jumper && p&landed == 0)
			}
		}
	}
}

func TestGoalsThatCannotBeReached(t *testing.T) {
	square := impl.Rectangle(3, 3)
	checkWay(t, square, 256, 35, nil, false)
	checkGood(t, square, 256, 35)
	checkWay(t, square, 35, 512, nil, false)
	checkWay(t, square, 35, 128, nil, false)
	checkGood(t, square, 35, 128)
	// Nothing is spoiled where there was no way before.
	checkSpoiled(t, square, 35, 128, line3(0, 1, 2), false)
	checkSpoiled(t, square, 35, 511, line3(0, 1, 2), false)
	checkSpoiled(t, square, 35, -1, line3(0, 1, 2), false)
	// A goal with as many pegs, one with more of them, and one with a single peg less.
	checkWay(t, square, 35, 25, nil, false)
	checkWay(t, square, 35, 63, nil, false)
	checkWay(t, square, 35, 3, nil, false)
	checkWay(t, square, 36, 35, nil, false)
	for _, b := range smallBoards() {
		for _, p := range []int{0, 1 & b.Holes, b.Holes} {
			for _, goal := range []int{0, 1 & b.Holes, b.Holes} {
				checkWay(t, b, p, goal, nil, p == goal)
				checkGood(t, b, p, goal)
			}
		}
	}
}

func TestWaysToASinglePeg(t *testing.T) {
	for _, b := range smallBoards() {
		checkSingleWay(t, b, 0, nil, false)
		for _, k := range holesByPlace(b) {
			checkSingleWay(t, b, positionOf(k), nil, true)
		}
		if len(holesByPlace(b)) > 1 {
			checkSingleWay(t, b, b.Holes, nil, false)
		}
	}
	// The last peg is left in the holes 0 and 3, of which 0 is the first, though the jump to it is the second.
	checkSingleWay(t, impl.Rectangle(4, 1), 6, []impl.Line{line3(2, 1, 0)}, true)
	checkSingleWay(t, impl.Rectangle(1, 4), 6, []impl.Line{line3(2, 1, 0)}, true)
	checkSingleWay(t, impl.Rectangle(3, 2), 27, nil, false)
	checkSingleWay(t, impl.Rectangle(3, 3), 257, nil, false)
	checkSingleWay(t, notch(), 48, []impl.Line{line3(5, 4, 3)}, true)
	checkSingleWay(t, notch(), 5, nil, false)
}

func TestWaysOfLongSolutions(t *testing.T) {
	b := impl.Rectangle(4, 4)
	lines := linesByPlace(b)
	solved := 0
	for _, k := range holesByPlace(b) {
		p := b.Holes - positionOf(k)
		checkSingle(t, b, lines, p)
		way, ok := impl.WayToSingle(b, p)
		if !ok {
			continue
		}
		solved++
		if end, _ := impl.PlayAll(b, p, way); len(way) != 14 || end&(end-1) != 0 {
			t.Errorf("WayToSingle without the peg %d: %d jumps lead to %d", k, len(way), end)
		}
	}
	// Those at the border that are no corners.
	if solved != 8 {
		t.Errorf("%d holes of 4 by 4 can be left empty first, want 8", solved)
	}
}

func TestSpoilingByLinesThatAreNone(t *testing.T) {
	square := impl.Rectangle(3, 3)
	for _, l := range []impl.Line{
		{}, line3(1, 2, 3), line3(0, 4, 8), line3(0, 2, 1), line3(1, 0, 2), line3(0, 0, 2), line3(0, 1, 1), line3(0, 1, -1), line3(-1, 0, 1),
		line3(2, 1, 0), line3(2, 5, 8), line3(0, 3, 6), line3(6, 7, 8), line3(9, 10, 11), line3(0, 1, 65), line3(64, 65, 66),
	} {
		checkSpoiled(t, square, 35, 35, l, false)
		checkSpoiled(t, square, 35, 36, l, false)
		checkSpoiled(t, square, 35, 256, l, false)
	}
	checkSpoiled(t, square, 35, 35, line3(0, 1, 2), true)
	for _, n := range greatInts() {
		checkSpoiled(t, square, 35, 35, line3(n, 1, 2), n == 0)
		checkSpoiled(t, square, 35, 35, line3(0, n, 2), n == 1)
		checkSpoiled(t, square, 35, 35, line3(0, 1, n), n == 2)
	}
	// The hole in the middle of this line is missing.
	checkSpoiled(t, notch(), 5, 5, line3(0, 1, 2), false)
	checkSpoiled(t, notch(), 1, 1, line3(0, 1, 2), false)
}

func TestWaysOfInvalidPositions(t *testing.T) {
	for _, b := range smallBoards() {
		for _, p := range invalidPositions(b) {
			checkNoWay(t, b, p)
		}
	}
	checkNoWay(t, impl.Rectangle(3, 3), -1)
	checkNoWay(t, impl.Rectangle(3, 3), 512)
	checkNoWay(t, impl.Rectangle(3, 3), 512+35)
	checkNoWay(t, notch(), 7)
}

func TestWaysToGoalsThatAreNoPositions(t *testing.T) {
	for _, b := range smallBoards() {
		lines := linesByPlace(b)
		for _, goal := range invalidPositions(b) {
			for _, p := range []int{0, b.Holes, b.Holes - positionOf(holesByPlace(b)[0])} {
				checkWay(t, b, p, goal, nil, false)
				checkGood(t, b, p, goal)
				for _, l := range lines[:min(len(lines), 3)] {
					checkSpoiled(t, b, p, goal, l, false)
				}
			}
		}
	}
}

func TestWaysOnLargeBoards(t *testing.T) {
	for _, b := range largeBoards() {
		positions := append(invalidPositions(b), 0, b.Holes, b.Holes&-b.Holes, b.Holes/2&b.Holes)
		for _, k := range holesByPlace(b) {
			positions = append(positions, positionOf(k), b.Holes-positionOf(k))
		}
		for _, p := range positions {
			checkNoWay(t, b, p)
		}
	}
	// A single jump, on a board of 18 places with only three holes.
	large := impl.Board{Width: 3, Height: 6, Holes: 7}
	checkWay(t, large, 3, 4, nil, false)
	checkGood(t, large, 3, 4)
	checkSpoiled(t, large, 3, 3, line3(0, 1, 2), false)
}

func TestWaysOnInvalidBoards(t *testing.T) {
	boards := append(brokenBoards(),
		impl.Board{Width: 2, Height: 8, Holes: 1<<16 - 1}, impl.Board{Width: 8, Height: 2, Holes: 1<<16 - 1}, impl.Board{Width: 16, Height: 1, Holes: 7},
		impl.Board{Width: 1, Height: 16, Holes: 7}, impl.Board{Width: 4, Height: 4, Holes: 1 << 16}, impl.Board{Width: 4, Height: 4})
	for _, b := range boards {
		for _, p := range append(greatInts(), 0, 1, 3, 7, -1, b.Holes, -b.Holes) {
			checkNoWay(t, b, p)
		}
	}
}

func TestWaysAreNewEachTime(t *testing.T) {
	square := impl.Rectangle(3, 3)
	for range 3 {
		way, _ := impl.WayTo(square, 35, 256)
		single, _ := impl.WayToSingle(square, 35)
		good := impl.GoodJumps(square, 35, 256)
		if len(way) != 2 || len(single) != 2 || len(good) != 1 {
			t.Fatalf("got %v, %v and %v", way, single, good)
		}
		clear(way)
		clear(single)
		clear(good)
		checkWay(t, square, 35, 256, twoJumps(), true)
		checkSingleWay(t, square, 35, twoJumps(), true)
		checkGood(t, square, 35, 256, line3(0, 1, 2))
	}
}
