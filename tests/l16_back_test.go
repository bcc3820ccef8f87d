package tests

import (
	"math/bits"
	"math/rand"
	"slices"
	"testing"

	"loop.example/g03302/impl"
)

// backInOrder lists, in ascending order, from where a goal is reached: the complements of what the complement of the goal reaches.
func backInOrder(b impl.Board, lines []impl.Line, goal int) []int {
	list := []int{}
	for p := range goodPositions(b, lines, goal) {
		list = append(list, p)
	}
	slices.Sort(list)
	return list
}

// startsAmong lists the holes without whose peg the full board is among some positions.
func startsAmong(b impl.Board, back []int) []int {
	starts := []int{}
	for _, k := range holesByPlace(b) {
		if slices.Contains(back, b.Holes-positionOf(k)) {
			starts = append(starts, k)
		}
	}
	return starts
}

// pairsByPlaying lists the pairs of holes between which a game leads, found by playing every jump.
func pairsByPlaying(b impl.Board, lines []impl.Line) [][]int {
	pairs := [][]int{}
	for _, k := range holesByPlace(b) {
		reached := reachedFrom(lines, b.Holes-positionOf(k))
		for _, m := range holesByPlace(b) {
			if reached[positionOf(m)] {
				pairs = append(pairs, []int{k, m})
			}
		}
	}
	return pairs
}

// startsOfPairs lists the first holes of pairs in lexicographic order, each once.
func startsOfPairs(pairs [][]int) []int {
	starts := []int{}
	for _, pair := range pairs {
		starts = append(starts, pair[0])
	}
	return slices.Compact(starts)
}

// boardsOfHoles returns boards of 4 by 4 places with some number of holes, chosen at random.
func boardsOfHoles(random *rand.Rand, holes int, number int) []impl.Board {
	boards := []impl.Board{}
	for range number {
		boards = append(boards, impl.Board{Width: 4, Height: 4, Holes: positionOf(random.Perm(16)[:holes]...)})
	}
	return boards
}

// brokenSmallBoards returns boards for which BoardOk is false, many of them with at most 16 places.
func brokenSmallBoards() []impl.Board {
	return append(brokenBoards(),
		impl.Board{Width: 2, Height: 8, Holes: 1<<16 - 1}, impl.Board{Width: 8, Height: 2, Holes: 7}, impl.Board{Width: 2, Height: 8, Holes: 21},
		impl.Board{Width: 16, Height: 1, Holes: 7}, impl.Board{Width: 1, Height: 16, Holes: 7}, impl.Board{Width: 4, Height: 4, Holes: 1 << 16},
		impl.Board{Width: 4, Height: 4}, impl.Board{Width: 4, Height: 4, Holes: -1}, impl.Board{Width: 3, Height: 1, Holes: 8 + 7})
}

// checkBack checks the list of positions, what is counted in it and the full boards that are in it.
func checkBack(t *testing.T, b impl.Board, goal int, want ...int) {
	t.Helper()
	if got := impl.BackOf(b, goal); !slices.Equal(got, want) {
		t.Errorf("BackOf(%v, %d): got %v, want %v", b, goal, got, want)
	}
	if got := impl.CountBack(b, goal); got != len(want) {
		t.Errorf("CountBack(%v, %d): got %d, want %d", b, goal, got, len(want))
	}
	checkStarts(t, b, goal, startsAmong(b, want)...)
}

func checkStarts(t *testing.T, b impl.Board, goal int, want ...int) {
	t.Helper()
	if got := impl.StartsFor(b, goal); !slices.Equal(got, want) {
		t.Errorf("StartsFor(%v, %d): got %v, want %v", b, goal, got, want)
	}
}

func checkSolvable(t *testing.T, b impl.Board, want ...int) {
	t.Helper()
	if got := impl.SolvableHoles(b); !slices.Equal(got, want) {
		t.Errorf("SolvableHoles(%v): got %v, want %v", b, got, want)
	}
}

func checkPairs(t *testing.T, b impl.Board, want ...[]int) {
	t.Helper()
	if got := impl.PairsOf(b); !slices.EqualFunc(got, want, slices.Equal[[]int]) {
		t.Errorf("PairsOf(%v): got %v, want %v", b, got, want)
	}
}

// checkNoBack checks that no position leads to a goal, not even the goal itself.
func checkNoBack(t *testing.T, b impl.Board, goal int) {
	t.Helper()
	checkBack(t, b, goal)
	checkStarts(t, b, goal)
}

// checkBoardOfPairs checks the pairs and the solvable holes of a board of at most 12 holes, and returns the number of pairs.
func checkBoardOfPairs(t *testing.T, b impl.Board) int {
	t.Helper()
	pairs := pairsByPlaying(b, linesByPlace(b))
	checkPairs(t, b, pairs...)
	checkSolvable(t, b, startsOfPairs(pairs)...)
	return len(pairs)
}

func TestBackByHand(t *testing.T) {
	row := impl.Rectangle(4, 1)
	checkBack(t, row, 1, 1, 6)
	checkBack(t, row, 2, 2, 11, 12)
	checkBack(t, row, 4, 3, 4, 13)
	checkBack(t, row, 8, 6, 8)
	checkBack(t, row, 9, 7, 9, 14)
	checkStarts(t, row, 2, 2)
	checkStarts(t, row, 4, 1)
	checkStarts(t, row, 9, 0, 3)
	checkStarts(t, row, 1)
	checkSolvable(t, row, 1, 2)
	checkPairs(t, row, []int{1, 2}, []int{2, 1})
	// The last peg is left in the first hole of the two, or in the other one.
	long := impl.Rectangle(6, 1)
	checkSolvable(t, long, 1, 4)
	checkPairs(t, long, []int{1, 1}, []int{1, 4}, []int{4, 1}, []int{4, 4})
	checkBack(t, long, 2, 2, 11, 12, 47, 51, 52, 61)
	checkStarts(t, long, 2, 1, 4)
	column := impl.Rectangle(1, 6)
	checkSolvable(t, column, 1, 4)
	checkPairs(t, column, []int{1, 1}, []int{1, 4}, []int{4, 1}, []int{4, 4})
	// Where the hole 1 is missing, all lines are in the other row.
	checkBack(t, notch(), 36, 28, 36)
	checkBack(t, notch(), 12, 12, 52)
	checkBack(t, notch(), 37, 29, 37)
	checkStarts(t, notch(), 37, 5)
	checkStarts(t, notch(), 60, 0)
	checkPairs(t, notch())
	checkSolvable(t, notch())
}

func TestBackLeadsToWhereGamesLeadFrom(t *testing.T) {
	reaching := 0
	for _, b := range []impl.Board{impl.Rectangle(3, 3), ring(), notch(), impl.Rectangle(4, 2), impl.Rectangle(2, 4), impl.Rectangle(7, 1), impl.Rectangle(1, 7)} {
		lines := linesByPlace(b)
		from := map[int][]int{}
		for p := range b.Holes + 1 {
			if p&b.Holes != p {
				continue
			}
			for _, goal := range reachInOrder(lines, p) {
				from[goal] = append(from[goal], p)
				reaching++
			}
		}
		for goal := range b.Holes + 1 {
			checkBack(t, b, goal, from[goal]...)
		}
	}
	if reaching < 5000 {
		t.Errorf("only %d pairs of positions reach each other", reaching)
	}
}

func TestBackOnEveryBoard(t *testing.T) {
	eachBoard(func(b impl.Board) {
		lines := linesByPlace(b)
		eachPosition(b, func(pegs []int) {
			goal := positionOf(pegs...)
			if b.Width*b.Height > 16 {
				checkNoBack(t, b, goal)
				return
			}
			checkBack(t, b, goal, backInOrder(b, lines, goal)...)
		})
	})
}

func TestBackOnBoardsOfSixteenPlaces(t *testing.T) {
	random := rand.New(rand.NewSource(160))
	most := 0
	for _, b := range smallBoards() {
		lines := linesByPlace(b)
		goals := []int{0, b.Holes}
		for _, k := range holesByPlace(b) {
			goals = append(goals, positionOf(k), b.Holes-positionOf(k))
		}
		for range 20 {
			goals = append(goals, random.Intn(b.Holes+1)&b.Holes)
		}
		for _, goal := range goals {
			back := backInOrder(b, lines, goal)
			checkBack(t, b, goal, back...)
			most = max(most, len(back))
		}
	}
	if most < 1500 {
		t.Errorf("no goal is reached from more than %d positions", most)
	}
}

func TestBackAndReachAgree(t *testing.T) {
	random := rand.New(rand.NewSource(161))
	for _, b := range smallBoards() {
		for range 10 {
			goal := random.Intn(b.Holes+1) & b.Holes
			back := impl.BackOf(b, goal)
			if !slices.IsSorted(back) || len(slices.Compact(slices.Clone(back))) != len(back) || !slices.Contains(back, goal) {
				t.Errorf("BackOf(%v, %d): got %v", b, goal, back)
			}
			for range 5 {
				if p := back[random.Intn(len(back))]; !slices.Contains(impl.ReachOf(b, p), goal) {
					t.Errorf("BackOf(%v, %d) contains %d, which does not reach it", b, goal, p)
				}
				p := random.Intn(b.Holes+1) & b.Holes
				if slices.Contains(back, p) != impl.CanReach(b, p, goal) {
					t.Errorf("%v: CanReach from %d to %d is %v, but BackOf is not so", b, p, goal, impl.CanReach(b, p, goal))
				}
			}
		}
	}
}

func TestBackFollowsUndoneGames(t *testing.T) {
	random := rand.New(rand.NewSource(162))
	longest := 0
	for _, b := range smallBoards() {
		lines := linesByPlace(b)
		for range 15 {
			pegs := holesByPlace(b)
			empty := random.Intn(len(pegs))
			jumps, _ := randomGame(random, lines, slices.Delete(pegs, empty, empty+1))
			p := b.Holes - positionOf(holesByPlace(b)[empty])
			all := impl.PositionsOf(b, p, jumps)
			longest = max(longest, len(jumps))
			for i, goal := range all {
				back := impl.BackOf(b, goal)
				for k, q := range all {
					if slices.Contains(back, q) != (k <= i) {
						t.Errorf("%v: the game %v leads from %d over %d and %d, but BackOf of the last one is %v", b, jumps, p, q, goal, back)
					}
				}
				if starts := impl.StartsFor(b, goal); !slices.Contains(starts, holesByPlace(b)[empty]) {
					t.Errorf("StartsFor(%v, %d): got %v, but a game leads there from %d", b, goal, starts, p)
				}
			}
		}
	}
	if longest < 9 {
		t.Errorf("no game has more than %d jumps", longest)
	}
}

func TestBackOfGoalsWithoutUndoneJumps(t *testing.T) {
	alone := 0
	for _, b := range smallBoards() {
		checkBack(t, b, 0, 0)
		checkBack(t, b, b.Holes, b.Holes)
		for goal := range min(b.Holes+1, 600) {
			if goal&b.Holes == goal && len(impl.UndosOf(b, goal)) == 0 {
				checkBack(t, b, goal, goal)
				alone++
			}
		}
	}
	if alone < 300 {
		t.Errorf("only %d goals are alone", alone)
	}
	// Where there are no lines at all, each goal is reached from itself only.
	for goal := range 16 {
		checkBack(t, impl.Rectangle(2, 2), goal, goal)
	}
	checkBack(t, impl.Rectangle(3, 3), 16, 16)
	checkBack(t, impl.Rectangle(3, 3), 2, 2, 144)
}

func TestStartsOfFullBoards(t *testing.T) {
	for _, b := range smallBoards() {
		for _, k := range holesByPlace(b) {
			checkBack(t, b, b.Holes-positionOf(k), b.Holes-positionOf(k))
			checkStarts(t, b, b.Holes-positionOf(k), k)
		}
		if len(holesByPlace(b)) > 1 {
			checkStarts(t, b, 0)
		}
		checkStarts(t, b, b.Holes)
	}
	// The full board but its only hole is the empty position.
	checkStarts(t, impl.Rectangle(1, 1), 0, 0)
	checkStarts(t, impl.Board{Width: 4, Height: 4, Holes: 1 << 15}, 0, 15)
	checkStarts(t, impl.Rectangle(1, 1), 1)
}

func TestStartsOfSinglePegs(t *testing.T) {
	several := 0
	for _, b := range smallBoards() {
		solvable := []int{}
		for _, m := range holesByPlace(b) {
			starts := impl.StartsFor(b, positionOf(m))
			solvable = append(solvable, starts...)
			if len(starts) > 1 {
				several++
			}
			for _, k := range starts {
				if !impl.CanReach(b, b.Holes-positionOf(k), positionOf(m)) {
					t.Errorf("StartsFor(%v, %d): got %v, but %d is none", b, positionOf(m), starts, k)
				}
			}
		}
		slices.Sort(solvable)
		checkSolvable(t, b, slices.Compact(solvable)...)
	}
	if several < 8 {
		t.Errorf("only %d single pegs are left by several starts", several)
	}
}

func TestSolvableHoles(t *testing.T) {
	for _, b := range []impl.Board{
		impl.Rectangle(1, 1), {Width: 4, Height: 4, Holes: 1}, {Width: 4, Height: 4, Holes: 1 << 15}, {Width: 3, Height: 2, Holes: 8},
		impl.Rectangle(2, 2), impl.Rectangle(3, 3), impl.Rectangle(5, 1), impl.Rectangle(2, 6), impl.Rectangle(7, 1), notch(),
	} {
		checkSolvable(t, b)
		checkPairs(t, b)
	}
	checkSolvable(t, impl.Rectangle(3, 1), 0, 2)
	checkSolvable(t, impl.Rectangle(1, 3), 0, 2)
	checkSolvable(t, impl.Rectangle(4, 3), 0, 1, 2, 3, 8, 9, 10, 11)
	checkSolvable(t, impl.Rectangle(5, 3), 2, 12)
	checkSolvable(t, impl.Rectangle(4, 4), 1, 2, 4, 7, 8, 11, 13, 14)
	// A board of two holes starts with its last peg.
	checkSolvable(t, impl.Rectangle(2, 1), 0, 1)
	checkPairs(t, impl.Rectangle(2, 1), []int{0, 1}, []int{1, 0})
	// A row of three between missing holes.
	checkSolvable(t, impl.Board{Width: 4, Height: 4, Holes: positionOf(5, 9, 13)}, 5, 13)
}

func TestPairsOfGames(t *testing.T) {
	random := rand.New(rand.NewSource(163))
	found := 0
	eachBoard(func(b impl.Board) {
		if b.Width*b.Height <= 16 && len(holesByPlace(b)) <= 12 {
			found += checkBoardOfPairs(t, b)
		}
	})
	for holes := 3; holes <= 12; holes++ {
		for _, b := range boardsOfHoles(random, holes, 12) {
			found += checkBoardOfPairs(t, b)
		}
	}
	if found < 300 {
		t.Errorf("only %d pairs", found)
	}
}

func TestPairsCanBeExchanged(t *testing.T) {
	same, different := 0, 0
	for _, b := range append(boardsOfHoles(rand.New(rand.NewSource(164)), 11, 30), impl.Rectangle(4, 3), impl.Rectangle(3, 4), impl.Rectangle(6, 1), impl.Rectangle(4, 1)) {
		pairs := impl.PairsOf(b)
		for i, pair := range pairs {
			if i > 0 && slices.Compare(pairs[i-1], pair) >= 0 {
				t.Errorf("PairsOf(%v): %v is before %v", b, pairs[i-1], pair)
			}
			if !slices.ContainsFunc(pairs, func(other []int) bool { return other[0] == pair[1] && other[1] == pair[0] }) {
				t.Errorf("PairsOf(%v): got %v, in which %v is not exchanged", b, pairs, pair)
			}
			if pair[0] == pair[1] {
				same++
			} else {
				different++
			}
		}
	}
	if same < 5 || different < 5 {
		t.Errorf("only %d pairs of the same hole and %d of different ones", same, different)
	}
	checkPairs(t, impl.Rectangle(3, 1), []int{0, 0}, []int{2, 2})
	checkPairs(t, impl.Rectangle(4, 3), []int{0, 0}, []int{0, 3}, []int{1, 1}, []int{2, 2}, []int{3, 0}, []int{3, 3},
		[]int{8, 8}, []int{8, 11}, []int{9, 9}, []int{10, 10}, []int{11, 8}, []int{11, 11})
}

func TestPairsOfTwelveHolesAndOfMore(t *testing.T) {
	random := rand.New(rand.NewSource(165))
	twelve, more := 0, 0
	for _, b := range boardsOfHoles(random, 12, 40) {
		twelve += checkBoardOfPairs(t, b)
	}
	for holes := 13; holes <= 16; holes++ {
		for _, b := range boardsOfHoles(random, holes, 20) {
			pairs := pairsByPlaying(b, linesByPlace(b))
			checkSolvable(t, b, startsOfPairs(pairs)...)
			checkPairs(t, b)
			if holes == 13 {
				more += len(pairs)
			}
		}
	}
	if twelve < 10 || more < 10 {
		t.Errorf("only %d pairs of twelve holes and %d of thirteen", twelve, more)
	}
	for _, b := range []impl.Board{impl.Rectangle(4, 4), impl.Rectangle(5, 3), impl.Rectangle(3, 5), impl.Rectangle(2, 7), impl.Rectangle(7, 2)} {
		checkPairs(t, b)
	}
}

func TestBackOfGoalsThatAreNoPositions(t *testing.T) {
	for _, b := range smallBoards() {
		for _, goal := range invalidPositions(b) {
			checkNoBack(t, b, goal)
		}
	}
	checkNoBack(t, impl.Rectangle(3, 3), -1)
	checkNoBack(t, impl.Rectangle(3, 3), -256)
	checkNoBack(t, impl.Rectangle(3, 3), 512)
	checkNoBack(t, impl.Rectangle(3, 3), 512+256)
	checkNoBack(t, notch(), 2)
	checkNoBack(t, notch(), 6)
	checkNoBack(t, impl.Rectangle(4, 4), 1<<16)
}

func TestBackOnLargeBoards(t *testing.T) {
	for _, b := range append(largeBoards(), impl.Rectangle(7, 4), impl.Board{Width: 5, Height: 4, Holes: positionOf(0, 1, 2, 3)}) {
		goals := append(invalidPositions(b), 0, b.Holes, b.Holes/2&b.Holes)
		for _, k := range holesByPlace(b) {
			goals = append(goals, positionOf(k), b.Holes-positionOf(k))
		}
		for _, goal := range goals {
			checkNoBack(t, b, goal)
		}
		checkSolvable(t, b)
		checkPairs(t, b)
	}
	// The same holes on a grid of 16 places and on one of 18.
	checkSolvable(t, impl.Board{Width: 4, Height: 4, Holes: 7}, 0, 2)
	checkSolvable(t, impl.Board{Width: 3, Height: 6, Holes: 7})
	checkPairs(t, impl.Board{Width: 4, Height: 4, Holes: 7}, []int{0, 0}, []int{2, 2})
	checkPairs(t, impl.Board{Width: 3, Height: 6, Holes: 7})
}

func TestBackOnInvalidBoards(t *testing.T) {
	for _, b := range brokenSmallBoards() {
		for _, goal := range append(greatInts(), 0, 1, 3, 4, 7, -1, b.Holes, -b.Holes) {
			if got := impl.BackOf(b, goal); len(got) != 0 || impl.CountBack(b, goal) != 0 || len(impl.StartsFor(b, goal)) != 0 {
				t.Errorf("%v, %d: BackOf %v, CountBack %d, StartsFor %v", b, goal, got, impl.CountBack(b, goal), impl.StartsFor(b, goal))
			}
		}
		checkSolvable(t, b)
		checkPairs(t, b)
	}
}

func TestBackLosesNoPegs(t *testing.T) {
	b := impl.Rectangle(4, 4)
	for _, goal := range []int{1, 2, 32, 256, 1 << 15, 8194, 3} {
		for _, p := range impl.BackOf(b, goal) {
			if p != goal && bits.OnesCount(uint(p)) <= bits.OnesCount(uint(goal)) {
				t.Errorf("BackOf(%v, %d): %d has too few pegs", b, goal, p)
			}
			if !impl.SameKey(b, p, goal) {
				t.Errorf("BackOf(%v, %d): %d has another key", b, goal, p)
			}
		}
	}
}

func TestBackIsNewEachTime(t *testing.T) {
	row := impl.Rectangle(6, 1)
	want := [][]int{{1, 1}, {1, 4}, {4, 1}, {4, 4}}
	for range 3 {
		back, starts, solvable, pairs := impl.BackOf(row, 2), impl.StartsFor(row, 2), impl.SolvableHoles(row), impl.PairsOf(row)
		if len(back) != 7 || len(starts) != 2 || len(solvable) != 2 || len(pairs) != 4 {
			t.Fatalf("got %v, %v, %v and %v", back, starts, solvable, pairs)
		}
		clear(back)
		clear(starts)
		clear(solvable)
		for i := range pairs {
			// What is appended to one pair must not appear in the next one.
			_ = append(pairs[i], 9, 9)
		}
		checkList(t, row, "PairsOf", 2, slices.Concat(pairs...), slices.Concat(want...))
		for i := range pairs {
			clear(pairs[i])
		}
		clear(pairs)
		checkStarts(t, row, 2, 1, 4)
		checkSolvable(t, row, 1, 4)
		checkPairs(t, row, want...)
		checkBack(t, row, 2, 2, 11, 12, 47, 51, 52, 61)
	}
}
