package tests

import (
	"math/rand"
	"slices"
	"testing"

	"loop.example/g03302/impl"
)

// placesOf lists X and Y of all indices of the grid of a board.
func placesOf(b impl.Board) [][2]int {
	places := [][2]int{}
	for y := range b.Height {
		for x := range b.Width {
			places = append(places, [2]int{x, y})
		}
	}
	return places
}

// classByPlace lists the weights without the remainder r.
func classByPlace(b impl.Board, r int) []int {
	w := []int{}
	for _, place := range placesOf(b) {
		if (place[0]+place[1])%3 == r {
			w = append(w, 0)
		} else {
			w = append(w, 1)
		}
	}
	return w
}

// distantByPlace lists the weights by the distance from a column (side 0) or a row (side 1).
func distantByPlace(b impl.Board, side int, at int) []int {
	w := []int{}
	for _, place := range placesOf(b) {
		distance := place[side] - at
		if distance < 0 {
			distance = -distance
		}
		w = append(w, []int{13, 8, 5, 3, 2, 1, 1}[distance])
	}
	return w
}

// listsInOrder returns the 17 lists of weights that FindProof tries.
func listsInOrder(b impl.Board) [][]int {
	lists := [][]int{}
	for r := range 3 {
		lists = append(lists, classByPlace(b, r))
	}
	for side := range 2 {
		for at := range 7 {
			lists = append(lists, distantByPlace(b, side, at))
		}
	}
	return lists
}

// firstLesser returns the index of the first list in which some pegs weigh less than others; -1 if there is none.
func firstLesser(lists [][]int, pegs []int, goal []int) int {
	return slices.IndexFunc(lists, func(w []int) bool { return sumOfPegs(w, pegs) < sumOfPegs(w, goal) })
}

// proofBoards returns boards of several forms.
func proofBoards() []impl.Board {
	return []impl.Board{
		notch(), ring(), impl.Rectangle(1, 1), impl.Rectangle(3, 3), impl.Rectangle(2, 7), impl.Rectangle(7, 1),
		impl.Rectangle(1, 7), sevenBySix(), impl.Rectangle(7, 7), impl.CrossBoard(), {Width: 7, Height: 7, Holes: 1 << 48},
	}
}

// brokenBoards returns boards for which BoardOk is false, some of them with the sides of a valid one.
func brokenBoards() []impl.Board {
	return append(invalidBoards(),
		impl.Board{Width: 3, Height: 3, Holes: 512}, impl.Board{Width: 3, Height: 3, Holes: 1023}, impl.Board{Width: 3, Height: 3},
		impl.Board{Width: -3, Height: -3, Holes: 511}, impl.Board{Width: 9, Height: 1, Holes: 511}, impl.Board{Width: 1, Height: 9, Holes: 511})
}

// reachedFrom returns all positions that games lead to from a position, found by playing every jump.
func reachedFrom(lines []impl.Line, p int) map[int]bool {
	reached := map[int]bool{p: true}
	for waiting := []int{p}; len(waiting) > 0; waiting = waiting[1:] {
		for _, l := range lines {
			from, over, to := positionOf(l.From), positionOf(l.Over), positionOf(l.To)
			if now := waiting[0]; now&from != 0 && now&over != 0 && now&to == 0 && !reached[now-from-over+to] {
				reached[now-from-over+to] = true
				waiting = append(waiting, now-from-over+to)
			}
		}
	}
	return reached
}

// somePegs returns up to most different holes of a list, chosen at random.
func somePegs(random *rand.Rand, holes []int, most int) []int {
	shuffled := slices.Clone(holes)
	random.Shuffle(len(shuffled), func(i int, k int) { shuffled[i], shuffled[k] = shuffled[k], shuffled[i] })
	return shuffled[:min(len(shuffled), random.Intn(most+1))]
}

func checkProof(t *testing.T, b impl.Board, w []int, p int, goal int, want bool) {
	t.Helper()
	if got := impl.IsProof(b, w, p, goal); got != want {
		t.Errorf("IsProof(%v, %v, %d, %d): got %v", b, w, p, goal, got)
	}
}

// checkFound checks the weights of FindProof; without wanted weights, there is no proof.
func checkFound(t *testing.T, b impl.Board, p int, goal int, want []int) {
	t.Helper()
	if got, ok := impl.FindProof(b, p, goal); !slices.Equal(got, want) || ok != (want != nil) {
		t.Errorf("FindProof(%v, %d, %d): got %v and %v, want %v", b, p, goal, got, ok, want)
	}
}

func checkList(t *testing.T, b impl.Board, name string, number int, got []int, want []int) {
	t.Helper()
	if !slices.Equal(got, want) {
		t.Errorf("%s of %v and %d: got %v, want %v", name, b, number, got, want)
	}
}

// checkNoLists checks that a remainder and a column or row of this number have no weights.
func checkNoLists(t *testing.T, b impl.Board, number int) {
	t.Helper()
	if number < 0 || number > 2 {
		checkList(t, b, "ClassWeights", number, impl.ClassWeights(b, number), nil)
	}
	checkList(t, b, "ColumnWeights", number, impl.ColumnWeights(b, number), nil)
	checkList(t, b, "RowWeights", number, impl.RowWeights(b, number), nil)
}

// checkPair checks the first proof between the positions of two lists of pegs, and returns its index in the order of FindProof.
func checkPair(t *testing.T, b impl.Board, lists [][]int, pegs []int, goal []int) int {
	t.Helper()
	first := firstLesser(lists, pegs, goal)
	if first < 0 {
		checkFound(t, b, positionOf(pegs...), positionOf(goal...), nil)
	} else {
		checkFound(t, b, positionOf(pegs...), positionOf(goal...), lists[first])
	}
	return first
}

func TestListsOfEveryBoard(t *testing.T) {
	eachBoard(func(b impl.Board) {
		for r := range 3 {
			checkList(t, b, "ClassWeights", r, impl.ClassWeights(b, r), classByPlace(b, r))
			checkFalling(t, b, impl.ClassWeights(b, r))
		}
		for at := range 7 {
			checkList(t, b, "ColumnWeights", at, impl.ColumnWeights(b, at), distantByPlace(b, 0, at))
			checkList(t, b, "RowWeights", at, impl.RowWeights(b, at), distantByPlace(b, 1, at))
			checkFalling(t, b, impl.ColumnWeights(b, at))
			checkFalling(t, b, impl.RowWeights(b, at))
		}
	})
}

func TestListsOfBoardsThatAreNotSquare(t *testing.T) {
	b := notch()
	checkList(t, b, "ClassWeights", 0, impl.ClassWeights(b, 0), []int{0, 1, 1, 1, 1, 0})
	checkList(t, b, "ClassWeights", 1, impl.ClassWeights(b, 1), []int{1, 0, 1, 0, 1, 1})
	checkList(t, b, "ClassWeights", 2, impl.ClassWeights(b, 2), []int{1, 1, 0, 1, 0, 1})
	checkList(t, b, "ColumnWeights", 0, impl.ColumnWeights(b, 0), []int{13, 8, 5, 13, 8, 5})
	checkList(t, b, "ColumnWeights", 2, impl.ColumnWeights(b, 2), []int{5, 8, 13, 5, 8, 13})
	checkList(t, b, "RowWeights", 0, impl.RowWeights(b, 0), []int{13, 13, 13, 8, 8, 8})
	checkList(t, b, "RowWeights", 1, impl.RowWeights(b, 1), []int{8, 8, 8, 13, 13, 13})
}

func TestColumnsAndRowsOutsideTheBoard(t *testing.T) {
	b := notch()
	checkList(t, b, "ColumnWeights", 3, impl.ColumnWeights(b, 3), []int{3, 5, 8, 3, 5, 8})
	checkList(t, b, "ColumnWeights", 6, impl.ColumnWeights(b, 6), []int{1, 1, 2, 1, 1, 2})
	checkList(t, b, "RowWeights", 2, impl.RowWeights(b, 2), []int{5, 5, 5, 8, 8, 8})
	checkList(t, b, "RowWeights", 6, impl.RowWeights(b, 6), []int{1, 1, 1, 1, 1, 1})
	one := impl.Rectangle(1, 1)
	for at, weight := range []int{13, 8, 5, 3, 2, 1, 1} {
		checkList(t, one, "ColumnWeights", at, impl.ColumnWeights(one, at), []int{weight})
		checkList(t, one, "RowWeights", at, impl.RowWeights(one, at), []int{weight})
	}
}

func TestColumnsAndRowsOfTheGreatestBoards(t *testing.T) {
	row, column := impl.Rectangle(7, 1), impl.Rectangle(1, 7)
	for at, want := range [][]int{
		{13, 8, 5, 3, 2, 1, 1}, {8, 13, 8, 5, 3, 2, 1}, {5, 8, 13, 8, 5, 3, 2}, {3, 5, 8, 13, 8, 5, 3},
		{2, 3, 5, 8, 13, 8, 5}, {1, 2, 3, 5, 8, 13, 8}, {1, 1, 2, 3, 5, 8, 13},
	} {
		checkList(t, row, "ColumnWeights", at, impl.ColumnWeights(row, at), want)
		checkList(t, column, "RowWeights", at, impl.RowWeights(column, at), want)
		checkList(t, row, "RowWeights", at, impl.RowWeights(row, at), sameWeights(row, want[0]))
		checkList(t, column, "ColumnWeights", at, impl.ColumnWeights(column, at), sameWeights(column, want[0]))
	}
}

func TestNumbersWithoutLists(t *testing.T) {
	for _, b := range proofBoards() {
		for _, number := range append(greatInts(), -1, -2, -3, -7, 7, 8, 9, 14, 49) {
			checkNoLists(t, b, number)
		}
		for _, r := range []int{3, 4, 5, 6} {
			checkList(t, b, "ClassWeights", r, impl.ClassWeights(b, r), nil)
		}
	}
}

func TestProofsOfEveryBoard(t *testing.T) {
	random := rand.New(rand.NewSource(10))
	proofs, grown := 0, 0
	eachBoard(func(b impl.Board) {
		lines, holes := linesByPlace(b), holesByPlace(b)
		lists := append(fallingLists(random, b, lines), randomWeights(random, b, 1000), randomWeights(random, b, 1))
		for _, w := range append(lists, listsInOrder(b)...) {
			_, broken := brokenByPegs(w, lines)
			for range 3 {
				pegs, goal := somePegs(random, holes, len(holes)), somePegs(random, holes, len(holes))
				grows := sumOfPegs(w, pegs) < sumOfPegs(w, goal)
				checkProof(t, b, w, positionOf(pegs...), positionOf(goal...), grows && !broken)
				if grows && broken {
					grown++
				} else if grows {
					proofs++
				}
			}
		}
	})
	if proofs < 1000 || grown < 1000 {
		t.Errorf("only %d proofs, and %d lists whose sum grows without being falling", proofs, grown)
	}
}

func TestNoGameLeadsToAProvenGoal(t *testing.T) {
	proven := 0
	eachGame(func(b impl.Board, jumps []impl.Line, positions []int) {
		for i, p := range positions {
			for _, goal := range positions[i:] {
				checkFound(t, b, p, goal, nil)
			}
		}
		start, end := positions[0], positions[len(positions)-1]
		if w, ok := impl.FindProof(b, end, start); ok {
			proven++
			checkProof(t, b, w, end, start, true)
			checkProof(t, b, w, start, end, false)
		}
	})
	if proven < 1000 {
		t.Errorf("only %d games are proven to have no way back", proven)
	}
}

func TestNoGoalOfAllGamesIsProven(t *testing.T) {
	random := rand.New(rand.NewSource(100))
	for _, b := range []impl.Board{notch(), impl.Rectangle(3, 1), impl.Rectangle(1, 5), impl.Rectangle(6, 1), impl.Rectangle(3, 2), ring()} {
		lines := linesByPlace(b)
		lists := fallingLists(random, b, lines)
		for p := range b.Holes + 1 {
			if !impl.PositionOk(b, p) {
				continue
			}
			for goal := range reachedFrom(lines, p) {
				checkFound(t, b, p, goal, nil)
				for _, w := range lists {
					checkProof(t, b, w, p, goal, false)
				}
			}
		}
	}
}

func TestFirstProofOfAllPairs(t *testing.T) {
	for _, b := range []impl.Board{notch(), impl.Rectangle(3, 1), impl.Rectangle(1, 4), impl.Rectangle(3, 2), impl.Rectangle(2, 3)} {
		lists := listsInOrder(b)
		eachPosition(b, func(pegs []int) {
			eachPosition(b, func(goal []int) { checkPair(t, b, lists, pegs, goal) })
		})
	}
}

func TestFirstProofOfEveryBoard(t *testing.T) {
	random := rand.New(rand.NewSource(101))
	eachBoard(func(b impl.Board) {
		lists, holes := listsInOrder(b), holesByPlace(b)
		for range 20 {
			checkPair(t, b, lists, somePegs(random, holes, 4), somePegs(random, holes, 4))
		}
	})
}

func TestFirstProofOnTheGreatestBoard(t *testing.T) {
	random := rand.New(rand.NewSource(102))
	b := impl.Rectangle(7, 7)
	lists, holes := listsInOrder(b), holesByPlace(b)
	found := make([]int, len(lists)+1)
	for range 6000 {
		found[1+checkPair(t, b, lists, somePegs(random, holes, 9), somePegs(random, holes, 6))]++
	}
	for i, count := range found {
		if count == 0 {
			t.Errorf("no pair of positions has the first proof %d: %v", i-1, found)
		}
	}
}

func TestEachListIsTheFirstProofOfSomeGoal(t *testing.T) {
	// On one row, all columns are different, and all rows have one weight for all holes; on one column, it is the other way round.
	row, column := impl.Rectangle(7, 1), impl.Rectangle(1, 7)
	for _, b := range []impl.Board{row, column} {
		checkFound(t, b, positionOf(0), positionOf(1), []int{0, 1, 1, 0, 1, 1, 0})
		checkFound(t, b, positionOf(1), positionOf(0), []int{1, 0, 1, 1, 0, 1, 1})
		checkFound(t, b, positionOf(2), positionOf(0), []int{1, 1, 0, 1, 1, 0, 1})
		checkFound(t, b, positionOf(3), positionOf(0), []int{13, 8, 5, 3, 2, 1, 1})
		checkFound(t, b, positionOf(0, 4), positionOf(1), []int{8, 13, 8, 5, 3, 2, 1})
		checkFound(t, b, positionOf(0), positionOf(3), []int{5, 8, 13, 8, 5, 3, 2})
		checkFound(t, b, positionOf(1), positionOf(4), []int{3, 5, 8, 13, 8, 5, 3})
		checkFound(t, b, positionOf(0), positionOf(6), []int{2, 3, 5, 8, 13, 8, 5})
		checkFound(t, b, positionOf(3), positionOf(6), []int{1, 2, 3, 5, 8, 13, 8})
		checkFound(t, b, positionOf(2, 3), positionOf(6), []int{1, 1, 2, 3, 5, 8, 13})
	}
	// The first goal is proven by a column and by a row: the column comes before it.
	square := impl.Rectangle(7, 7)
	checkFound(t, square, positionOf(24), positionOf(0), impl.ColumnWeights(square, 0))
	checkFound(t, square, positionOf(21), positionOf(0), impl.RowWeights(square, 0))
	checkFound(t, square, positionOf(14, 21), positionOf(42), impl.RowWeights(square, 6))
}

func TestProofsOnTheSquare(t *testing.T) {
	square := impl.Rectangle(3, 3)
	checkFound(t, square, 1, 2, []int{0, 1, 1, 1, 1, 0, 1, 0, 1})
	checkFound(t, square, 2, 1, []int{1, 0, 1, 0, 1, 1, 1, 1, 0})
	checkFound(t, square, 4, 1, []int{1, 1, 0, 1, 0, 1, 0, 1, 1})
	checkFound(t, square, 0, 511, []int{0, 1, 1, 1, 1, 0, 1, 0, 1})
	// A game leads from 35 by 36 to 256.
	for _, p := range []int{35, 36, 256} {
		checkFound(t, square, p, 256, nil)
	}
	// The sums of 36 and 35 are equal in the first two lists.
	checkFound(t, square, 36, 35, []int{1, 1, 0, 1, 0, 1, 0, 1, 1})
}

func TestEqualSumsAreNoProof(t *testing.T) {
	row := impl.Rectangle(3, 1)
	checkProof(t, row, []int{1, 1, 2}, 3, 4, false)
	checkProof(t, row, []int{1, 1, 2}, 1, 4, true)
	checkProof(t, row, []int{1, 1, 2}, 4, 3, false)
	checkProof(t, row, []int{0, 0, 0}, 0, 7, false)
	checkProof(t, row, []int{-1, 1, 0}, 3, 4, false)
	checkProof(t, row, []int{-1, 1, 0}, 1, 4, true)
	checkProof(t, row, []int{-1, 1, 0}, 5, 0, true)
	for _, b := range proofBoards() {
		for _, p := range []int{0, b.Holes} {
			checkFound(t, b, p, p, nil)
			checkProof(t, b, sameWeights(b, 1), p, p, false)
		}
		checkProof(t, b, sameWeights(b, 0), 0, b.Holes, false)
		checkProof(t, b, sameWeights(b, 1), 0, b.Holes, true)
	}
}

func TestWeightsThatAreNotFallingAreNoProof(t *testing.T) {
	row := impl.Rectangle(3, 1)
	checkProof(t, row, []int{1, 1, 3}, 3, 4, false)
	checkProof(t, row, []int{1, 0, 0}, 4, 1, false)
	checkProof(t, row, []int{1, 1, 0}, 4, 1, true)
	// The line of the first row has no hole in its middle, so nothing is carried along it.
	checkProof(t, notch(), []int{0, 0, 9, 0, 0, 0}, 1, 4, true)
	checkProof(t, impl.Rectangle(3, 2), []int{0, 0, 9, 0, 0, 0}, 1, 4, false)
}

func TestListsThatAreNoWeightsAreNoProof(t *testing.T) {
	for _, b := range proofBoards() {
		size := b.Width * b.Height
		checkProof(t, b, nil, 0, b.Holes, false)
		for _, count := range []int{size - 1, size + 1, 2 * size} {
			checkProof(t, b, slices.Repeat([]int{1}, count), 0, b.Holes, false)
		}
		for _, bad := range outsideTheRange() {
			checkProof(t, b, weightsWith(sameWeights(b, 1), 0, bad), 0, b.Holes, false)
			checkProof(t, b, weightsWith(sameWeights(b, 1), 0, bad), b.Holes, 0, false)
			checkProof(t, b, weightsWith(sameWeights(b, 1), size-1, bad), 0, b.Holes, false)
		}
		checkProof(t, b, sameWeights(b, 1000), 0, b.Holes, true)
	}
}

func TestPositionsThatAreNotValidHaveNoProof(t *testing.T) {
	for _, b := range proofBoards() {
		for _, bad := range invalidPositions(b) {
			for _, p := range []int{0, b.Holes, b.Holes & -b.Holes, bad} {
				checkFound(t, b, bad, p, nil)
				checkFound(t, b, p, bad, nil)
				for _, w := range [][]int{sameWeights(b, 1), sameWeights(b, 1000)} {
					checkProof(t, b, w, bad, p, false)
					checkProof(t, b, w, p, bad, false)
				}
			}
		}
	}
	// The sum of a position that is not valid would be greater.
	lone := impl.Board{Width: 3, Height: 1, Holes: 5}
	checkProof(t, lone, []int{-4, 0, -4}, 5, 0, true)
	for _, bad := range []int{2, 7, 8, -1} {
		checkProof(t, lone, []int{-4, 0, -4}, 5, bad, false)
		checkProof(t, lone, []int{4, 0, 4}, bad, 5, false)
	}
}

func TestInvalidBoardsHaveNoProof(t *testing.T) {
	for _, b := range brokenBoards() {
		for number := -1; number <= 7; number++ {
			checkNoLists(t, b, number)
			checkList(t, b, "ClassWeights", number, impl.ClassWeights(b, number), nil)
		}
		for _, p := range []int{0, 1, 4, 511, b.Holes, -1} {
			checkFound(t, b, 0, p, nil)
			checkFound(t, b, p, 1, nil)
			for _, count := range []int{0, 1, 6, 9, 49} {
				checkProof(t, b, slices.Repeat([]int{1}, count), 0, p, false)
			}
		}
	}
}

func TestProofsLeaveTheWeightsAsTheyAre(t *testing.T) {
	b := impl.Rectangle(3, 1)
	stored := []int{1, 1, 2, 90, 91}
	checkProof(t, b, stored[:3], 1, 4, true)
	checkProof(t, b, stored[:4], 1, 4, false)
	if !slices.Equal(stored, []int{1, 1, 2, 90, 91}) {
		t.Errorf("the weights and what is behind them: got %v", stored)
	}
}

func TestProofResultsAreNew(t *testing.T) {
	b := impl.Rectangle(3, 1)
	for _, result := range []func() []int{
		func() []int { return impl.ClassWeights(b, 0) },
		func() []int { return impl.ColumnWeights(b, 0) },
		func() []int { return impl.RowWeights(b, 0) },
		func() []int { w, _ := impl.FindProof(b, 1, 2); return w },
	} {
		first := result()
		if len(first) != 3 {
			t.Fatalf("a result for %v: got %v", b, first)
		}
		for i := range first {
			first[i] = -9
		}
		_ = append(first[:1], -9)
	}
	checkList(t, b, "ClassWeights", 0, impl.ClassWeights(b, 0), []int{0, 1, 1})
	checkList(t, b, "ColumnWeights", 0, impl.ColumnWeights(b, 0), []int{13, 8, 5})
	checkList(t, b, "RowWeights", 0, impl.RowWeights(b, 0), []int{13, 13, 13})
	checkFound(t, b, 1, 2, []int{0, 1, 1})
}
