package tests

import (
	"math/rand"
	"slices"
	"testing"

	"loop.example/g03302/impl"
)

// stepsByWalk returns the steps from an index to each index of the grid, found by a walk to all places beside those that were found before.
func stepsByWalk(b impl.Board, start int) []int {
	places := placesOf(b)
	steps := slices.Repeat([]int{-1}, len(places))
	steps[start] = 0
	for waiting := []int{start}; len(waiting) > 0; waiting = waiting[1:] {
		at := places[waiting[0]]
		for _, beside := range [][2]int{{at[0] + 1, at[1]}, {at[0], at[1] + 1}, {at[0] - 1, at[1]}, {at[0], at[1] - 1}} {
			if k := slices.Index(places, beside); k >= 0 && steps[k] < 0 {
				steps[k] = steps[waiting[0]] + 1
				waiting = append(waiting, k)
			}
		}
	}
	return steps
}

// goldByWalk returns the golden weights of all indices of the grid for a target.
func goldByWalk(b impl.Board, target int) []impl.Gold {
	powers, weights := powersByFibonacci(), []impl.Gold{}
	for _, steps := range stepsByWalk(b, target) {
		weights = append(weights, powers[steps])
	}
	return weights
}

// goldOfPegs adds up the golden weights of the pegs of a list.
func goldOfPegs(weights []impl.Gold, pegs []int) impl.Gold {
	sum := impl.Gold{}
	for _, k := range pegs {
		sum = gold(sum.A+weights[k].A, sum.B+weights[k].B)
	}
	return sum
}

// goldOnLine returns the weights of From and Over minus that of To.
func goldOnLine(weights []impl.Gold, l impl.Line) impl.Gold {
	before, after := goldOfPegs(weights, []int{l.From, l.Over}), goldOfPegs(weights, []int{l.To})
	return gold(before.A-after.A, before.B-after.B)
}

// goldBoards returns boards of several forms, most of which are not square.
func goldBoards() []impl.Board {
	return []impl.Board{
		notch(), ring(), impl.Rectangle(3, 3), impl.Rectangle(4, 2), impl.Rectangle(1, 1), impl.Rectangle(7, 1), impl.Rectangle(1, 7),
		impl.Rectangle(2, 7), sevenBySix(), impl.Rectangle(7, 7), impl.CrossBoard(), {Width: 7, Height: 7, Holes: 1 << 48},
	}
}

// indexesWithoutHole returns indexes of the grid at which the hole is missing, and numbers that are no indexes of it.
func indexesWithoutHole(b impl.Board) []int {
	holes := holesByPlace(b)
	list := outsideTheGrid(b)
	for k := range b.Width * b.Height {
		if !slices.Contains(holes, k) {
			list = append(list, k)
		}
	}
	return list
}

// checkStepsBetween checks the steps between two indices in both orders.
func checkStepsBetween(t *testing.T, b impl.Board, j int, k int, want int) {
	t.Helper()
	for _, pair := range [][2]int{{j, k}, {k, j}} {
		if got := impl.StepsBetween(b, pair[0], pair[1]); got != want {
			t.Errorf("StepsBetween(%v, %d, %d): got %d, want %d", b, pair[0], pair[1], got, want)
		}
	}
}

// checkGoldAt checks the weight of an index for a target, and that of the target for the index, which is the same.
func checkGoldAt(t *testing.T, b impl.Board, target int, k int, want impl.Gold) {
	t.Helper()
	for _, pair := range [][2]int{{target, k}, {k, target}} {
		if got := impl.GoldAt(b, pair[0], pair[1]); got != want {
			t.Errorf("GoldAt(%v, %d, %d): got %v, want %v", b, pair[0], pair[1], got, want)
		}
	}
}

// checkNoSteps checks that two numbers are not both indices of the grid of a board.
func checkNoSteps(t *testing.T, b impl.Board, j int, k int) {
	t.Helper()
	checkStepsBetween(t, b, j, k, -1)
	checkGoldAt(t, b, j, k, impl.Gold{})
}

func checkGoldSum(t *testing.T, b impl.Board, target int, p int, want impl.Gold) {
	t.Helper()
	if got := impl.GoldSum(b, target, p); got != want {
		t.Errorf("GoldSum(%v, %d, %d): got %v, want %v", b, target, p, got, want)
	}
}

func checkHope(t *testing.T, b impl.Board, p int, target int, want bool) {
	t.Helper()
	if got := impl.CanHope(b, p, target); got != want {
		t.Errorf("CanHope(%v, %d, %d): got %v", b, p, target, got)
	}
}

// checkSumAndHope checks the sum of a valid position, and whether it is at least 1; it returns how the sum compares with 1.
func checkSumAndHope(t *testing.T, b impl.Board, target int, p int, want impl.Gold) int {
	t.Helper()
	order := signByFraction(want.A-1, want.B)
	checkGoldSum(t, b, target, p, want)
	checkHope(t, b, p, target, order >= 0)
	return order
}

func checkGoldLoss(t *testing.T, b impl.Board, target int, l impl.Line, want impl.Gold) {
	t.Helper()
	if got := impl.GoldLoss(b, target, l); got != want {
		t.Errorf("GoldLoss(%v, %d, %v): got %v, want %v", b, target, l, got, want)
	}
}

// checkNoSum checks that a position or a target is rejected.
func checkNoSum(t *testing.T, b impl.Board, target int, p int) {
	t.Helper()
	checkGoldSum(t, b, target, p, impl.Gold{})
	checkHope(t, b, p, target, false)
}

// checkReached checks that there is hope for every hole with a peg in a position that is reached from p, and returns the number of holes without hope.
func checkReached(t *testing.T, b impl.Board, lines []impl.Line, p int) int {
	t.Helper()
	pegsOfAll := 0
	for q := range reachedFrom(lines, p) {
		pegsOfAll |= q
	}
	without := 0
	for _, target := range holesByPlace(b) {
		hope := impl.CanHope(b, p, target)
		if !hope {
			without++
		}
		if pegsOfAll&positionOf(target) != 0 && !hope {
			t.Errorf("CanHope(%v, %d, %d): got false, but the target is reached", b, p, target)
		}
	}
	return without
}

func TestStepsOfEveryGrid(t *testing.T) {
	powers := powersByFibonacci()
	for width := 1; width <= 7; width++ {
		for height := 1; height <= 7; height++ {
			all := impl.Rectangle(width, height)
			// An index of the grid need not be a hole.
			for _, b := range []impl.Board{all, {Width: width, Height: height, Holes: 1}, {Width: width, Height: height, Holes: (all.Holes + 1) / 2}} {
				for j := range width * height {
					for k, steps := range stepsByWalk(b, j) {
						checkStepsBetween(t, b, j, k, steps)
						checkGoldAt(t, b, j, k, powers[steps])
					}
				}
			}
		}
	}
}

func TestStepsOfNumbersThatAreNoIndexes(t *testing.T) {
	for width := 1; width <= 7; width++ {
		for height := 1; height <= 7; height++ {
			b := impl.Rectangle(width, height)
			last := width*height - 1
			checkNoSteps(t, b, -1, last)
			checkNoSteps(t, b, last, last+1)
			checkStepsBetween(t, b, last, last, 0)
			checkStepsBetween(t, b, 0, last, width+height-2)
			for _, bad := range outsideTheGrid(b) {
				checkNoSteps(t, b, bad, bad)
				checkNoSteps(t, b, bad, -1)
				for k := range width * height {
					checkNoSteps(t, b, bad, k)
				}
			}
		}
	}
}

func TestStepsAndWeightsByHand(t *testing.T) {
	square := impl.Rectangle(3, 3)
	checkStepsBetween(t, square, 0, 8, 4)
	checkStepsBetween(t, square, 2, 6, 4)
	checkStepsBetween(t, square, 2, 3, 3)
	checkStepsBetween(t, square, 4, 5, 1)
	checkStepsBetween(t, square, 4, 4, 0)
	checkStepsBetween(t, square, 0, 9, -1)
	checkGoldAt(t, square, 8, 8, gold(1, 0))
	checkGoldAt(t, square, 8, 5, gold(0, 1))
	checkGoldAt(t, square, 8, 2, gold(1, -1))
	checkGoldAt(t, square, 8, 1, gold(-1, 2))
	checkGoldAt(t, square, 8, 0, gold(2, -3))
	// The hole 1 is missing, but it is an index of the grid.
	checkStepsBetween(t, notch(), 0, 2, 2)
	checkStepsBetween(t, notch(), 1, 3, 2)
	checkStepsBetween(t, notch(), 1, 1, 0)
	checkStepsBetween(t, notch(), 2, 3, 3)
	checkGoldAt(t, notch(), 1, 1, gold(1, 0))
	checkGoldAt(t, notch(), 1, 3, gold(1, -1))
	checkStepsBetween(t, sevenBySix(), 6, 7, 7)
	checkStepsBetween(t, sevenBySix(), 6, 35, 11)
	checkStepsBetween(t, impl.Rectangle(6, 7), 5, 6, 6)
	checkStepsBetween(t, impl.Rectangle(6, 7), 5, 36, 11)
	checkStepsBetween(t, impl.Rectangle(7, 7), 0, 48, 12)
	checkStepsBetween(t, impl.Rectangle(7, 7), 6, 42, 12)
	checkGoldAt(t, impl.Rectangle(7, 7), 0, 48, gold(89, -144))
}

func TestStepsOfInvalidBoards(t *testing.T) {
	for _, b := range brokenBoards() {
		for _, j := range []int{-1, 0, 1, 5, 8, 9, 48} {
			for _, k := range []int{-1, 0, 1, 5, 8, 9, 48} {
				checkNoSteps(t, b, j, k)
			}
		}
	}
}

func TestGoldSumsOfEveryBoard(t *testing.T) {
	random := rand.New(rand.NewSource(12))
	below, exactly, above := 0, 0, 0
	eachBoard(func(b impl.Board) {
		holes := holesByPlace(b)
		for _, target := range []int{holes[0], holes[len(holes)-1], holes[random.Intn(len(holes))]} {
			weights := goldByWalk(b, target)
			eachPosition(b, func(pegs []int) {
				switch checkSumAndHope(t, b, target, positionOf(pegs...), goldOfPegs(weights, pegs)) {
				case -1:
					below++
				case 0:
					exactly++
				default:
					above++
				}
			})
		}
	})
	if min(below, exactly, above) < 1000 {
		t.Errorf("only %d sums below 1, %d sums of exactly 1 and %d above", below, exactly, above)
	}
}

func TestGoldSumsOfAllTargets(t *testing.T) {
	for _, b := range goldBoards() {
		for _, target := range holesByPlace(b) {
			weights := goldByWalk(b, target)
			eachPosition(b, func(pegs []int) {
				checkSumAndHope(t, b, target, positionOf(pegs...), goldOfPegs(weights, pegs))
			})
			for _, k := range holesByPlace(b) {
				checkSumAndHope(t, b, target, impl.SinglePeg(b, k), weights[k])
			}
		}
	}
}

func TestGoldSumsOfFullRectangles(t *testing.T) {
	powers := powersByFibonacci()
	// The sum over a rectangle is the product of the sums over a row and over a column.
	sumOfRow := func(length int, at int) impl.Gold {
		sum := impl.Gold{}
		for x := range length {
			sum = addAll(t, sum, powers[max(x-at, at-x)])
		}
		return sum
	}
	for width := 1; width <= 7; width++ {
		for height := 1; height <= 7; height++ {
			b := impl.Rectangle(width, height)
			for target, place := range placesOf(b) {
				checkGoldSum(t, b, target, b.Holes, timesAll(t, sumOfRow(width, place[0]), sumOfRow(height, place[1])))
				checkHope(t, b, b.Holes, target, true)
			}
		}
	}
}

func TestEmptyPositionsHaveNoHope(t *testing.T) {
	eachBoard(func(b impl.Board) {
		for _, target := range holesByPlace(b) {
			checkNoSum(t, b, target, 0)
		}
	})
}

func TestHopeIsASumOfExactlyOne(t *testing.T) {
	one := gold(1, 0)
	for _, b := range goldBoards() {
		for _, target := range holesByPlace(b) {
			checkSumAndHope(t, b, target, positionOf(target), one)
		}
	}
	// The steps are 1 and 2.
	square := impl.Rectangle(3, 3)
	checkSumAndHope(t, square, 8, positionOf(5, 2), one)
	checkSumAndHope(t, square, 8, positionOf(5, 6), one)
	checkSumAndHope(t, square, 8, positionOf(7, 4), one)
	checkSumAndHope(t, square, 4, positionOf(1, 0), one)
	// The steps are 1, 3 and 4, then 1, 3, 5 and 6, and then all odd ones and 12.
	checkSumAndHope(t, square, 8, positionOf(5, 1, 0), one)
	checkSumAndHope(t, impl.Rectangle(7, 1), 0, positionOf(1, 3, 5, 6), one)
	checkSumAndHope(t, impl.Rectangle(1, 7), 6, positionOf(5, 3, 1, 0), one)
	checkSumAndHope(t, impl.Rectangle(7, 7), 0, positionOf(1, 3, 5, 13, 27, 41, 48), one)
	for _, b := range []impl.Board{square, impl.Rectangle(7, 1), impl.Rectangle(1, 7), impl.Rectangle(7, 7)} {
		checkSumAndHope(t, b, 0, positionOf(1, 2), one)
	}
}

func TestNoHopeJustBelowOne(t *testing.T) {
	square := impl.Rectangle(3, 3)
	checkSumAndHope(t, square, 8, 3, gold(1, -1))
	checkSumAndHope(t, square, 8, positionOf(5), gold(0, 1))
	checkSumAndHope(t, square, 8, positionOf(5, 1), gold(-1, 3))
	checkSumAndHope(t, square, 8, positionOf(2, 6), gold(2, -2))
	checkHope(t, square, positionOf(5, 1), 8, false)
	checkHope(t, square, positionOf(2, 6), 8, false)
	checkHope(t, square, 3, 8, false)
	// What is missing is s to the power of 6.
	checkSumAndHope(t, impl.Rectangle(7, 1), 0, positionOf(1, 3, 5), gold(-4, 8))
	checkHope(t, impl.Rectangle(7, 1), positionOf(1, 3, 5), 0, false)
	// What is missing is s to the power of 12, about 0.003, and then there is that much too much.
	great := impl.Rectangle(7, 7)
	checkSumAndHope(t, great, 0, positionOf(1, 3, 5, 13, 27, 41), gold(-88, 144))
	checkHope(t, great, positionOf(1, 3, 5, 13, 27, 41), 0, false)
	checkSumAndHope(t, great, 0, positionOf(0, 48), gold(90, -144))
	checkHope(t, great, positionOf(0, 48), 0, true)
}

func TestHopeTakesThePositionFirst(t *testing.T) {
	square := impl.Rectangle(3, 3)
	// 8 is the position with a peg in the hole 3, and 3 the one with pegs in the holes 0 and 1.
	checkHope(t, square, 8, 3, true)
	checkHope(t, square, 3, 8, false)
	checkGoldSum(t, square, 3, 8, gold(1, 0))
	checkGoldSum(t, square, 8, 3, gold(1, -1))
}

func TestTargetsThatAreNoHoles(t *testing.T) {
	for _, b := range goldBoards() {
		lines := linesByPlace(b)
		for _, target := range indexesWithoutHole(b) {
			for _, p := range []int{0, b.Holes, impl.SinglePeg(b, holesByPlace(b)[0])} {
				checkNoSum(t, b, target, p)
			}
			for _, l := range lines {
				checkGoldLoss(t, b, target, l, impl.Gold{})
			}
		}
	}
}

func TestGoldSumsOfPositionsThatAreNotValid(t *testing.T) {
	for _, b := range goldBoards() {
		for _, target := range holesByPlace(b) {
			for _, p := range invalidPositions(b) {
				checkNoSum(t, b, target, p)
			}
		}
	}
}

func TestGoldOfInvalidBoards(t *testing.T) {
	for _, b := range brokenBoards() {
		for _, target := range []int{-1, 0, 1, 2, 5, 8, 48} {
			for _, p := range []int{-1, 0, 1, 3, 35, 61, 256, b.Holes} {
				checkNoSum(t, b, target, p)
			}
			for _, l := range []impl.Line{line3(0, 1, 2), line3(2, 1, 0), line3(0, 3, 6), line3(2, 5, 8), {}} {
				checkGoldLoss(t, b, target, l, impl.Gold{})
			}
		}
	}
}

func TestGoldLossOfEveryBoard(t *testing.T) {
	eachBoard(func(b impl.Board) {
		lines, holes := linesByPlace(b), holesByPlace(b)
		for _, target := range holes {
			// With many boards, it is enough to take some targets of the greater ones.
			if len(holes) > 9 && target%5 != len(holes)%5 {
				continue
			}
			steps, weights := stepsByWalk(b, target), goldByWalk(b, target)
			for _, l := range lines {
				want := goldOnLine(weights, l)
				checkGoldLoss(t, b, target, l, want)
				// Nothing is lost just by a jump towards the target.
				if sign := impl.SignOf(want); sign < 0 || (sign == 0) != (steps[l.To] == steps[l.From]-2) {
					t.Errorf("GoldLoss(%v, %d, %v): the sign is %d", b, target, l, sign)
				}
			}
		}
	})
}

func TestGoldLossByHand(t *testing.T) {
	square := impl.Rectangle(3, 3)
	checkGoldLoss(t, square, 8, line3(2, 5, 8), impl.Gold{})
	checkGoldLoss(t, square, 8, line3(6, 7, 8), impl.Gold{})
	checkGoldLoss(t, square, 8, line3(0, 3, 6), impl.Gold{})
	checkGoldLoss(t, square, 8, line3(8, 5, 2), gold(0, 2))
	checkGoldLoss(t, square, 8, line3(2, 1, 0), gold(-2, 4))
	// A jump over the target, and one past it in the next column.
	checkGoldLoss(t, square, 4, line3(1, 4, 7), gold(1, 0))
	checkGoldLoss(t, square, 4, line3(0, 3, 6), gold(0, 1))
	row := impl.Rectangle(7, 1)
	checkGoldLoss(t, row, 6, line3(0, 1, 2), impl.Gold{})
	checkGoldLoss(t, row, 6, line3(2, 1, 0), gold(-6, 10))
	checkGoldLoss(t, row, 3, line3(2, 3, 4), gold(1, 0))
	checkGoldLoss(t, impl.Rectangle(1, 7), 0, line3(6, 5, 4), impl.Gold{})
	checkGoldLoss(t, impl.Rectangle(7, 7), 0, line3(34, 41, 48), gold(-110, 178))
}

func TestGoldLossOfLinesThatAreNotOfTheBoard(t *testing.T) {
	for _, b := range []impl.Board{notch(), ring(), impl.Rectangle(3, 3), impl.Rectangle(4, 2), impl.Rectangle(2, 2), impl.Rectangle(1, 1)} {
		lines, target := linesByPlace(b), holesByPlace(b)[0]
		weights := goldByWalk(b, target)
		for from := -1; from <= 9; from++ {
			for over := -1; over <= 9; over++ {
				for to := -1; to <= 9; to++ {
					want := impl.Gold{}
					if l := line3(from, over, to); slices.Contains(lines, l) {
						want = goldOnLine(weights, l)
					}
					checkGoldLoss(t, b, target, line3(from, over, to), want)
				}
			}
		}
		for _, n := range outsideTheGrid(b) {
			for _, l := range []impl.Line{line3(n, 1, 2), line3(0, n, 2), line3(0, 1, n), line3(n, n, n), line3(n-2, n-1, n), line3(n, n-1, n-2), line3(3, 4, n), line3(n, 4, 5)} {
				checkGoldLoss(t, b, target, l, impl.Gold{})
			}
		}
	}
}

func TestGoldLossIsWhatAJumpTakesFromTheSum(t *testing.T) {
	random := rand.New(rand.NewSource(120))
	jumpsInAll := 0
	eachGame(func(b impl.Board, jumps []impl.Line, positions []int) {
		holes := holesByPlace(b)
		target := holes[random.Intn(len(holes))]
		for i, l := range jumps {
			jumpsInAll++
			before, after := impl.GoldSum(b, target, positions[i]), impl.GoldSum(b, target, positions[i+1])
			checkGoldLoss(t, b, target, l, gold(before.A-after.A, before.B-after.B))
		}
	})
	if jumpsInAll < 1000 {
		t.Errorf("only %d jumps were played", jumpsInAll)
	}
}

func TestGoldenSumNeverGrows(t *testing.T) {
	same, less, reached := 0, 0, 0
	eachGame(func(b impl.Board, jumps []impl.Line, positions []int) {
		for _, target := range holesByPlace(b) {
			for i := range jumps {
				switch before, after := impl.GoldSum(b, target, positions[i]), impl.GoldSum(b, target, positions[i+1]); impl.CompareGold(after, before) {
				case 0:
					same++
				case -1:
					less++
				default:
					t.Errorf("%v, %d: GoldSum is %v for %d and %v for %d", b, target, before, positions[i], after, positions[i+1])
				}
			}
			end := slices.IndexFunc(positions, func(p int) bool { return impl.HasPeg(b, p, target) })
			for i := 0; i <= end; i++ {
				reached++
				checkHope(t, b, positions[i], target, true)
			}
		}
	})
	if min(same, less, reached) < 1000 {
		t.Errorf("only %d sums were the same and %d less, and %d times a target was reached", same, less, reached)
	}
}

func TestOnlyTargetsWithHopeAreReached(t *testing.T) {
	without := 0
	for _, b := range []impl.Board{notch(), ring(), impl.Rectangle(3, 3), impl.Rectangle(4, 2), impl.Rectangle(7, 1), impl.Rectangle(1, 7), impl.Rectangle(2, 3), {Width: 3, Height: 3, Holes: 511 - 2 - 8}} {
		lines := linesByPlace(b)
		for p := range b.Holes + 1 {
			if p&b.Holes == p {
				without += checkReached(t, b, lines, p)
			}
		}
	}
	if without < 1000 {
		t.Errorf("only %d holes were without hope", without)
	}
}

func TestHopeIsLostOnce(t *testing.T) {
	lost := 0
	eachGame(func(b impl.Board, jumps []impl.Line, positions []int) {
		for _, target := range holesByPlace(b) {
			hope := true
			for i, p := range positions {
				now := impl.CanHope(b, p, target)
				if now && !hope {
					t.Errorf("%v, %d: there is hope for %d, but not before %v", b, target, p, jumps[i-1])
				}
				if !now && hope && i > 0 {
					lost++
				}
				hope = now
			}
		}
	})
	if lost < 1000 {
		t.Errorf("hope was lost only %d times", lost)
	}
}
