package tests

import (
	"math"
	"math/rand"
	"slices"
	"testing"

	"loop.example/g03302/impl"
)

// randomWeights returns a list for the grid of a board, with weights from -limit to limit.
func randomWeights(random *rand.Rand, b impl.Board, limit int) []int {
	w := []int{}
	for range b.Width * b.Height {
		w = append(w, random.Intn(2*limit+1)-limit)
	}
	return w
}

// sameWeights returns a list for the grid of a board with one weight for all indices.
func sameWeights(b impl.Board, weight int) []int {
	return slices.Repeat([]int{weight}, b.Width*b.Height)
}

// weightsWith returns a list with another weight at one index.
func weightsWith(w []int, k int, weight int) []int {
	changed := slices.Clone(w)
	changed[k] = weight
	return changed
}

// outsideTheRange returns numbers that no weight can be.
func outsideTheRange() []int {
	return append(greatInts(), 1001, 1002, 2000, 1256, 66536, -1001, -1002, -2000, -1256, -66536)
}

// sumOfPegs adds up the weights of the pegs of a list.
func sumOfPegs(w []int, pegs []int) int {
	sum := 0
	for _, k := range pegs {
		sum += w[k]
	}
	return sum
}

// brokenByPegs returns the first line of a list on which the pegs in From and Over weigh less than the one that a jump leaves in To.
func brokenByPegs(w []int, lines []impl.Line) (impl.Line, bool) {
	for _, l := range lines {
		if sumOfPegs(w, []int{l.From, l.Over}) < sumOfPegs(w, []int{l.To}) {
			return l, true
		}
	}
	return impl.Line{}, false
}

// raised makes falling weights of a list by greater weights of the holes that are jumped over; false if they leave the range.
func raised(w []int, lines []impl.Line) ([]int, bool) {
	w = slices.Clone(w)
	for {
		l, broken := brokenByPegs(w, lines)
		if !broken {
			return w, true
		}
		w[l.Over] = w[l.To] - w[l.From]
		if w[l.Over] > 1000 {
			return nil, false
		}
	}
}

// fallingLists returns falling weights of a board, some of them with negative ones or with the greatest ones.
func fallingLists(random *rand.Rand, b impl.Board, lines []impl.Line) [][]int {
	lists := [][]int{sameWeights(b, 0), sameWeights(b, 1), sameWeights(b, 1000)}
	for _, limit := range []int{1, 2, 10, 100, 500} {
		if w, ok := raised(randomWeights(random, b, limit), lines); ok {
			lists = append(lists, w)
		}
	}
	return lists
}

func checkSum(t *testing.T, b impl.Board, w []int, p int, want int) {
	t.Helper()
	if got := impl.SumOf(b, w, p); got != want {
		t.Errorf("SumOf(%v, %v, %d): got %d, want %d", b, w, p, got, want)
	}
}

func checkLoss(t *testing.T, b impl.Board, w []int, l impl.Line, want int) {
	t.Helper()
	if got := impl.LossOf(b, w, l); got != want {
		t.Errorf("LossOf(%v, %v, %v): got %d, want %d", b, w, l, got, want)
	}
}

func checkFalling(t *testing.T, b impl.Board, w []int) {
	t.Helper()
	if l, broken := impl.BrokenLine(b, w); !impl.IsFalling(b, w) || broken || l != (impl.Line{}) {
		t.Errorf("%v, %v: IsFalling %v, BrokenLine %v and %v, want no broken line", b, w, impl.IsFalling(b, w), l, broken)
	}
}

func checkBroken(t *testing.T, b impl.Board, w []int, want impl.Line) {
	t.Helper()
	if l, broken := impl.BrokenLine(b, w); impl.IsFalling(b, w) || !broken || l != want {
		t.Errorf("%v, %v: IsFalling %v, BrokenLine %v and %v, want %v", b, w, impl.IsFalling(b, w), l, broken, want)
	}
}

// checkAdded checks the sum of two lists in both orders; without wanted sums, the lists cannot be added.
func checkAdded(t *testing.T, b impl.Board, v []int, w []int, want []int) {
	t.Helper()
	for _, lists := range [][2][]int{{v, w}, {w, v}} {
		if got, ok := impl.AddWeights(b, lists[0], lists[1]); !slices.Equal(got, want) || ok != (want != nil) {
			t.Errorf("AddWeights(%v, %v, %v): got %v and %v, want %v", b, lists[0], lists[1], got, ok, want)
		}
	}
}

// checkWeights checks the functions of the chapter for weights, except for AddWeights.
func checkWeights(t *testing.T, b impl.Board, w []int) {
	t.Helper()
	if !impl.WeightsOk(b, w) {
		t.Errorf("WeightsOk(%v, %v): got false", b, w)
	}
	lines := linesByPlace(b)
	for _, l := range lines {
		checkLoss(t, b, w, l, sumOfPegs(w, []int{l.From, l.Over})-sumOfPegs(w, []int{l.To}))
	}
	if l, broken := brokenByPegs(w, lines); broken {
		checkBroken(t, b, w, l)
	} else {
		checkFalling(t, b, w)
	}
}

// checkNoWeights checks that all functions of the chapter reject a list.
func checkNoWeights(t *testing.T, b impl.Board, w []int) {
	t.Helper()
	if l, broken := impl.BrokenLine(b, w); impl.WeightsOk(b, w) || impl.IsFalling(b, w) || broken || l != (impl.Line{}) {
		t.Errorf("%v, %v: WeightsOk %v, IsFalling %v, BrokenLine %v and %v", b, w, impl.WeightsOk(b, w), impl.IsFalling(b, w), l, broken)
	}
	for _, p := range []int{0, 1, 4, 35, 61, b.Holes, -1} {
		checkSum(t, b, w, p, 0)
	}
	for _, l := range []impl.Line{line3(0, 1, 2), line3(2, 1, 0), line3(0, 3, 6), line3(2, 5, 8), {}} {
		checkLoss(t, b, w, l, 0)
	}
	for _, v := range [][]int{nil, {}, w, make([]int, len(w)), {1, 2, 3}, make([]int, 6), make([]int, 9), make([]int, 49)} {
		checkAdded(t, b, v, w, nil)
	}
}

func TestWeightsByTheirNumber(t *testing.T) {
	for width := range 7 {
		for height := range 7 {
			b := impl.Rectangle(width+1, height+1)
			for count := range 60 {
				if w := make([]int, count); impl.WeightsOk(b, w) != (count == (width+1)*(height+1)) {
					t.Errorf("WeightsOk(%v, %v): got %v", b, w, impl.WeightsOk(b, w))
				}
			}
		}
	}
}

func TestWeightsAtTheEndsOfTheRange(t *testing.T) {
	for _, b := range []impl.Board{notch(), ring(), impl.Rectangle(3, 3), impl.Rectangle(1, 1), impl.Rectangle(2, 7), impl.Rectangle(7, 7), impl.CrossBoard()} {
		for _, weight := range []int{-1000, -999, -1, 0, 1, 999, 1000} {
			checkWeights(t, b, sameWeights(b, weight))
			// An index without a hole has a weight, too.
			for k := range b.Width * b.Height {
				checkWeights(t, b, weightsWith(sameWeights(b, 1), k, weight))
			}
		}
	}
}

func TestWeightsOutsideTheRange(t *testing.T) {
	for _, b := range []impl.Board{notch(), ring(), impl.Rectangle(3, 3), impl.Rectangle(1, 1), impl.Rectangle(2, 7)} {
		for _, bad := range outsideTheRange() {
			checkNoWeights(t, b, sameWeights(b, bad))
			for k := range b.Width * b.Height {
				checkNoWeights(t, b, weightsWith(sameWeights(b, 1), k, bad))
			}
		}
	}
}

func TestListsThatAreTooShortOrTooLong(t *testing.T) {
	for _, b := range []impl.Board{notch(), ring(), impl.Rectangle(3, 3), impl.Rectangle(1, 1), impl.Rectangle(2, 7), impl.Rectangle(7, 7), impl.CrossBoard()} {
		size := b.Width * b.Height
		checkNoWeights(t, b, nil)
		checkNoWeights(t, b, []int{})
		for _, count := range []int{1, b.Width, b.Height, len(holesByPlace(b)), size - 1, size + 1, 2 * size, 50, 100} {
			if count == size {
				continue
			}
			checkNoWeights(t, b, make([]int, count))
			checkNoWeights(t, b, slices.Repeat([]int{1}, count))
			checkNoWeights(t, b, slices.Repeat([]int{1000}, count))
			checkNoWeights(t, b, slices.Repeat([]int{-1}, count))
		}
	}
}

func TestWeightsOfEveryBoard(t *testing.T) {
	random := rand.New(rand.NewSource(9))
	eachBoard(func(b impl.Board) {
		for _, limit := range []int{0, 1, 3, 1000} {
			checkWeights(t, b, randomWeights(random, b, limit))
		}
		for _, w := range fallingLists(random, b, linesByPlace(b)) {
			checkWeights(t, b, w)
			checkFalling(t, b, w)
		}
	})
}

func TestSumsOfEveryBoard(t *testing.T) {
	random := rand.New(rand.NewSource(90))
	eachBoard(func(b impl.Board) {
		w := randomWeights(random, b, 1000)
		eachPosition(b, func(pegs []int) { checkSum(t, b, w, positionOf(pegs...), sumOfPegs(w, pegs)) })
	})
}

func TestGreatestAndLeastSums(t *testing.T) {
	for _, b := range []impl.Board{impl.Rectangle(7, 7), impl.CrossBoard(), notch(), impl.Rectangle(1, 1), {Width: 7, Height: 7, Holes: 1 << 48}} {
		for _, weight := range []int{-1000, -1, 0, 1, 1000} {
			checkSum(t, b, sameWeights(b, weight), b.Holes, weight*len(holesByPlace(b)))
			checkSum(t, b, sameWeights(b, weight), 0, 0)
		}
	}
	b := impl.Rectangle(7, 7)
	for k := range 49 {
		w := weightsWith(sameWeights(b, 0), k, -7)
		checkSum(t, b, w, impl.SinglePeg(b, k), -7)
		checkSum(t, b, w, impl.FullBut(b, k), 0)
		checkSum(t, b, w, b.Holes, -7)
	}
}

func TestLossIsWhatAJumpTakesFromTheSum(t *testing.T) {
	random := rand.New(rand.NewSource(91))
	eachGame(func(b impl.Board, jumps []impl.Line, positions []int) {
		w := randomWeights(random, b, 1000)
		for i, l := range jumps {
			checkLoss(t, b, w, l, impl.SumOf(b, w, positions[i])-impl.SumOf(b, w, positions[i+1]))
		}
	})
}

func TestFallingWeightsNeverLetASumGrow(t *testing.T) {
	random := rand.New(rand.NewSource(92))
	negative := 0
	eachGame(func(b impl.Board, jumps []impl.Line, positions []int) {
		for _, w := range fallingLists(random, b, linesByPlace(b)) {
			if len(jumps) > 0 && slices.Min(w) < 0 {
				negative++
			}
			for i := range jumps {
				if before, after := impl.SumOf(b, w, positions[i]), impl.SumOf(b, w, positions[i+1]); after > before {
					t.Errorf("%v, %v: IsFalling %v, but SumOf is %d for %d and %d for %d", b, w, impl.IsFalling(b, w), before, positions[i], after, positions[i+1])
				}
			}
		}
	})
	if negative < 1000 {
		t.Errorf("only %d games had negative weights", negative)
	}
}

func TestFallingJustIfNoJumpMakesASumGreater(t *testing.T) {
	random := rand.New(rand.NewSource(93))
	falling, broken := 0, 0
	for _, b := range []impl.Board{impl.Rectangle(3, 1), impl.Rectangle(1, 4), impl.Rectangle(3, 2), notch(), impl.Rectangle(3, 3), ring()} {
		for range 200 {
			w := randomWeights(random, b, 2)
			grows := false
			for p := range b.Holes + 1 {
				for _, l := range impl.JumpsOf(b, p) {
					after, _ := impl.DoJump(b, p, l)
					grows = grows || impl.SumOf(b, w, after) > impl.SumOf(b, w, p)
				}
			}
			if impl.IsFalling(b, w) == grows {
				t.Errorf("IsFalling(%v, %v): got %v, and that a sum grows is %v", b, w, !grows, grows)
			}
			if grows {
				broken++
			} else {
				falling++
			}
		}
	}
	if falling < 50 || broken < 50 {
		t.Errorf("only %d lists were falling, and %d were not", falling, broken)
	}
}

func TestSumOfFallingWeightsIsFalling(t *testing.T) {
	random := rand.New(rand.NewSource(94))
	added := 0
	eachBoard(func(b impl.Board) {
		lists := fallingLists(random, b, linesByPlace(b))
		for _, v := range lists {
			for _, w := range lists {
				if sums, ok := impl.AddWeights(b, v, w); ok {
					added++
					checkFalling(t, b, sums)
				}
			}
		}
	})
	if added < 10000 {
		t.Errorf("only %d pairs of lists could be added", added)
	}
}

func TestAddedWeightsOfEveryBoard(t *testing.T) {
	random := rand.New(rand.NewSource(95))
	eachBoard(func(b impl.Board) {
		v, w := randomWeights(random, b, 500), randomWeights(random, b, 500)
		sums := []int{}
		for k := range v {
			sums = append(sums, v[k]+w[k])
		}
		checkAdded(t, b, v, w, sums)
		checkAdded(t, b, sums, sameWeights(b, 0), sums)
		for p := range min(b.Holes, 64) {
			if p&b.Holes == p {
				checkSum(t, b, sums, p, impl.SumOf(b, v, p)+impl.SumOf(b, w, p))
			}
		}
	})
}

func TestAddedWeightsThatLeaveTheRange(t *testing.T) {
	for _, b := range []impl.Board{notch(), ring(), impl.Rectangle(1, 1), impl.Rectangle(2, 7), impl.CrossBoard()} {
		for _, pair := range [][2]int{{1000, 0}, {999, 1}, {500, 500}, {1000, -1000}, {-1000, 0}, {-999, -1}, {-500, -500}, {1000, -1}, {-1000, 1}} {
			v, w := sameWeights(b, pair[0]), sameWeights(b, pair[1])
			checkAdded(t, b, v, w, sameWeights(b, pair[0]+pair[1]))
			for k := range v {
				zero, one := sameWeights(b, 0), sameWeights(b, 1)
				checkAdded(t, b, weightsWith(zero, k, pair[0]), weightsWith(one, k, pair[1]), weightsWith(one, k, pair[0]+pair[1]))
			}
		}
		for _, pair := range [][2]int{{1000, 1}, {999, 2}, {501, 500}, {1000, 1000}, {-1000, -1}, {-999, -2}, {-501, -500}, {-1000, -1000}} {
			v, w := sameWeights(b, pair[0]), sameWeights(b, pair[1])
			checkAdded(t, b, v, w, nil)
			for k := range v {
				zero, one := sameWeights(b, 0), sameWeights(b, 1)
				checkAdded(t, b, weightsWith(zero, k, pair[0]), weightsWith(one, k, pair[1]), nil)
			}
		}
	}
}

func TestAddedListsThatAreNoWeights(t *testing.T) {
	for _, b := range []impl.Board{notch(), ring(), impl.Rectangle(1, 1)} {
		// The sum would be in the range.
		for _, pair := range [][2]int{{1001, -1}, {1001, -1000}, {1001, -1001}, {-1001, 1}, {-1001, 1000}, {2000, -1000}, {math.MaxInt64, -math.MaxInt64}, {math.MinInt64, math.MinInt64}, {1 << 62, -1 << 62}} {
			checkAdded(t, b, sameWeights(b, pair[0]), sameWeights(b, pair[1]), nil)
			for k := range b.Width * b.Height {
				zero := sameWeights(b, 0)
				checkAdded(t, b, weightsWith(zero, k, pair[0]), weightsWith(zero, k, pair[1]), nil)
			}
		}
		good := sameWeights(b, 1)
		for _, bad := range [][]int{nil, {}, good[1:], append(slices.Clone(good), 0), append(slices.Clone(good), good...)} {
			checkAdded(t, b, good, bad, nil)
			checkAdded(t, b, bad, bad, nil)
		}
	}
}

func TestNegativeWeights(t *testing.T) {
	row := impl.Rectangle(3, 1)
	checkSum(t, row, []int{-1, -2, -4}, 5, -5)
	checkFalling(t, row, []int{-1, 1, 0})
	checkFalling(t, row, []int{0, 1, -1})
	checkFalling(t, row, []int{-5, 0, -5})
	checkFalling(t, row, []int{-1000, 1000, 0})
	checkFalling(t, row, []int{-1000, 0, -1000})
	checkBroken(t, row, []int{-1, 0, 0}, line3(0, 1, 2))
	checkBroken(t, row, []int{0, 0, -1}, line3(2, 1, 0))
	checkBroken(t, row, []int{-1, -1, -1}, line3(0, 1, 2))
	checkBroken(t, row, []int{-5, -1, -5}, line3(0, 1, 2))
	checkBroken(t, row, []int{3, -1, 2}, line3(2, 1, 0))
	checkBroken(t, row, []int{2, -1, 3}, line3(0, 1, 2))
	checkLoss(t, row, []int{-1000, -1000, 1000}, line3(0, 1, 2), -3000)
	checkLoss(t, row, []int{1000, 1000, -1000}, line3(0, 1, 2), 3000)
	checkLoss(t, row, []int{-1, -2, -4}, line3(0, 1, 2), 1)
	checkLoss(t, row, []int{-1, -2, -4}, line3(2, 1, 0), -5)
	checkAdded(t, row, []int{-1, 1, 0}, []int{0, 1, -1}, []int{-1, 2, -1})
	square := impl.Rectangle(3, 3)
	checkFalling(t, square, []int{-1, 1, 0, 1, 1, 1, 0, 1, -1})
	checkBroken(t, square, []int{1, 1, 1, 1, -1, 1, 1, 1, 1}, line3(1, 4, 7))
}

func TestWeightsThatAreJustFalling(t *testing.T) {
	square := impl.Rectangle(3, 3)
	w := []int{1, 1, 2, 1, 1, 2, 1, 1, 2}
	checkFalling(t, square, w)
	checkLoss(t, square, w, line3(0, 1, 2), 0)
	checkLoss(t, square, w, line3(2, 1, 0), 2)
	checkLoss(t, square, w, line3(2, 5, 8), 2)
	checkSum(t, square, w, 35, 4)
	checkSum(t, square, w, 36, 4)
	checkSum(t, square, w, 256, 2)
	checkAdded(t, square, w, w, []int{2, 2, 4, 2, 2, 4, 2, 2, 4})
	checkFalling(t, square, sameWeights(square, 0))
	for k, broken := range map[int]impl.Line{2: line3(0, 1, 2), 5: line3(3, 4, 5), 8: line3(6, 7, 8)} {
		checkBroken(t, square, weightsWith(w, k, 3), broken)
	}
}

func TestBrokenLineIsTheFirst(t *testing.T) {
	square := impl.Rectangle(3, 3)
	firstTo := []impl.Line{line3(2, 1, 0), line3(7, 4, 1), line3(0, 1, 2), line3(5, 4, 3), {}, line3(3, 4, 5), line3(0, 3, 6), line3(1, 4, 7), line3(2, 5, 8)}
	for k, want := range firstTo {
		w := weightsWith(sameWeights(square, 0), k, 1)
		if want == (impl.Line{}) {
			checkFalling(t, square, w)
			continue
		}
		checkBroken(t, square, w, want)
	}
	// Every line is broken: the first one is another if holes are missing.
	checkBroken(t, square, sameWeights(square, -1), line3(0, 1, 2))
	checkBroken(t, impl.Board{Width: 3, Height: 3, Holes: 511 - 2}, sameWeights(square, -1), line3(0, 3, 6))
	checkBroken(t, impl.Board{Width: 3, Height: 3, Holes: 511 - 1}, sameWeights(square, -1), line3(1, 4, 7))
	checkBroken(t, impl.Board{Width: 3, Height: 3, Holes: 511 - 1 - 16}, sameWeights(square, -1), line3(2, 5, 8))
	checkBroken(t, impl.Board{Width: 3, Height: 3, Holes: 8 + 16 + 32}, sameWeights(square, -1), line3(3, 4, 5))
	cross := impl.CrossBoard()
	checkBroken(t, cross, weightsWith(sameWeights(cross, 0), 24, 1), line3(10, 17, 24))
}

func TestIndicesWithoutAHole(t *testing.T) {
	// The hole 1 is missing, and with it the line of the first row.
	for _, weight := range []int{-1000, -1, 0, 1, 1000} {
		w := []int{0, weight, 5, 1, 1, 1}
		checkFalling(t, notch(), w)
		checkSum(t, notch(), w, 5, 5)
		checkSum(t, notch(), w, notch().Holes, 8)
		checkSum(t, notch(), w, 2, 0)
		checkLoss(t, notch(), w, line3(0, 1, 2), 0)
		checkLoss(t, notch(), w, line3(3, 4, 5), 1)
	}
}

func TestBoardsWithoutLinesHaveFallingWeightsOnly(t *testing.T) {
	random := rand.New(rand.NewSource(96))
	for _, b := range []impl.Board{impl.Rectangle(1, 1), impl.Rectangle(2, 2), impl.Rectangle(2, 1), {Width: 7, Height: 7, Holes: 1 << 48}, {Width: 3, Height: 1, Holes: 5}, {Width: 3, Height: 3, Holes: 1 + 16 + 256}} {
		checkFalling(t, b, sameWeights(b, -1000))
		for range 20 {
			checkFalling(t, b, randomWeights(random, b, 1000))
		}
		checkLoss(t, b, sameWeights(b, 1), line3(0, 1, 2), 0)
		checkLoss(t, b, sameWeights(b, 1), impl.Line{}, 0)
	}
}

func TestLossOfLinesThatAreNotOfTheBoard(t *testing.T) {
	for _, b := range []impl.Board{notch(), ring(), impl.Rectangle(3, 3), impl.Rectangle(4, 2)} {
		w, lines := sameWeights(b, 7), linesByPlace(b)
		for from := -1; from <= 9; from++ {
			for over := -1; over <= 9; over++ {
				for to := -1; to <= 9; to++ {
					want := 0
					if slices.Contains(lines, line3(from, over, to)) {
						want = 7
					}
					checkLoss(t, b, w, line3(from, over, to), want)
				}
			}
		}
		for _, n := range outsideTheGrid(b) {
			for _, l := range []impl.Line{line3(n, 1, 2), line3(0, n, 2), line3(0, 1, n), line3(n, n, n), line3(n-2, n-1, n), line3(n, n-1, n-2), line3(3, 4, n), line3(n, 4, 5)} {
				checkLoss(t, b, w, l, 0)
			}
		}
	}
}

func TestSumsOfPositionsThatAreNotValid(t *testing.T) {
	for _, b := range []impl.Board{notch(), ring(), impl.Rectangle(3, 3), impl.Rectangle(1, 1), impl.Rectangle(7, 7), impl.CrossBoard()} {
		for _, p := range invalidPositions(b) {
			checkSum(t, b, sameWeights(b, 1), p, 0)
			checkSum(t, b, sameWeights(b, -1000), p, 0)
		}
	}
}

func TestWeightsOfInvalidBoards(t *testing.T) {
	boards := append(invalidBoards(),
		impl.Board{Width: 8, Height: 1, Holes: 255}, impl.Board{Width: 1, Height: 8, Holes: 255}, impl.Board{Width: -3, Height: -3, Holes: 511},
		impl.Board{Width: 3, Height: 3, Holes: 512}, impl.Board{Width: 3, Height: 3, Holes: 1023}, impl.Board{Width: 9, Height: 1, Holes: 511})
	for _, b := range boards {
		for _, count := range []int{0, 1, 6, 8, 9, 49, 56, 64} {
			checkNoWeights(t, b, make([]int, count))
			checkNoWeights(t, b, slices.Repeat([]int{-1}, count))
		}
	}
}

func TestAddingLeavesTheWeightsAsTheyAre(t *testing.T) {
	b := impl.Rectangle(3, 1)
	stored, other := []int{1, 2, 3, 90, 91}, []int{-4, 5, -6, 92, 93}
	v, w := stored[:3], other[:3]
	sums, _ := impl.AddWeights(b, v, w)
	impl.AddWeights(b, v, []int{1000, 1000, 1000})
	impl.IsFalling(b, w)
	impl.SumOf(b, w, 7)
	if want := []int{-3, 7, -3}; !slices.Equal(sums, want) {
		t.Fatalf("AddWeights(%v, %v): got %v, want %v", v, w, sums, want)
	}
	_ = append(sums[:1], 80, 81, 82)
	if !slices.Equal(stored, []int{1, 2, 3, 90, 91}) || !slices.Equal(other, []int{-4, 5, -6, 92, 93}) {
		t.Errorf("the weights and what is behind them: got %v and %v", stored, other)
	}
	zero := make([]int, 3)
	for _, lists := range [][2][]int{{v, zero}, {zero, v}, {zero, zero}, {v, v}} {
		result, ok := impl.AddWeights(b, lists[0], lists[1])
		if !ok {
			t.Fatalf("AddWeights(%v, %v): got false", lists[0], lists[1])
		}
		result[0] = 70
	}
	if !slices.Equal(v, []int{1, 2, 3}) || !slices.Equal(zero, []int{0, 0, 0}) {
		t.Errorf("AddWeights shares its result with its arguments, which are now %v and %v", v, zero)
	}
}
