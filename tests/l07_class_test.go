package tests

import (
	"slices"
	"testing"

	"loop.example/g03302/impl"
)

// sevenBySix is a board that is wider than it is high.
func sevenBySix() impl.Board { return impl.Rectangle(7, 6) }

// classByPegs counts, remainder by remainder, the pegs of a list, and tells for which ones the number is odd.
func classByPegs(b impl.Board, pegs []int) []int {
	class := []int{}
	for _, factor := range []int{1, 2} {
		for remainder := range 3 {
			count := 0
			for _, k := range pegs {
				if x, y := k%b.Width, k/b.Width; (x+factor*y)%3 == remainder {
					count++
				}
			}
			class = append(class, count%2)
		}
	}
	return class
}

// keyByPegs tells which neighbors in the class of a list of pegs differ.
func keyByPegs(b impl.Board, pegs []int) []int {
	class := classByPegs(b, pegs)
	key := []int{}
	for _, i := range []int{0, 1, 3, 4} {
		if class[i] != class[i+1] {
			key = append(key, 1)
		} else {
			key = append(key, 0)
		}
	}
	return key
}

// finalByPegs lists the holes of a board whose single peg has the key of a list of pegs.
func finalByPegs(b impl.Board, pegs []int) []int {
	key := keyByPegs(b, pegs)
	return slices.DeleteFunc(holesByPlace(b), func(k int) bool { return !slices.Equal(keyByPegs(b, []int{k}), key) })
}

// numberOf adds up the powers of 2 of the elements of a key that are 1.
func numberOf(key []int) int {
	return key[0] + 2*key[1] + 4*key[2] + 8*key[3]
}

func checkClass(t *testing.T, b impl.Board, p int, want ...int) {
	t.Helper()
	if got := impl.ClassOf(b, p); !slices.Equal(got, want) {
		t.Errorf("ClassOf(%v, %d): got %v, want %v", b, p, got, want)
	}
}

func checkKey(t *testing.T, b impl.Board, p int, want ...int) {
	t.Helper()
	if got := impl.KeyOf(b, p); !slices.Equal(got, want) || impl.KeyNumber(b, p) != numberOf(want) {
		t.Errorf("%v, %d: KeyOf %v and KeyNumber %d, want %v and %d", b, p, got, impl.KeyNumber(b, p), want, numberOf(want))
	}
}

func checkFinal(t *testing.T, b impl.Board, p int, want ...int) {
	t.Helper()
	if got := impl.FinalHoles(b, p); !slices.Equal(got, want) {
		t.Errorf("FinalHoles(%v, %d): got %v, want %v", b, p, got, want)
	}
}

// checkSameKey checks two positions in both orders.
func checkSameKey(t *testing.T, b impl.Board, p int, q int, want bool) {
	t.Helper()
	if impl.SameKey(b, p, q) != want || impl.SameKey(b, q, p) != want {
		t.Errorf("SameKey(%v, %d, %d): got %v, and %v the other way round", b, p, q, impl.SameKey(b, p, q), impl.SameKey(b, q, p))
	}
}

// checkClassOfPegs checks the functions of the chapter for the position of a list of pegs.
func checkClassOfPegs(t *testing.T, b impl.Board, pegs []int) {
	t.Helper()
	p := positionOf(pegs...)
	checkClass(t, b, p, classByPegs(b, pegs)...)
	checkKey(t, b, p, keyByPegs(b, pegs)...)
	checkFinal(t, b, p, finalByPegs(b, pegs)...)
	checkSameKey(t, b, p, p, true)
}

// checkNoClass checks that all functions of the chapter reject a position, beside itself and beside valid ones.
func checkNoClass(t *testing.T, b impl.Board, p int) {
	t.Helper()
	checkClass(t, b, p)
	checkFinal(t, b, p)
	if key, number := impl.KeyOf(b, p), impl.KeyNumber(b, p); len(key) != 0 || number != -1 {
		t.Errorf("%v, %d: KeyOf %v and KeyNumber %d", b, p, key, number)
	}
	for _, q := range []int{p, 0, b.Holes, p & b.Holes, -1} {
		checkSameKey(t, b, p, q, false)
	}
}

func TestClassesOfEveryBoard(t *testing.T) {
	eachBoard(func(b impl.Board) {
		eachPosition(b, func(pegs []int) { checkClassOfPegs(t, b, pegs) })
	})
}

func TestClassesOfAllPositions(t *testing.T) {
	for _, b := range []impl.Board{impl.Rectangle(3, 3), ring(), impl.Rectangle(4, 2), impl.Rectangle(2, 4), impl.Rectangle(7, 1), impl.Rectangle(1, 7)} {
		for p := range b.Holes + 1 {
			if p&b.Holes == p {
				checkClassOfPegs(t, b, holesByPlace(impl.Board{Width: b.Width, Height: b.Height, Holes: p}))
			}
		}
	}
}

func TestSameKeyOfAllPairs(t *testing.T) {
	for _, b := range []impl.Board{notch(), impl.Rectangle(3, 2), impl.Rectangle(2, 3), impl.Rectangle(6, 1), impl.Rectangle(1, 6)} {
		eachPosition(b, func(pegs []int) {
			eachPosition(b, func(others []int) {
				want := slices.Equal(keyByPegs(b, pegs), keyByPegs(b, others))
				checkSameKey(t, b, positionOf(pegs...), positionOf(others...), want)
			})
		})
	}
}

func TestNoGameChangesTheKey(t *testing.T) {
	eachGame(func(b impl.Board, _ []impl.Line, positions []int) {
		number := impl.KeyNumber(b, positions[0])
		for _, p := range positions {
			checkSameKey(t, b, positions[0], p, true)
			if got := impl.KeyNumber(b, p); got != number {
				t.Errorf("KeyNumber(%v, %d): got %d, and %d at the start %d", b, p, got, number, positions[0])
			}
		}
	})
}

func TestASinglePegIsLeftInAFinalHole(t *testing.T) {
	ended := 0
	eachGame(func(b impl.Board, _ []impl.Line, positions []int) {
		end := positions[len(positions)-1]
		if impl.CountPegs(b, end) != 1 {
			return
		}
		ended++
		left := holesByPlace(impl.Board{Width: b.Width, Height: b.Height, Holes: end})
		for _, p := range positions {
			if got := impl.FinalHoles(b, p); !slices.Contains(got, left[0]) {
				t.Errorf("FinalHoles(%v, %d): got %v, and a game leaves a peg in %d", b, p, got, left[0])
			}
		}
	})
	if ended < 1000 {
		t.Errorf("only %d games left a single peg", ended)
	}
}

func TestAJumpChangesTheWholeClass(t *testing.T) {
	eachGame(func(b impl.Board, _ []impl.Line, positions []int) {
		for i := range len(positions) - 1 {
			turned := []int{}
			for _, n := range impl.ClassOf(b, positions[i]) {
				turned = append(turned, 1-n)
			}
			checkClass(t, b, positions[i+1], turned...)
		}
	})
}

func TestFewFinalHoles(t *testing.T) {
	eachBoard(func(b impl.Board) {
		eachPosition(b, func(pegs []int) {
			final := impl.FinalHoles(b, positionOf(pegs...))
			for _, k := range final {
				// All of them are three columns and three rows apart.
				if k%b.Width%3 != final[0]%b.Width%3 || k/b.Width%3 != final[0]/b.Width%3 {
					t.Errorf("FinalHoles(%v, %d): got %v", b, positionOf(pegs...), final)
				}
			}
		})
	})
}

func TestClassOfTheEmptyPosition(t *testing.T) {
	eachBoard(func(b impl.Board) {
		checkClass(t, b, 0, 0, 0, 0, 0, 0, 0)
		checkKey(t, b, 0, 0, 0, 0, 0)
		checkFinal(t, b, 0)
		checkSameKey(t, b, 0, 0, true)
		for _, k := range holesByPlace(b) {
			checkSameKey(t, b, 0, impl.SinglePeg(b, k), false)
		}
	})
}

func TestClassesOfTheSquare(t *testing.T) {
	b := impl.Rectangle(3, 3)
	checkClass(t, b, 1, 1, 0, 0, 1, 0, 0)
	checkClass(t, b, 2, 0, 1, 0, 0, 1, 0)
	checkClass(t, b, 4, 0, 0, 1, 0, 0, 1)
	checkClass(t, b, 8, 0, 1, 0, 0, 0, 1)
	checkClass(t, b, 16, 0, 0, 1, 1, 0, 0)
	checkClass(t, b, 64, 0, 0, 1, 0, 1, 0)
	checkClass(t, b, 256, 0, 1, 0, 1, 0, 0)
	checkKey(t, b, 1, 1, 0, 1, 0)
	checkKey(t, b, 2, 1, 1, 1, 1)
	checkKey(t, b, 4, 0, 1, 0, 1)
	checkKey(t, b, 8, 1, 1, 0, 1)
	checkKey(t, b, 16, 0, 1, 1, 0)
	checkKey(t, b, 35, 1, 1, 1, 0)
	checkKey(t, b, 36, 1, 1, 1, 0)
	checkKey(t, b, 256, 1, 1, 1, 0)
	checkSameKey(t, b, 35, 256, true)
	checkSameKey(t, b, 35, 36, true)
	checkSameKey(t, b, 35, 16, false)
	checkSameKey(t, b, 1, 2, false)
	checkSameKey(t, b, 2, 8, false)
	checkFinal(t, b, 35, 8)
	checkFinal(t, b, 3, 2)
	checkFinal(t, b, 511)
}

func TestOddAndEvenNumbersOfPegs(t *testing.T) {
	// In one row, X + Y and X + 2*Y are both the index: the holes 0, 3 and 6 leave the remainder 0, 1 and 4 leave 1, and 2 and 5 leave 2.
	b := impl.Rectangle(7, 1)
	checkClass(t, b, positionOf(0, 3), 0, 0, 0, 0, 0, 0)
	checkClass(t, b, positionOf(0, 3, 6), 1, 0, 0, 1, 0, 0)
	checkClass(t, b, positionOf(1, 4), 0, 0, 0, 0, 0, 0)
	checkClass(t, b, positionOf(1, 2, 5), 0, 1, 0, 0, 1, 0)
	checkClass(t, b, positionOf(0, 1, 2), 1, 1, 1, 1, 1, 1)
	checkClass(t, b, 127, 1, 0, 0, 1, 0, 0)
	// The position with all three remainders has the key of the empty one, although another class.
	checkKey(t, b, positionOf(0, 1, 2), 0, 0, 0, 0)
	checkSameKey(t, b, positionOf(0, 1, 2), 0, true)
	checkFinal(t, b, positionOf(0, 1, 2))
	checkKey(t, b, 127, 1, 0, 1, 0)
	checkFinal(t, b, 127, 0, 3, 6)
	checkFinal(t, b, positionOf(1, 2), 0, 3, 6)
}

func TestClassesOfBoardsThatAreNotSquare(t *testing.T) {
	// The index 8 is the hole 1, 1 of seven columns, and the hole 0, 4 of two.
	checkClass(t, sevenBySix(), positionOf(8), 0, 0, 1, 1, 0, 0)
	checkClass(t, impl.Rectangle(2, 7), positionOf(8), 0, 1, 0, 0, 0, 1)
	checkClass(t, sevenBySix(), positionOf(41), 0, 0, 1, 0, 1, 0)
	checkClass(t, impl.Rectangle(6, 7), positionOf(41), 0, 0, 1, 0, 0, 1)
	checkFinal(t, sevenBySix(), positionOf(8), 8, 11, 29, 32)
	checkFinal(t, impl.Rectangle(1, 7), positionOf(0), 0, 3, 6)
	checkFinal(t, impl.Rectangle(1, 7), positionOf(0, 1), 2, 5)
	checkFinal(t, notch(), positionOf(2), 2)
	// A peg in the hole 1 would have this key, but this hole is missing.
	checkFinal(t, notch(), positionOf(0, 2))
}

func TestFinalHolesOfGreatBoards(t *testing.T) {
	b := impl.CrossBoard()
	checkFinal(t, b, impl.FullBut(b, 24), 3, 21, 24, 27, 45)
	checkFinal(t, b, impl.FullBut(b, 2), 2, 23, 26, 44)
	checkKey(t, b, b.Holes, 0, 0, 0, 0)
	checkFinal(t, b, b.Holes)
	checkFinal(t, impl.Rectangle(7, 7), 1, 0, 3, 6, 21, 24, 27, 42, 45, 48)
	checkFinal(t, impl.Rectangle(7, 7), 1<<49-1, 0, 3, 6, 21, 24, 27, 42, 45, 48)
}

func TestBoardsWithOneHole(t *testing.T) {
	for _, side := range [][2]int{{1, 1}, {7, 1}, {1, 7}, {3, 2}, {7, 7}} {
		for k := range side[0] * side[1] {
			b := impl.Board{Width: side[0], Height: side[1], Holes: positionOf(k)}
			checkFinal(t, b, positionOf(k), k)
			checkFinal(t, b, 0)
			checkSameKey(t, b, 0, positionOf(k), false)
			checkClassOfPegs(t, b, []int{k})
		}
	}
}

func TestEveryKeyNumber(t *testing.T) {
	b := impl.Rectangle(3, 3)
	counts := make([]int, 16)
	for p := range 512 {
		if number := impl.KeyNumber(b, p); number >= 0 && number < 16 {
			counts[number]++
		}
	}
	for number, count := range counts {
		// Single pegs have nine different keys, and the others are sums of these: the 512 positions are divided equally.
		if count != 32 {
			t.Errorf("the key number %d: got %d positions, want 32", number, count)
		}
	}
}

func TestClassesOfPositionsThatAreNotValid(t *testing.T) {
	for _, b := range []impl.Board{notch(), ring(), impl.Rectangle(3, 3), impl.Rectangle(1, 1), impl.Rectangle(7, 7), impl.CrossBoard(), {Width: 7, Height: 7, Holes: 1 << 48}} {
		for _, p := range invalidPositions(b) {
			checkNoClass(t, b, p)
		}
	}
}

func TestClassesOfInvalidBoards(t *testing.T) {
	for _, b := range invalidBoards() {
		for _, p := range append(greatInts(), -1, 0, 1, 5, 35, b.Holes) {
			checkNoClass(t, b, p)
		}
	}
}

func TestClassResultsAreNew(t *testing.T) {
	b := impl.Rectangle(7, 1)
	for _, result := range []func(b impl.Board, p int) []int{impl.ClassOf, impl.KeyOf, impl.FinalHoles} {
		first := result(b, 127)
		if len(first) < 3 {
			t.Fatalf("a result for %v, 127: got %v", b, first)
		}
		for i := range first {
			first[i] = -9
		}
		_ = append(first[:1], -9)
	}
	checkClass(t, b, 127, 1, 0, 0, 1, 0, 0)
	checkKey(t, b, 127, 1, 0, 1, 0)
	checkFinal(t, b, 127, 0, 3, 6)
}
